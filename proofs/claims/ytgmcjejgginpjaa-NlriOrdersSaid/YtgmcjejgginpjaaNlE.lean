/- NlriPuts: the walk, where lives is known. -/
import Derived.Test.YtgmcjejgginpjaaNlD
namespace Go.Proofs.Ytgmcjejgginpjaa
open Go.RowKit

theorem ret_boolN {x y : Bool} (h : x = y) : Ending.returned (.bool x) = Ending.returned (.bool y) := by rw [h]
theorem getNls_put (paths : Bool) (l : List Nl) (hx : ∀ i, i < l.length → InAddr (l.getD i Nl.none)) (hk : okNls l paths = true) : getNls paths (nlsL paths l) = some l := by
  obtain ⟨h24, hodd⟩ := okNls_yes hk
  refine getNl_put paths l _ 0 (fun x hm => ?_) (by omega) (Nat.lt_succ_self _)
  obtain ⟨i, hi, rfl⟩ := List.getElem_of_mem hm
  have h1 := hx i hi
  have h2 := hodd i hi
  simp only [List.getD, List.getElem?_eq_getElem hi, Option.getD_some] at h1 h2
  exact ⟨h1, h2⟩
set_option maxRecDepth 100000 in
set_option maxHeartbeats 4000000 in
theorem nlriPuts_if (hlv : LivesN) (p : Option Addr) (l : List Nl) (n c : Nat) (paths : Bool) (w : World) (hx : NlsAt w p l) (hn : l.length = n) (hm : n ≤ maxLen) :
    Calls Try.prog 3 #[.slice p n c, .bool paths] w fun e w' => e = .returned (.bool true) ∧ Below w.heap.size w w' := by
  have hm' : n ≤ 9223372036854775807 := by unfold maxLen at hm; omega
  by_cases hbig : 1100 < n
  · have t1 : decide (1100 < (n : Int)) = true := by simp; omega
    have HL := Lib.hid (hlv w)
    clear hx hn
    go_enter Try.func3, Try.ntmps3
    go_wp2_with fail
    refine HL.out.mono ?_; rintro e w1 ⟨rfl, hb1⟩
    have HB1 := Lib.hid hb1
    clear hb1
    go_wp2_with fail
    go_ret
    exact ⟨rfl, HB1.out⟩
  · have t1 : decide (1100 < (n : Int)) = false := by simp; omega
    have HLV := fun u => Lib.hid (hlv u)
    have hRC := fun u (h : Below w.heap.size w u) => rcheckNl_any p l n c paths u (hx.below h) hn hm
    have hCK := fun u (h : Below w.heap.size w u) => checkNl_any p l n c paths u (hx.below h) hn hm
    rcases hok : okNls l paths with _ | _
    · have HP := Lib.hid (putNl_no p l n c paths w hx hn hm hok)
      have herr : errNls l paths = 60 := by simp [errNls, hok]
      simp only [hok] at hRC
      simp only [herr] at hCK
      have HRC := fun u h => Lib.hid (hRC u h)
      have HCK := fun u h => Lib.hid (hCK u h)
      clear hx hn hRC hCK hok herr
      go_enter Try.func3, Try.ntmps3
      go_wp2_with fail
      refine HP.out.mono ?_; rintro e w1 ⟨rfl, hb1⟩
      have HB1 := Lib.hid hb1
      have HL1 := HLV w1
      clear hb1 HP HLV
      go_wp2_with fail
      refine HL1.out.mono ?_; rintro e w2 ⟨rfl, hb2⟩
      have hb := HB1.out.trans (hb2.mono HB1.out.size)
      have HR2 := HRC w2 hb
      have HB2 := Lib.hid hb
      clear hb hb2 HL1 HRC
      go_wp2_with fail
      refine HR2.out.mono ?_; rintro e w3 ⟨rfl, hb3⟩
      have hb := HB2.out.trans (hb3.mono HB2.out.size)
      have HC3 := HCK w3 hb
      have HB3 := Lib.hid hb
      clear hb hb3 HR2 HCK
      go_wp2_with fail
      refine HC3.out.mono ?_; rintro e w4 ⟨rfl, hb4⟩
      have HB4 := Lib.hid (HB3.out.trans (hb4.mono HB3.out.size))
      clear hb4
      go_wp2_with fail
      go_ret
      exact ⟨rfl, HB4.out⟩
    · have hgp := getNls_put paths l hx.addr hok
      have hPY := putNl_ok p l n c paths w hx hn hok
      have hRP := fun u (h : Below w.heap.size w u) => rputNl_any p l n c paths u (hx.below h) hn hok
      have herr : errNls l paths = 0 := by simp [errNls, hok]
      simp only [hok] at hRC
      simp only [herr] at hCK
      obtain ⟨xs, hxs⟩ : ∃ xs, nlsL paths l = xs := ⟨_, rfl⟩
      rw [hxs] at hPY hgp
      simp only [hxs] at hRP
      obtain ⟨m, hm2⟩ : ∃ m, xs.length = m := ⟨_, rfl⟩
      rw [hm2] at hPY
      simp only [hm2] at hRP
      have HXM := Lib.hid hm2
      obtain ⟨S, hSS⟩ : ∃ S : ByteArray, strOfNums xs = S := ⟨_, rfl⟩
      have HSS := Lib.hid hSS
      have HPY := Lib.hid hPY
      have HRP := fun u h => Lib.hid (hRP u h)
      have HRC := fun u h => Lib.hid (hRC u h)
      have HCK := fun u h => Lib.hid (hCK u h)
      have HXL := fun u (h : Below w.heap.size w u) => Lib.hid (hx.below h)
      have HGP := Lib.hid hgp
      have HN := Lib.hid hn
      clear hx hn hRC hCK hok herr hgp hPY hRP hxs hm2 hSS
      go_enter Try.func3, Try.ntmps3
      go_wp2_with fail
      refine HPY.out.mono ?_; rintro e w1 ⟨q, cap, rfl, hO, hb1⟩
      have HB1 := Lib.hid hb1
      have O1 := Lib.hid hO
      have HL1 := HLV w1
      clear hb1 HPY HLV hO
      go_wp2_with fail
      refine HL1.out.mono ?_; rintro e w2 ⟨rfl, hb2⟩
      have hb := HB1.out.trans (hb2.mono HB1.out.size)
      have HR2 := HRC w2 hb
      have HB2 := Lib.hid hb
      have O2 := Lib.hid (O1.out.below hb2)
      clear hb hb2 HL1 HRC O1
      go_wp2_with fail
      refine HR2.out.mono ?_; rintro e w3 ⟨rfl, hb3⟩
      have hb := HB2.out.trans (hb3.mono HB2.out.size)
      have O3 := Lib.hid (O2.out.below hb3)
      have hg := getNl_any q xs m cap paths w3 O3.out.bytes HXM.out (by have := O3.out.le; have := HXM.out; omega) O3.out.max
      rw [HGP.out] at hg
      unfold NlsTo at hg
      simp only [HN.out] at hg
      have HG := Lib.hid hg
      have HB3 := Lib.hid hb
      clear hb hb3 HR2 O2 hg
      go_wp2_with fail
      refine HG.out.mono ?_; rintro e w4 ⟨q4, c4, rfl, ho4, hb4⟩
      have HB4 := Lib.hid (HB3.out.trans (hb4.mono HB3.out.size))
      have HA4 := Lib.hid ho4.at
      have O4 := Lib.hid (O3.out.below hb4)
      have BB : Hid (Below w4.heap.size w4 w4.drew) := Lib.hid (Below.refl _ _).drew
      have HALL := Lib.hid (fun X (h : Below w4.heap.size w4 X) => show (convert 24 9 (.slice q m cap)).run Try.prog X = .ok (.string S) X from by
        have h := run_text (O4.out.below h).bytes cap
        rw [HXM.out, HSS.out] at h; exact h)
      have HWV := fun X (h : Below w4.heap.size w4 X) => Lib.hid (HB4.out.trans (h.mono HB4.out.size))
      have hS := HALL.out _ BB.out
      clear ho4 hb4 HG O3 O4
      go_wp2_with fail
      go_region_held (fun w' => (convert 24 9 (.slice q m cap)).run Try.prog w' = .ok (.string S) w') (with_reducible assumption) (first
        | (go_at_call 11; (with_reducible refine (HCK _ (HWV _ BB.out).out).out.mono ?_); rintro e v ⟨rfl, hb⟩; have BB := Lib.hid (BB.out.trans (hb.mono BB.out.size)); have hS := HALL.out _ BB.out; clear hb)
        | (go_at_call 13; (with_reducible refine (HRP _ (HWV _ BB.out).out).out.mono ?_); rintro e v ⟨p6, cap6, rfl, hO6, hb⟩; have BB := Lib.hid (BB.out.trans (hb.mono BB.out.size)); have hS := HALL.out _ BB.out; have d6 := run_text hO6.bytes cap6; rw [HXM.out, HSS.out] at d6; clear hb hO6)
        | (go_at_call 14; (with_reducible refine (rsameNl_yes p q4 l n c c4 _ (HXL _ (HWV _ BB.out).out).out (HA4.out.below BB.out) HN.out hm).mono ?_); rintro e v ⟨rfl, hb⟩; have BB := Lib.hid (BB.out.trans (hb.mono BB.out.size)); have hS := HALL.out _ BB.out; clear hb))
      all_goals
        go_wp2_with fail
        go_ret
        exact ⟨ret_boolN (by simp), (HWV _ BB.out).out⟩
end Go.Proofs.Ytgmcjejgginpjaa
