/- NlriGets: the walk, where lives is known. -/
import Derived.Test.YtgmcjejgginpjaaNlC
namespace Go.Proofs.Ytgmcjejgginpjaa
open Go.RowKit

def LivesN : Prop := ∀ u : World, Calls Try.prog 8 #[] u fun e w' => e = .returned (.bool true) ∧ Below u.heap.size u w'
set_option maxHeartbeats 4000000 in
theorem nlriGets_if (hlv : LivesN) (p : Option Addr) (xs : List Int) (n c : Nat) (paths : Bool) (w : World) (hb : BytesAt w p xs) (hn : xs.length = n) (hc : n ≤ c) (hm : c ≤ maxLen) :
    Calls Try.prog 4 #[.slice p n c, .bool paths] w fun e w' => e = .returned (.bool true) ∧ Below w.heap.size w w' := by
  by_cases hbig : 6000 < n
  · have t1 : decide (6000 < (n : Int)) = true := by simp; omega
    have HL := Lib.hid (hlv w)
    clear hb hn
    go_enter Try.func4, Try.ntmps4
    go_wp2_with fail
    refine HL.out.mono ?_; rintro e w1 ⟨rfl, hb1⟩
    have HB1 := Lib.hid hb1
    clear hb1
    go_wp2_with fail
    go_ret
    exact ⟨rfl, HB1.out⟩
  · have t1 : decide (6000 < (n : Int)) = false := by simp; omega
    have hG := getNl_any p xs n c paths w hb hn hc hm
    have hR := fun u (h : Below w.heap.size w u) => rgetNl_any p xs n c paths u (hb.below h) hn hc hm
    obtain ⟨R, hRR⟩ : ∃ R, getNls paths xs = R := ⟨_, rfl⟩
    rw [hRR] at hG
    simp only [hRR] at hR
    have HLV := fun u => Lib.hid (hlv u)
    clear hb hn hRR
    rcases R with _ | l
    · have HG := Lib.hid hG
      have HR := fun u h => Lib.hid (hR u h)
      clear hG hR
      go_enter Try.func4, Try.ntmps4
      go_wp2_with fail
      refine HG.out.mono ?_; rintro e w1 ⟨rfl, hb1⟩
      have HR1 := HR w1 hb1
      have HB1 := Lib.hid hb1
      clear hb1 HR HG
      go_wp2_with fail
      refine HR1.out.mono ?_; rintro e w2 ⟨rfl, hb2⟩
      have HB2 := Lib.hid (HB1.out.trans (hb2.mono HB1.out.size))
      have HL2 := HLV w2
      clear hb2 HR1 HLV
      go_wp2_with fail
      refine HL2.out.mono ?_; rintro e w3 ⟨rfl, hb3⟩
      have HB3 := Lib.hid (HB2.out.trans (hb3.mono HB2.out.size))
      have HS := Lib.hid (rsameNl_yes none none [] 0 0 0 w3 (NlsAt.nil _ _) (NlsAt.nil _ _) rfl (by unfold maxLen; omega))
      clear hb3 HL2
      go_wp2_with fail
      refine HS.out.mono ?_; rintro e w4 ⟨rfl, hb4⟩
      have HB4 := Lib.hid (HB3.out.trans (hb4.mono HB3.out.size))
      clear hb4
      go_wp2_with fail
      go_ret
      exact ⟨rfl, HB4.out⟩
    · obtain ⟨m, hm2⟩ : ∃ m, l.length = m := ⟨_, rfl⟩
      have HG := Lib.hid hG
      have HR := fun u h => Lib.hid (hR u h)
      unfold NlsTo at HG
      unfold RNlsTo at HR
      simp only [hm2] at HG HR
      have HM := Lib.hid hm2
      clear hG hR hm2
      go_enter Try.func4, Try.ntmps4
      go_wp2_with fail
      refine HG.out.mono ?_; rintro e w1 ⟨q1, c1, rfl, ho1, hb1⟩
      have HR1 := HR w1 hb1
      have HB1 := Lib.hid hb1
      have HO1 := Lib.hid ho1
      clear hb1 ho1 HR HG
      go_wp2_with fail
      refine HR1.out.mono ?_; rintro e w2 ⟨q2, c2, rfl, ho2, hb2⟩
      have HB2 := Lib.hid (HB1.out.trans (hb2.mono HB1.out.size))
      have HN1 := Lib.hid (HO1.out.below hb2).at
      have HN2 := Lib.hid ho2.at
      have hcap := Nat.le_trans ho2.cap.1 ho2.cap.2
      have HL2 := HLV w2
      clear hb2 ho2 HR1 HLV HO1
      go_wp2_with fail
      refine HL2.out.mono ?_; rintro e w3 ⟨rfl, hb3⟩
      have HB3 := Lib.hid (HB2.out.trans (hb3.mono HB2.out.size))
      have HS := Lib.hid (rsameNl_yes q1 q2 l m c1 c2 w3 (HN1.out.below hb3) (HN2.out.below hb3) HM.out hcap)
      clear hb3 HL2
      go_wp2_with fail
      refine HS.out.mono ?_; rintro e w4 ⟨rfl, hb4⟩
      have HB4 := Lib.hid (HB3.out.trans (hb4.mono HB3.out.size))
      clear hb4
      go_wp2_with fail
      go_ret
      exact ⟨rfl, HB4.out⟩
end Go.Proofs.Ytgmcjejgginpjaa
