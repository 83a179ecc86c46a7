/- capa: CapaTakes' walk. -/
import Derived.Test.YtlkpalaakncicaaUqA
namespace Go.Proofs.Ytlkpalaakncicaa
open Go.RowKit Go.Maps
set_option linter.unusedVariables false
set_option linter.unusedSimpArgs false
set_option maxRecDepth 100000

theorem CapAt.foreign {w w' : World} {B c h b mb nn x : Nat} {F : Nat → TrF} {l : List Ifc} {f : Int → Option Cy} {S : Nat → Sr} {vs : List Value} (H : CapAt w B c h b mb nn F l f S) (hX : Blk w x RFf vs) (hT : Turns (fun k => k = x) w w') : CapAt w' B c h b mb nn F l f S := by
  obtain ⟨s, hm0⟩ := H.map
  obtain ⟨es, cl, hh⟩ := hm0.heap
  obtain ⟨es2, cl2, hh2⟩ := H.hop.mapHeap
  refine ⟨H.hop.kept fun k hk hc => hT.block k hk ?_, H.blk.of_same (hT.block c H.blk.lt (fun e => ?_)), ⟨s, hm0.of_same (hT.block mb hm0.lt (fun e => hX.notMap hh e.symm))⟩, H.ne, H.bc, H.bm⟩
  · intro e
    subst e
    rcases hc with rfl | ⟨T, vs', hT', hv⟩
    · exact hX.notMap hh2 rfl
    · have e := hX.type hv
      subst e
      revert hT'
      decide
  · subst e
    have e2 := hX.type H.blk
    revert e2; decide
theorem LSl.foreign {w W W' : World} {l : List Ifc} {c h b mb N x : Nat} {F : Nat → TrF} {f : Int → Option Cy} {S : Nat → Sr} {vs : List Value} (H : LSl w W l c h b mb N F f S) (hX : Blk W x RFf vs) (hwx : w.heap.size ≤ x) (hT : Turns (fun k => k = x) W W') : LSl w W' l c h b mb N F f S := by
  obtain ⟨⟨nn, h1, h2⟩, h3⟩ := H
  exact ⟨⟨nn, h1, h2.foreign hX hT⟩, h3.trans (hT.below h3.size (fun k e => e ▸ hwx))⟩
theorem LSl.more {w W : World} {l : List Ifc} {c h b mb N N' : Nat} {F : Nat → TrF} {f : Int → Option Cy} {S : Nat → Sr} (H : LSl w W l c h b mb N F f S) (hN : N ≤ N') : LSl w W l c h b mb N' F f S := by
  obtain ⟨⟨nn, h1, h2⟩, h3⟩ := H
  exact ⟨⟨nn, by omega, h2⟩, h3⟩
theorem LSl.bel {w W : World} {l : List Ifc} {c h b mb N : Nat} {F : Nat → TrF} {f : Int → Option Cy} {S : Nat → Sr} (H : LSl w W l c h b mb N F f S) : Below w.heap.size w W := H.2
theorem RfAt.box {w : World} {x : Nat} {L : List Cy} {A T : Nat → Int} (H : RfAt w x L A T) : ∃ vs, Blk w x RFf vs := by
  obtain ⟨⟨q, n, cap, h1, _⟩⟩ := H
  exact ⟨_, h1⟩
theorem sok_take {l : List Ifc} {S : Nat → Sr} (h : SOk S) (src seq : Int) (L : List Cy) (now : Int) (hq : takeE l S src seq L now = 0 → 0 ≤ seq) : SOk (takeS l S src seq L now) := by
  unfold takeS
  split
  · rename_i h0
    intro i
    unfold setS
    split
    · exact ⟨fun e => (by cases e), fun _ => hq h0⟩
    · exact h i
  · exact h
theorem seq_ok {l : List Ifc} {S : Nat → Sr} {src seq : Int} {L : List Cy} {now : Int} (h : takeE l S src seq L now = 0) : 0 ≤ seq := by
  unfold takeE at h
  rcases ho : okCar src seq L with _ | _
  · rw [ho] at h; simp at h
  · unfold okCar at ho
    simp only [Bool.and_eq_true] at ho
    exact ((isCap_iff seq).1 ho.2.1).1
set_option maxHeartbeats 16000000 in
theorem takes_walk (w : World) (p : Option Addr) (l : List Ifc) (n c' : Nat) (hl : IfsAt w p l) (hn : l.length = n) (hm : n ≤ maxLen) (q : Option Addr) (os : List Ot) (m d : Nat) (ho : LAt otC (fun _ => True) Ot.zero 4 w q os) (hoo : ∀ o ∈ os, OtAt w o) (hmo : os.length = m) (hmm : m ≤ maxLen) (pm : Int) :
    Calls Try.prog 4 #[.slice p n c', .slice q m d, .int .i64 pm] w fun e w' => e = .returned (.bool true) ∧ Below w.heap.size w w' := by
  have HL := Lib.hid hl
  have HN := Lib.hid hn
  have HM := Lib.hid hm
  have HO := Lib.hid ho
  have HOO := Lib.hid hoo
  have HMO := Lib.hid hmo
  have hck := rcheckI_any p l n c' w hl hn hm
  obtain ⟨ok, hok⟩ : ∃ o, okIfs l = o := ⟨_, rfl⟩
  rw [hok] at hck
  have HCK := Lib.hid hck
  have HOK := Lib.hid hok
  unfold maxLen at hmm
  clear hl hn ho hoo hmo hck hok
  by_cases h100 : n ≤ 100
  rotate_left
  · have t0 : decide ((100 : Int) < (n : Int)) = true := decide_eq_true (by omega)
    go_enter Try.func4, Try.ntmps4
    go_wp2_with (go_at_call 19; refine (lives18_any _).mono ?_; rintro e w3 ⟨rfl, hb3⟩)
    go_ret
    exact ⟨rfl, hb3⟩
  have t0 : decide ((100 : Int) < (n : Int)) = false := decide_eq_false (by omega)
  rcases ok with _ | _
  · go_enter Try.func4, Try.ntmps4
    go_wp2_with fail
    refine HCK.out.mono ?_
    rintro e w2 ⟨rfl, hb⟩
    have HB2 := Lib.hid hb
    clear hb
    go_wp2_with (go_at_call 19; refine (lives18_any _).mono ?_; rintro e w3 ⟨rfl, hb3⟩)
    go_ret
    exact ⟨rfl, HB2.out.trans (hb3.mono HB2.out.size)⟩
  have HIN := Lib.hid HL.out.ok
  go_enter Try.func4, Try.ntmps4
  go_wp2_with fail
  refine HCK.out.mono ?_
  rintro e w2 ⟨rfl, hb⟩
  have HB2 := Lib.hid hb
  have HNW := Lib.hid (news_any w w2 hb p l n c' (HL.out.below hb) HN.out HOK.out)
  clear hb HCK
  go_wp2_with fail
  refine HNW.out.mono ?_
  rintro e w3 ⟨h, b, F, rfl, hb, hN2⟩
  have HN2 := Lib.hid hN2
  clear hb hN2 HNW
  go_wp2_with fail
  refine HN2.out.mono ?_
  rintro e w4 ⟨c, mb, rfl, hb, hls⟩
  have HL4 := Lib.hid hls
  have HRN := Lib.hid (rnewC_any w4 p l n c' (HL.out.below hls.2) HN.out HOK.out HIN.out)
  clear hb hls HN2
  go_wp2_with fail
  refine HRN.out.mono ?_
  rintro e w5 ⟨x, ss, rfl, hperm, hsort, hrf, hx, hb⟩
  have HL5 := Lib.hid (HL4.out.next hb)
  have HR5 := Lib.hid hrf
  have HPM := Lib.hid hperm
  have HST := Lib.hid hsort
  have HCX := Lib.hid (show c < x ∧ mb < x ∧ w.heap.size ≤ x from by have h1 := HL4.out.lt; have h2 := HL4.out.ltm; have h3 := HL4.out.2.size; exact ⟨by omega, by omega, by omega⟩)
  have HLV := Lib.hid (lives18_any w5)
  have HSN := Lib.hid (show ss.length = n from by rw [← hperm.length_eq]; exact HN.out)
  clear hb hperm hsort hrf hx HRN HL4
  go_wp2_with fail
  refine HLV.out.mono ?_
  rintro e w6 ⟨rfl, hb⟩
  have HL6 := Lib.hid (HL5.out.next hb)
  have HR6 := Lib.hid (HR5.out.below hb)
  clear hb HLV HL5 HR5
  go_wp2_with fail
  go_loopw [12] (fun v wr => ∃ (i : Nat) (f : Int → Option Cy) (S : Nat → Sr), i ≤ m ∧ i ≤ 40 ∧ v = .int .i64 i ∧ LSl w wr l c h b mb (256 * i) F f S ∧ FOk f ∧ SOk S ∧ RfAt wr x (ss.map (carryV f)) (rS S) (rT S)) (fun v _ => m - (intOf v).toNat)
  case atStart => exact ⟨0, _, _, Nat.zero_le _, Nat.zero_le _, rfl, HL6.out, fok_none, sok0, HR6.out⟩
  case round =>
    obtain ⟨i, f, S, hi, hi40, rfl, hls, hfok, hsok, hrf⟩ := hrel
    have HLS := Lib.hid hls
    have HFK := Lib.hid hfok
    have HSK := Lib.hid hsok
    have HRF := Lib.hid hrf
    clear hls hfok hsok hrf
    by_cases hlt : i < m ∧ i < 40
    · obtain ⟨hlt, hlt40⟩ := hlt
      have hlt' : (i : Int) < (m : Int) := by omega
      have hlt4' : (i : Int) < 40 := by omega
      have i0 : (0 : Int) ≤ (i : Int) := by omega
      have td1 : decide ((i : Int) < (m : Int)) = true := decide_eq_true hlt'
      have td2 : decide ((i : Int) < 40) = true := decide_eq_true hlt4'
      obtain ⟨b', off, rfl, hc⟩ := (HO.out.below HLS.out.2).cell HMO.out hlt
      have hoi := HOO.out (os.getD i Ot.zero) (by simp [List.getD, show i < os.length by rw [HMO.out]; exact hlt])
      obtain ⟨o, ho⟩ : ∃ o, os.getD i Ot.zero = o := ⟨_, rfl⟩
      rw [ho] at hc hoi
      obtain ⟨os_, oq, op, oL, oc, onow⟩ := o
      obtain ⟨oN, hoN⟩ : ∃ N, oL.length = N := ⟨_, rfl⟩
      have e0 : wr.cell? ⟨b', off + i * 4, none⟩ = some (.int .i64 os_) := hc 0 _ rfl
      have e1 := hc 1 _ rfl
      have e2 := hc 2 _ rfl
      have e3 := hc 3 _ rfl
      dsimp only at e0 e1 e2 e3
      rw [hoN] at e2
      have HON := Lib.hid hoN
      have HOI := Lib.hid hoi
      have hb1 := newB wr (.cells #[.int .i64 os_, .int .i64 oq, .slice op oN oc, .int .i64 onow] 55)
      have hX := Blk.new wr 55 [.int .i64 os_, .int .i64 oq, .slice op oN oc, .int .i64 onow]
      obtain ⟨P, hP⟩ : ∃ P, wr.heap.size = P := ⟨_, rfl⟩
      obtain ⟨W1, hW1⟩ : ∃ W1, wr.alloc (.cells #[.int .i64 os_, .int .i64 oq, .slice op oN oc, .int .i64 onow] 55) = W1 := ⟨_, rfl⟩
      rw [hW1] at hb1 hX
      rw [hP] at hX
      have HX1 := Lib.hid hX
      have HL1 := Lib.hid (HLS.out.next hb1)
      have HR1 := Lib.hid (HRF.out.below hb1)
      have HW1 := Lib.hid hW1
      have HPE := Lib.hid hP
      have p2 : (wr.alloc (.cells #[.int .i64 os_, .int .i64 oq, .slice op oN oc, .int .i64 onow] 55)).cell? ⟨wr.heap.size, 2, none⟩ = some (.slice op oN oc) := by
        rw [hW1, hP]; exact hX.cell 2 (by simp)
      clear ho hc hoi hoN hb1 hX hW1 hP
      by_cases h1 : oN ≤ 100
      · have td3 : decide ((100 : Int) < (oN : Int)) = false := decide_eq_false (by omega)
        have hnm : oN ≤ maxLen := by unfold maxLen; omega
        have HPG := Lib.hid (show c < P ∧ mb < P ∧ x < P from by
          have h1 := HLS.out.lt; have h2 := HLS.out.ltm; have h3 := HRF.out.lt
          rw [HPE.out] at h1 h2 h3
          exact ⟨h1, h2, h3⟩)
        have HCB := Lib.hid (fun (U : World) (hU : Blk U P 55 [.int .i64 os_, .int .i64 oq, .slice op oN oc, .int .i64 onow]) => show U.cell? ⟨P, 0, none⟩ = some (.int .i64 os_) ∧ U.cell? ⟨P, 1, none⟩ = some (.int .i64 oq) ∧ U.cell? ⟨P, 2, none⟩ = some (.slice op oN oc) ∧ U.cell? ⟨P, 3, none⟩ = some (.int .i64 onow) from ⟨hU.cell 0 (by simp), hU.cell 1 (by simp), hU.cell 2 (by simp), hU.cell 3 (by simp)⟩)
        obtain ⟨o1, ho1⟩ : ∃ o, okCar os_ oq oL = o := ⟨_, rfl⟩
        have hc1 := fun (U : World) (hU : Below W1.heap.size W1 U) => ccheck_any os_ oq op oL oN oc U (HOI.out.at_.below (HL1.out.next hU).2) HON.out hnm
        have hc2 := fun (U : World) (hU : Below W1.heap.size W1 U) => rccheck_any os_ oq op oL oN oc U (HOI.out.at_.below (HL1.out.next hU).2) HON.out hnm
        rw [ho1] at hc1 hc2
        obtain ⟨E, hE⟩ : ∃ E, takeE l S os_ oq oL onow = E := ⟨_, rfl⟩
        have HEE := Lib.hid hE
        have HSQ := Lib.hid (fun (h : E = 0) => seq_ok (hE.trans h))
        have HSK2 := Lib.hid (sok_take HSK.out os_ oq oL onow (fun h => seq_ok h) : SOk (takeS l S os_ oq oL onow))
        have HF2 := Lib.hid (fok_take (l := l) (S := S) HFK.out os_ oq oL onow HOI.out.at_.ok)
        have hT3 := fun (U : World) (hU : Below W1.heap.size W1 U) => (HL1.out.next hU).take (by omega) os_ oq onow op oL oN oc (HOI.out.at_.below (HL1.out.next hU).2) HON.out hnm (fun hne b9 o9 e9 => by have := LAt.lt rowCy HOI.out.at_ hne e9; have := HLS.out.le; omega)
        rw [hE] at hT3
        have HT3 := Lib.hid (fun (U : World) (hU : Below W1.heap.size W1 U) => (hT3 U hU).mono (fun e w' hh => show e = .returned (.int .i64 E) ∧ Turns (fun k => k = c ∨ k = mb) W1 w' ∧ LSl w w' l c h b mb (256 * i + 256) F (takeF l S f os_ oq oL onow) (takeS l S os_ oq oL onow) ∧ RfAt w' x (ss.map (carryV f)) (rS S) (rT S) from ⟨hh.1, (Turns.of_below hU).trans hh.2.1, hh.2.2, (HR1.out.below hU).turns hh.2.1 HCX.out.1 HCX.out.2.1⟩))
        have hT4 := fun (U : World) (hr : RfAt U x (ss.map (carryV f)) (rS S) (rT S)) (hB : Below w.heap.size w U) => rtake_any U x l ss f S HSK.out os_ oq onow op oL oN oc (HOI.out.at_.below hB) HON.out hnm (fun hne b9 o9 e9 => by have := LAt.lt rowCy HOI.out.at_ hne e9; have := HCX.out.2.2; omega) hr HFK.out HPM.out HST.out (by rw [HSN.out]; omega)
        rw [hE] at hT4
        have HT4 := Lib.hid hT4
        have hee : (E != E) = false := by simp
        have BB : Hid (Below W1.heap.size W1 W1.drew) := Lib.hid (Below.refl _ _).drew
        have hS := HCB.out W1.drew HX1.out.drew
        clear hT3 hT4 hE ho1 p2
        go_wp2_with fail
        rw [HW1.out, HPE.out]
        rcases o1 with _ | _
        all_goals
          have HC1 := Lib.hid (fun (U : World) (hU : Below W1.heap.size W1 U) => (hc1 U hU).mono (fun e w' hh => (⟨hh.1, hU.trans (hh.2.mono hU.size)⟩ : _ ∧ Below W1.heap.size W1 w')))
          have HC2 := Lib.hid (fun (U : World) (hU : Below W1.heap.size W1 U) => (hc2 U hU).mono (fun e w' hh => (⟨hh.1, hU.trans (hh.2.mono hU.size)⟩ : _ ∧ Below W1.heap.size W1 w')))
          clear hc1 hc2
          go_region_held_law (fun W => W.cell? ⟨P, 0, none⟩ = some (.int .i64 os_) ∧ W.cell? ⟨P, 1, none⟩ = some (.int .i64 oq) ∧ W.cell? ⟨P, 2, none⟩ = some (.slice op oN oc) ∧ W.cell? ⟨P, 3, none⟩ = some (.int .i64 onow)) (with_reducible assumption) (first
            | (go_at_call 22; (with_reducible refine (HC1.out _ BB.out).mono ?_); rintro e v ⟨rfl, hb⟩; have BB := Lib.hid hb; have hS := HCB.out _ (HX1.out.next hb); clear hb)
            | (go_at_call 23; (with_reducible refine (HC2.out _ BB.out).mono ?_); rintro e v ⟨rfl, hb⟩; have BB := Lib.hid hb; have hS := HCB.out _ (HX1.out.next hb); clear hb)
            | (go_at_call 24; (with_reducible refine (HT3.out _ BB.out).mono ?_); rintro e v ⟨rfl, htn, hls, hrf⟩; have HX3 := Lib.hid (HX1.out.of_same (htn.block P HX1.out.lt (fun e => by have := HPG.out; omega))); have HL3 := Lib.hid hls; have HR3 := Lib.hid hrf; have hS := HCB.out _ HX3.out; clear htn hls hrf)
            | (go_at_call 25; (with_reducible refine (HT4.out _ HR3.out HL3.out.bel).mono ?_); rintro e v ⟨rfl, htn, hrf⟩; have HX4 := Lib.hid (HX3.out.of_same (htn.block P HX3.out.lt (fun e => by have := HPG.out; omega))); have HL4 := Lib.hid (HL3.out.foreign HR3.out.box.choose_spec HCX.out.2.2 htn); have HR4 := Lib.hid hrf; have hS := HCB.out _ HX4.out; clear htn hrf))
          obtain ⟨f', hf'⟩ : ∃ f', takeF l S f os_ oq oL onow = f' := ⟨_, rfl⟩
          obtain ⟨S', hS'⟩ : ∃ S', takeS l S os_ oq oL onow = S' := ⟨_, rfl⟩
          rw [hf', hS'] at HL4 HR4
          rw [hf'] at HF2
          rw [hS'] at HSK2
          obtain ⟨⟨sa, sh⟩, hst⟩ : ∃ s, stampC S' os_ = s := ⟨_, rfl⟩
          have h1 := HL4.out.stamp os_
          rw [hst] at h1
          dsimp only at h1
          have HSA := Lib.hid h1
          have HSB := Lib.hid (fun (U : World) (hr : RfAt U x (ss.map (carryV f')) (rS S') (rT S')) => show Calls Try.prog 27 #[.pointer (some ⟨x, 0, none⟩), .int .i64 os_] U fun e w' => e = .returned (.tuple #[.int .i64 sa, .bool sh]) ∧ Below U.heap.size U w' from by
            have h2 := rstamp_any U x _ S' hr HSK2.out os_
            rw [hst] at h2
            exact h2)
          clear hf' hS' hst h1 HC1 HC2 HT3 HT4 BB
          go_wp2_with fail
          refine HSA.out.mono ?_
          rintro e v5 ⟨rfl, hb⟩
          have HL5 := Lib.hid (HL4.out.next hb)
          have HR5 := Lib.hid (HR4.out.below hb)
          have HX5 := Lib.hid (HX4.out.next hb)
          obtain ⟨p0, p1, p2, p3⟩ := HCB.out _ HX5.out
          have HSB5 := Lib.hid (HSB.out v5 HR5.out)
          clear hb hS HSA HSB
          go_wp2_with fail
          refine HSB5.out.mono ?_
          rintro e v6 ⟨rfl, hb⟩
          have HL6 := Lib.hid (HL5.out.next hb)
          have HR6 := Lib.hid (HR5.out.below hb)
          have HX6 := Lib.hid (HX5.out.next hb)
          have hsa : (sa != sa) = false := by simp
          have hsh : (sh != sh) = false := by simp
          obtain ⟨⟨q2, m2, cap2, hx2, hc2, hm2, _, _⟩⟩ := HR6.out
          have HC2 := Lib.hid hc2
          have HM2 := Lib.hid hm2
          have HXX := Lib.hid (fun (U : World) (hU : Below v6.heap.size v6 U) => show U.cell? ⟨x, 0, none⟩ = some (.slice q2 m2 cap2) from (hx2.next hU).cellAt rfl)
          have BB : Hid (Below v6.heap.size v6 v6.drew) := Lib.hid (Below.refl _ _).drew
          have hS := HXX.out _ BB.out
          have HA := Lib.hid (fun (U : World) (hU : Below v6.heap.size v6 U) => (HL6.out.next hU).all2 HOK.out HIN.out HF2.out)
          have HM9 := Lib.hid (show m2 ≤ maxLen from by have h1 := hm2; rw [List.length_map, HSN.out] at h1; unfold maxLen; omega)
          clear hb hx2 hc2 hm2 p0 p1 p2 p3 HSB5
          go_wp2_with fail
          go_region_held_law (fun W => W.cell? ⟨x, 0, none⟩ = some (.slice q2 m2 cap2)) (with_reducible assumption) (first
            | (go_at_call 29; (with_reducible refine (HA.out _ BB.out).mono ?_); rintro e v ⟨q1, k1, cap1, ss1, rfl, hk1, hcap1, hperm1, hsort1, hat1, hb, _⟩; obtain rfl : ss = ss1 := sorted_one HST.out hsort1 (HPM.out.symm.trans hperm1); obtain rfl : m2 = k1 := (by have h1 := HM2.out; rw [List.length_map, hk1] at h1; exact h1.symm); have BB7 := Lib.hid (BB.out.trans hb); have HAT := Lib.hid hat1; have hS := HXX.out _ BB7.out; have HSM := Lib.hid (rsameC_yes q1 q2 _ m2 cap1 cap2 v HAT.out (HC2.out.below BB7.out) HM2.out HM9.out); clear hk1 hcap1 hperm1 hsort1 hat1 hb)
            | (go_at_call 28; (with_reducible refine HSM.out.mono ?_); rintro e v ⟨rfl, hb⟩; have BB8 := Lib.hid (BB7.out.trans (hb.mono BB7.out.size)); have hS := HXX.out _ BB8.out; clear hb))
          obtain ⟨V8, hV8⟩ : ∃ V8, v = V8 := ⟨_, rfl⟩
          subst hV8
          have HL8 := Lib.hid (HL6.out.next BB8.out)
          have HR8 := Lib.hid (HR6.out.below BB8.out)
          clear hS
          go_wp2_with fail
          go_loopw [18] (fun t u => ∃ k : Nat, k ≤ n ∧ t = .int .i64 k ∧ Below v.heap.size v u) (fun t _ => n - (intOf t).toNat)
          case atStart => exact ⟨0, Nat.zero_le _, rfl, Below.refl _ _⟩
          case round =>
            obtain ⟨k, hk, rfl, hB⟩ := hrel
            have HB := Lib.hid hB
            have HL9 := Lib.hid (HL8.out.next hB)
            have HR9 := Lib.hid (HR8.out.below hB)
            clear hB
            by_cases hkn : k < n
            · have hkI : (k : Int) < (n : Int) := by omega
              have k0 : (0 : Int) ≤ (k : Int) := by omega
              obtain ⟨bb, of, rfl, c0, _, _, _, _⟩ := if_cell (HL.out.below HL9.out.bel) HN.out hkn
              have hxin := HIN.out (l.getD k Ifc.zero) (by simp [List.getD, show k < l.length by rw [HN.out]; exact hkn])
              obtain ⟨id, hid⟩ : ∃ z, (l.getD k Ifc.zero).id = z := ⟨_, rfl⟩
              rw [hid] at c0
              have hwf : (Lit.int .i64 id).wf = true := hid ▸ hxin.id
              obtain ⟨⟨⟨g0, g1, g2⟩, go⟩, hgo⟩ : ∃ g, gotC l f' id = g := ⟨_, rfl⟩
              have hG := HL9.out.get HIN.out id hwf
              rw [hgo] at hG
              have HG := Lib.hid (show Calls Try.prog 30 #[.pointer (some ⟨c, 0, none⟩), .int .i64 id] wr fun e w' => e = .returned (.tuple #[.agg #[.int .i64 g0, .int .i64 g1, .bool g2], .bool go]) ∧ Below wr.heap.size wr w' from hG)
              have HRG := Lib.hid (fun (U : World) (hU : RfAt U x (ss.map (carryV f')) (rS S') (rT S')) => show Calls Try.prog 31 #[.pointer (some ⟨x, 0, none⟩), .int .i64 id] U fun e w' => e = .returned (.tuple #[.agg #[.int .i64 g0, .int .i64 g1, .bool g2], .bool go]) ∧ Below U.heap.size U w' from by
                have h1 := rget_any U x l ss f' (rS S') (rT S') hU HF2.out HPM.out HST.out (by rw [HSN.out]; omega) id
                rw [hgo] at h1
                exact h1)
              obtain ⟨LM, hLM⟩ : ∃ z, limC (⟨g0, g1, g2⟩ : Cy) pm = z := ⟨_, rfl⟩
              have HLM := Lib.hid (fun (U : World) (hU : Below wr.heap.size wr U) => show Calls Try.prog 32 #[.pointer (some ⟨c, 0, none⟩), .int .i64 id, .int .i64 pm] U fun e w' => e = .returned (.int .i64 LM) ∧ Below U.heap.size U w' from by
                have h1 := (HL9.out.next hU).limit HIN.out id hwf pm
                rw [hgo] at h1
                rw [← hLM]
                exact h1)
              have HRL := Lib.hid (fun (U : World) (hU : Below wr.heap.size wr U) => show Calls Try.prog 33 #[.pointer (some ⟨x, 0, none⟩), .int .i64 id, .int .i64 pm] U fun e w' => e = .returned (.int .i64 LM) ∧ Below U.heap.size U w' from by
                have h1 := rlimit_any U x l ss f' (rS S') (rT S') (HR9.out.below hU) HF2.out HPM.out HST.out (by rw [HSN.out]; omega) id pm
                rw [hgo] at h1
                rw [← hLM]
                exact h1)
              have HC0 := Lib.hid (fun (U : World) (hU : Below wr.heap.size wr U) => kept hU c0)
              have hgg : (go != go) = false := by simp
              have hll : (LM != LM) = false := by simp
              clear hxin hid hwf hgo hG hLM
              go_wp2_with fail
              refine HG.out.mono ?_
              rintro e u1 ⟨rfl, hb⟩
              have HU1 := Lib.hid hb
              have hn1 := newB u1 (.cells #[.int .i64 g0, .int .i64 g1, .bool g2] 67)
              have hx1 := Blk.new u1 67 [.int .i64 g0, .int .i64 g1, .bool g2]
              have c0' := kept (hb.trans (hn1.mono hb.size)) c0
              obtain ⟨P1, hP1⟩ : ∃ P, u1.heap.size = P := ⟨_, rfl⟩
              obtain ⟨U1, hU1⟩ : ∃ U, u1.alloc (.cells #[.int .i64 g0, .int .i64 g1, .bool g2] 67) = U := ⟨_, rfl⟩
              have hB1 := hb.trans (hn1.mono hb.size)
              rw [hU1] at hn1 hx1 hB1
              rw [hP1] at hx1
              have HB1 := Lib.hid hB1
              have HX1 := Lib.hid hx1
              have HRG1 := Lib.hid (HRG.out U1 (HR9.out.below hB1))
              have HUE1 := Lib.hid hU1
              have HPE1 := Lib.hid hP1
              clear hb hn1 hx1 hP1 hU1 hB1 c0 HG HRG
              go_wp2_with fail
              rw [HUE1.out, HPE1.out]
              refine HRG1.out.mono ?_
              rintro e u2 ⟨rfl, hb⟩
              have hn2 := newB u2 (.cells #[.int .i64 g0, .int .i64 g1, .bool g2] 67)
              have hx2 := Blk.new u2 67 [.int .i64 g0, .int .i64 g1, .bool g2]
              obtain ⟨P2, hP2⟩ : ∃ P, u2.heap.size = P := ⟨_, rfl⟩
              obtain ⟨U2, hU2⟩ : ∃ U, u2.alloc (.cells #[.int .i64 g0, .int .i64 g1, .bool g2] 67) = U := ⟨_, rfl⟩
              have hB2 := hb.trans (hn2.mono hb.size)
              rw [hU2] at hn2 hx2 hB2
              rw [hP2] at hx2
              have HB2 := Lib.hid (HB1.out.trans (hB2.mono HB1.out.size))
              have HCC := Lib.hid (fun (U : World) (hU : Below U2.heap.size U2 U) => show U.cell? ⟨P1, 0, none⟩ = some (.int .i64 g0) ∧ U.cell? ⟨P1, 1, none⟩ = some (.int .i64 g1) ∧ U.cell? ⟨P1, 2, none⟩ = some (.bool g2) ∧ U.cell? ⟨P2, 0, none⟩ = some (.int .i64 g0) ∧ U.cell? ⟨P2, 1, none⟩ = some (.int .i64 g1) ∧ U.cell? ⟨P2, 2, none⟩ = some (.bool g2) ∧ U.cell? ⟨bb, of + k * 5, none⟩ = some (.int .i64 id) from by
                have h1 := HX1.out.next (hB2.trans (hU.mono hB2.size))
                have h2 := hx2.next hU
                obtain ⟨a0, a1, a2⟩ := cy_boxes h1
                obtain ⟨d0, d1, d2⟩ := cy_boxes h2
                exact ⟨a0, a1, a2, d0, d1, d2, HC0.out U (HB2.out.trans (hU.mono HB2.out.size))⟩)
              have HUE2 := Lib.hid hU2
              have HPE2 := Lib.hid hP2
              have BB : Hid (Below U2.heap.size U2 U2.drew) := Lib.hid (Below.refl _ _).drew
              have hS := HCC.out _ BB.out
              have hg := cy_eqGuard
              have hq : ∀ u, (binOp .neq 67 (.agg #[.int .i64 g0, .int .i64 g1, .bool g2]) (.agg #[.int .i64 g0, .int .i64 g1, .bool g2])).run Try.prog u = .ok (.bool false) u := fun u => (cy_neq ⟨g0, g1, g2⟩ ⟨g0, g1, g2⟩ u).trans (by rw [(eqC_iff _ _).2 rfl]; rfl)
              clear hb hn2 hx2 hP2 hU2 hB2 c0' HRG1 HUE1 HPE1
              go_wp2_with fail
              rw [HUE2.out, HPE2.out]
              go_region_held_law (fun W => W.cell? ⟨P1, 0, none⟩ = some (.int .i64 g0) ∧ W.cell? ⟨P1, 1, none⟩ = some (.int .i64 g1) ∧ W.cell? ⟨P1, 2, none⟩ = some (.bool g2) ∧ W.cell? ⟨P2, 0, none⟩ = some (.int .i64 g0) ∧ W.cell? ⟨P2, 1, none⟩ = some (.int .i64 g1) ∧ W.cell? ⟨P2, 2, none⟩ = some (.bool g2) ∧ W.cell? ⟨bb, of + k * 5, none⟩ = some (.int .i64 id)) (with_reducible assumption) (first
                | (go_at_call 32; (with_reducible refine (HLM.out _ (HB2.out.trans (BB.out.mono HB2.out.size))).mono ?_); rintro e v ⟨rfl, hb⟩; have BB := Lib.hid (BB.out.trans (hb.mono BB.out.size)); have hS := HCC.out _ BB.out; clear hb)
                | (go_at_call 33; (with_reducible refine (HRL.out _ (HB2.out.trans (BB.out.mono HB2.out.size))).mono ?_); rintro e v ⟨rfl, hb⟩; have BB := Lib.hid (BB.out.trans (hb.mono BB.out.size)); have hS := HCC.out _ BB.out; clear hb))
              clear hS
              go_wp2_with fail
              go_roundw
              case rel => exact ⟨k + 1, by omega, by go_num, HB.out.trans ((HB2.out.trans (BB.out.mono HB2.out.size)).mono HB.out.size)⟩
              case measure => simp [intOf]; omega
            · obtain rfl : k = n := by omega
              go_wp2_with fail
              go_roundw
              case rel => exact ⟨i + 1, f', S', by omega, by omega, by go_num, by rw [Nat.mul_add]; exact HL9.out, HF2.out, HSK2.out, HR9.out⟩
              case measure => simp [intOf]; omega
      · have td3 : decide ((100 : Int) < (oN : Int)) = true := decide_eq_true (by omega)
        go_wp2_with fail
        rw [HW1.out]
        go_roundw
        case rel => exact ⟨i + 1, f, S, by omega, by omega, by go_num, HL1.out.more (by omega), HFK.out, HSK.out, HR1.out⟩
        case measure => simp [intOf]; omega
    · have hc : i = m ∨ (i < m ∧ i = 40) := by omega
      have HB7 := Lib.hid HLS.out.2
      rcases hc with rfl | ⟨h1, rfl⟩
      · have td1 : decide ((i : Int) < (i : Int)) = false := by simp
        go_wp2_with fail
        go_ret
        exact ⟨rfl, HB7.out⟩
      · have td1 : decide (((40 : Nat) : Int) < (m : Int)) = true := decide_eq_true (by omega)
        go_wp2_with fail
        go_ret
        exact ⟨rfl, HB7.out⟩
end Go.Proofs.Ytlkpalaakncicaa
