/- meter: Take. -/
import Derived.Test.YtgididkpgncdjaaZG
namespace Go.Proofs.Ytgididkpgncdjaa
open Go.RowKit Go.Maps
set_option linter.unusedVariables false
set_option linter.unusedSimpArgs false
set_option maxRecDepth 100000

def TakeTo (w' : World) (B m b : Nat) (V : Nat → Mv) : Prop := ∃ P, MtAt w' B m b V P
theorem take_no {V : Nat → Mv} {src seq now : Int} {L : List Ct} (h : takeE V src seq L now ≠ 0) : takeV V src seq L now = V := by
  unfold takeV; rw [if_neg h]
theorem rep_boxes {w : World} {g : Nat} {src seq : Int} {z : Option Addr} {n c : Nat} (H : Blk w g 31 [.int .i64 src, .int .i64 seq, .slice z n c]) : w.cell? ⟨g, 0, none⟩ = some (.int .i64 src) ∧ w.cell? ⟨g, 1, none⟩ = some (.int .i64 seq) ∧ w.cell? ⟨g, 2, none⟩ = some (.slice z n c) :=
  ⟨H.cell 0 (by simp), H.cell 1 (by simp), H.cell 2 (by simp)⟩
set_option maxHeartbeats 8000000 in
theorem mtake_any (w : World) (B m b : Nat) (V : Nat → Mv) (P : Nat → Mp) (H : MtAt w B m b V P) (hB : B ≤ w.heap.size) (src seq : Int) (z : Option Addr) (L : List Ct) (n c9 : Nat) (hl : CtsAt w z L) (hn : L.length = n) (hm : n ≤ maxLen) (now : Int) :
    Calls Try.prog 12 #[.pointer (some ⟨m, 0, none⟩), .agg #[.int .i64 src, .int .i64 seq, .slice z n c9], .int .i64 now] w fun e w' => e = .returned (.int .i64 (takeE V src seq L now)) ∧ Turns (fun x => x = b) w w' ∧ TakeTo w' B m b (takeV V src seq L now) := by
  have hb1 := newB w (.cells #[.int .i64 src, .int .i64 seq, .slice z n c9] 31)
  have hx1 := Blk.new w 31 [.int .i64 src, .int .i64 seq, .slice z n c9]
  obtain ⟨S, hS⟩ : ∃ S, w.heap.size = S := ⟨_, rfl⟩
  obtain ⟨W1, hW⟩ : ∃ W, w.alloc (.cells #[.int .i64 src, .int .i64 seq, .slice z n c9] 31) = W := ⟨_, rfl⟩
  rw [hW] at hb1 hx1
  rw [hS] at hx1
  have HX := Lib.hid hx1
  have HW := Lib.hid hW
  have HSE := Lib.hid hS
  have HB1 := Lib.hid hb1
  have HBB := Lib.hid (Nat.le_trans hB hb1.size)
  have HK := Lib.hid (H.below hb1)
  have HL := Lib.hid (hl.below hb1)
  have HN := Lib.hid hn
  obtain ⟨E, hE⟩ : ∃ E, takeE V src seq L now = E := ⟨_, rfl⟩
  have HEE := Lib.hid hE
  have HE := Lib.hid (show E = if !(okRep src seq L && isCap now) then 1 else if (V src.toNat).h && decide (seq ≤ (V src.toNat).q) then 170 else 0 from hE ▸ rfl)
  have HNO := Lib.hid (fun (hne : E ≠ 0) (U : World) (hU : Below W1.heap.size W1 U) => show TakeTo U B m b (takeV V src seq L now) from by
    rw [take_no (hE ▸ hne)]
    exact ⟨P, HK.out.below hU⟩)
  rw [hE]
  have hck := mcheck_any src seq z L n c9 W1 HL.out hn hm
  have hrp : okRep src seq L = true → 0 ≤ src ∧ src < 16 ∧ n ≤ 1024 := fun h => by
    unfold okRep isR at h
    simp only [Bool.and_eq_true, decide_eq_true_eq] at h
    omega
  obtain ⟨o1, ho1⟩ : ∃ o, okRep src seq L = o := ⟨_, rfl⟩
  obtain ⟨o2, ho2⟩ : ∃ o, isCap now = o := ⟨_, rfl⟩
  have HCN := Lib.hid (fun (h : o2 = true) => (isCap_iff now).1 (ho2.trans h))
  have HO1 := Lib.hid ho1
  rw [ho1] at hck HE hrp
  rw [ho2] at HE
  have HP2 := Lib.hid (fun u => misCapped_any now u)
  rw [ho2] at HP2
  obtain ⟨x0, x1, x2⟩ := rep_boxes hx1
  have h0 := HK.out.at0
  clear H hb1 hx1 hl hn hW hE hS ho1 ho2 hB hm
  rcases o1 with _ | _
  · have HC := Lib.hid (show Calls Try.prog 11 #[.agg #[.int .i64 src, .int .i64 seq, .slice z n c9]] W1 (fun e w' => e = .returned (.int .i64 1) ∧ Below W1.heap.size W1 w') from hck)
    obtain rfl : E = 1 := by rw [HE.out]; rfl
    clear hck HE hrp
    go_enter Try.func12, Try.ntmps12
    go_wp2_with fail
    rw [HW.out, HSE.out]
    refine (mclosed_any W1 m b h0).mono ?_
    rintro e w' ⟨rfl, rfl⟩
    go_wp2_with fail
    refine HC.out.mono ?_
    rintro e U ⟨rfl, hb⟩
    have HU := Lib.hid hb
    clear hb x0 x1 x2 h0
    go_wp2_with fail
    go_ret
    exact ⟨rfl, .of_below (HB1.out.trans (HU.out.mono HB1.out.size)), HNO.out (by decide) _ HU.out⟩
  have HC := Lib.hid (show Calls Try.prog 11 #[.agg #[.int .i64 src, .int .i64 seq, .slice z n c9]] W1 (fun e w' => e = .returned (.int .i64 0) ∧ Below W1.heap.size W1 w') from hck)
  obtain ⟨s0, s16, h1024⟩ := hrp rfl
  obtain ⟨i, rfl⟩ := Int.eq_ofNat_of_zero_le s0
  have hi : i < 16 := by omega
  clear hck hrp
  go_enter Try.func12, Try.ntmps12
  go_wp2_with fail
  rw [HW.out, HSE.out]
  refine (mclosed_any W1 m b h0).mono ?_
  rintro e w' ⟨rfl, rfl⟩
  go_wp2_with fail
  refine HC.out.mono ?_
  rintro e U ⟨rfl, hb⟩
  have HU := Lib.hid hb
  have HX2 := Lib.hid (HX.out.next hb)
  have HK2 := Lib.hid (HK.out.below hb)
  have HL2 := Lib.hid (HL.out.below hb)
  clear hb x0 x1 x2 h0 HX HK HL HC
  rcases o2 with _ | _
  · obtain rfl : E = 1 := by rw [HE.out]; rfl
    go_wp2_with (go_at_call 28; refine (HP2.out _).mono ?_; rintro e w' ⟨rfl, rfl⟩)
    go_ret
    exact ⟨rfl, .of_below (HB1.out.trans (HU.out.mono HB1.out.size)), HNO.out (by decide) _ HU.out⟩
  obtain ⟨c0, c1⟩ := HCN.out rfl
  have HE2 := Lib.hid (show E = if (V i).h && decide (seq ≤ (V i).q) then 170 else 0 from HE.out)
  have i0 : (0 : Int) ≤ (i : Int) := by omega
  have HSS := Lib.hid (fun (U' : World) (hU : Below U.heap.size U U') => show U'.cell? ⟨m, 0, none⟩ = some (.pointer (some ⟨b, 0, none⟩)) ∧ U'.cell? ⟨S, 0, none⟩ = some (.int .i64 (i : Int)) ∧ U'.cell? ⟨S, 1, none⟩ = some (.int .i64 seq) ∧ U'.cell? ⟨S, 2, none⟩ = some (.slice z n c9) from by
    obtain ⟨g0, g1, g2⟩ := rep_boxes (HX2.out.next hU)
    exact ⟨(HK2.out.below hU).at0, g0, g1, g2⟩)
  have HSV := Lib.hid (fun (U' : World) (hU : Below U.heap.size U U') => (HK2.out.below hU).src hi)
  obtain ⟨⟨vq, va, vh, vL, vR⟩, hv⟩ : ∃ v, V i = v := ⟨_, rfl⟩
  obtain ⟨⟨pc, pr⟩, hp⟩ : ∃ p, P i = p := ⟨_, rfl⟩
  rw [hv, hp] at HSV
  rw [hv] at HE2
  dsimp only at HSV HE2
  have HV := Lib.hid hv
  have HP := Lib.hid hp
  obtain ⟨g1, g2, g3, g4⟩ := HSS.out U (Below.refl _ _)
  have hS := HSS.out U.drew (Below.refl _ _).drew
  clear hv hp HE HCN
  go_wp2_with (go_at_call 28; refine (HP2.out _).mono ?_; rintro e w' ⟨rfl, rfl⟩)
  go_region_held_law (fun W => W.cell? ⟨m, 0, none⟩ = some (.pointer (some ⟨b, 0, none⟩)) ∧ W.cell? ⟨S, 0, none⟩ = some (.int .i64 (i : Int)) ∧ W.cell? ⟨S, 1, none⟩ = some (.int .i64 seq) ∧ W.cell? ⟨S, 2, none⟩ = some (.slice z n c9)) (with_reducible assumption) (fail)
  obtain ⟨U1, hU1⟩ : ∃ U1, U.drew = U1 := ⟨_, rfl⟩
  have HB2 := Lib.hid (show Below U.heap.size U U1 from hU1 ▸ (Below.refl _ _).drew)
  rw [hU1]
  clear hS hU1 g1 g2 g3 g4
  obtain ⟨g1, g2, g3, g4⟩ := HSS.out U1 HB2.out
  obtain ⟨v0, v1, v2, v3, v4⟩ := HSV.out U1 HB2.out
  change U1.cell? ⟨b, i * 5 + 1 + 1, none⟩ = some (.bool vh) at v2
  clear g1 g2 g4 v1 v3 v4
  have hcases : (vh = true ∧ decide (seq ≤ vq) = true) ∨ vh = false ∨ (vh = true ∧ decide (seq ≤ vq) = false) := by
    rcases vh with _ | _
    · exact .inr (.inl rfl)
    · by_cases hle : seq ≤ vq
      · exact .inl ⟨rfl, decide_eq_true hle⟩
      · exact .inr (.inr ⟨rfl, decide_eq_false hle⟩)
  rcases hcases with ⟨rfl, t1⟩ | hcases
  · obtain rfl : E = 170 := by rw [HE2.out, t1]; rfl
    go_wp2_with fail
    go_quiet (fail)
    have hb := HB2.out.trans (below_dN U.heap.size U1 nq)
    have HB3 := Lib.hid hb
    clear hb
    go_wp2_with fail
    go_ret
    have hb := HB3.out
    have hb := HU.out.trans (hb.mono HU.out.size)
    exact ⟨rfl, .of_below (HB1.out.trans (hb.mono HB1.out.size)), HNO.out (by decide) _ hb⟩
  obtain rfl : E = 0 := by
    rw [HE2.out]
    rcases hcases with rfl | ⟨rfl, t1⟩
    · rfl
    · rw [t1]; rfl
  have HRM := Lib.hid (fun (U' : World) (hU : Below U.heap.size U U') => mroom_any U' B m b V P (HK2.out.below hU) i hi)
  have HS2 := Lib.hid (fun (U' : World) (hU : Below U.heap.size U U') => show U'.cell? ⟨S, 0, none⟩ = some (.int .i64 (i : Int)) ∧ U'.cell? ⟨S, 2, none⟩ = some (.slice z n c9) from ⟨(HSS.out U' hU).2.1, (HSS.out U' hU).2.2.2⟩)
  rcases hcases with rfl | ⟨rfl, t1⟩
  all_goals
    go_wp2_with fail
    go_quiet (fail)
    have hb := HB2.out.trans (below_dN U.heap.size U1 nq)
    obtain ⟨U2, hU2⟩ : ∃ U2, U1.drewN nq = U2 := ⟨_, rfl⟩
    rw [hU2] at hb ⊢
    have BB : Hid (Below U.heap.size U U2.drew) := Lib.hid hb.drew
    clear hb hU2 g3 v0 v2
    have hS := HS2.out _ BB.out
    go_wp2_with fail
    go_region_held_law (fun W => W.cell? ⟨S, 0, none⟩ = some (.int .i64 (i : Int)) ∧ W.cell? ⟨S, 2, none⟩ = some (.slice z n c9)) (with_reducible assumption) (first | (go_at_call 32; (with_reducible refine (HRM.out _ BB.out).mono ?_); rintro e v ⟨N, rfl, hN0, hN1, hb⟩; have BB := Lib.hid (BB.out.trans (hb.mono BB.out.size)); have hS := HS2.out _ BB.out; have tN : decide (N < (n : Int)) = false := decide_eq_false (by omega); clear hb))
    clear hS
    go_wp2_with fail
    have HB9 := Lib.hid BB.out.drew
    have hk9 := HK2.out.below HB9.out
    have HK9 := Lib.hid hk9
    have HTH := Lib.hid (show Calls Try.prog 33 #[.agg #[.int .i64 vq, .int .i64 va, .bool _, .map pc, .map pr], .agg #[.int .i64 (i : Int), .int .i64 seq, .slice z n c9], .int .i64 now] v.drew _ from mthen_any v.drew B (Nat.le_trans HBB.out (Nat.le_trans HU.out.size HB9.out.size)) ⟨vq, va, _, vL, vR⟩ (pc, pr) (by have h := hk9.ok i hi; rw [HV.out] at h; exact h) (by have h := hk9.cm i hi; rw [HV.out, HP.out] at h; exact h) (i : Int) seq z L n c9 (HL2.out.below HB9.out) HN.out HO1.out now c0 c1)
    obtain ⟨g1, g2, g3, g4⟩ := HSS.out v.drew HB9.out
    obtain ⟨v0, v1, v2, v3, v4⟩ := HSV.out v.drew HB9.out
    clear hk9
    go_region_law (first | (go_simp; go_at_call 33; (with_reducible refine HTH.out.mono ?_); rintro e v5 ⟨cb, rb, rfl, hmc, hmr, hb⟩; have HK5 := Lib.hid (HK9.out.below hb); have HB5 := Lib.hid hb; have HMC := Lib.hid hmc; have HMR := Lib.hid hmr; have f0 := HK5.out.blk.f (i * 5); have f1 := HK5.out.blk.f (i * 5 + 1); have f2 := HK5.out.blk.f (i * 5 + 2); have f3 := HK5.out.blk.f (i * 5 + 3); have f4 := HK5.out.blk.f (i * 5 + 4); obtain ⟨k0, k1, k2, k3, k4⟩ := HSV.out v5 (HB9.out.trans (hb.mono HB9.out.size)); clear hb hmc hmr))
    all_goals
      have hfin := HK5.out.heard hi (thenV (V i) seq L now) (some cb, some rb) (ok_then (HK5.out.ok i hi) (HL2.out).ok HO1.out ((isCap_iff now).2 ⟨c0, c1⟩)) HMC.out (by rw [HV.out]; exact HMR.out)
      have HFIN := Lib.hid (show TakeTo (((((v5.setCell ⟨b, i * 5, none⟩ (.int .i64 seq)).setCell ⟨b, i * 5 + 1, none⟩ (.int .i64 now)).setCell ⟨b, i * 5 + 2, none⟩ (.bool true)).setCell ⟨b, i * 5 + 3, none⟩ (.map (some cb))).setCell ⟨b, i * 5 + 4, none⟩ (.map (some rb))) B m b (takeV V (i : Int) seq L now) from ⟨_, by unfold takeV; rw [if_pos HEE.out]; exact hfin⟩)
      have hTT : Turns (fun x => x = b) w v5 := .of_below (HB1.out.trans ((HU.out.trans ((HB9.out.trans (HB5.out.mono HB9.out.size)).mono HU.out.size)).mono HB1.out.size))
      have HTT := Lib.hid (((((hTT.setCell (p := ⟨b, i * 5, none⟩) (.inl rfl) (.int .i64 seq)).setCell (p := ⟨b, i * 5 + 1, none⟩) (.inl rfl) (.int .i64 now)).setCell (p := ⟨b, i * 5 + 2, none⟩) (.inl rfl) (.bool true)).setCell (p := ⟨b, i * 5 + 3, none⟩) (.inl rfl) (.map (some cb))).setCell (p := ⟨b, i * 5 + 4, none⟩) (.inl rfl) (.map (some rb)))
      clear hfin hTT f0 f1 f2 f3 f4 k0 k1 k2 k3 k4
      go_wp2_with fail
      go_ret
      exact ⟨rfl, HTT.out, HFIN.out⟩
end Go.Proofs.Ytgididkpgncdjaa
