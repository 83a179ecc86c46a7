/- MeterRises' walk. -/
import Derived.Test.YtgididkpgncdjaaZO
namespace Go.Proofs.Ytgididkpgncdjaa
open Go.RowKit Go.Maps
set_option linter.unusedVariables false
set_option linter.unusedSimpArgs false
set_option maxRecDepth 100000

/-- Another Meter takes a report. -/
theorem Lm.apart {w W W' : World} {m b k b2 : Nat} {V V2 : Nat → Mv} (K : Lm w W k b2 V2) (H : Lm w W m b V) (hne : b ≠ b2) (hT : Turns (fun x => x = b) W W') : Lm w W' k b2 V2 := by
  obtain ⟨⟨P2, h2⟩, hb2⟩ := K
  obtain ⟨⟨P, h⟩, _⟩ := H
  have hk : k ≠ b := fun e => by
    subst e
    have := h2.top.type h.blk
    revert this; decide
  have hm : ∀ x, x < W.heap.size → (∃ es c, W.heap[x]? = some (.map es c)) → W'.heap[x]? = W.heap[x]? := fun x hx ⟨es, c, hh⟩ => hT.block x hx (fun e => h.blk.notMap (e ▸ hh) rfl)
  exact ⟨⟨P2, ⟨h2.top.of_same (hT.block k h2.lt.1 hk), h2.blk.of_same (hT.block b2 h2.lt.2 (fun e => hne e.symm)), fun i hi => (h2.cm i hi).kept hm, fun i hi => (h2.rm i hi).kept hm, h2.ok, h2.bm, h2.bb, h2.ne⟩⟩, hb2.trans (hT.below hb2.size (fun x hx => by subst hx; exact h.bb))⟩
set_option maxHeartbeats 16000000 in
theorem rises_walk (w : World) (first a b frm till : Int) :
    Calls Try.prog 5 #[.int .i64 first, .int .i64 a, .int .i64 b, .int .i64 frm, .int .i64 till] w fun e w' => e = .returned (.bool true) ∧ Below w.heap.size w w' := by
  have HLV := Lib.hid (fun u => lives17_any u)
  by_cases h0 : first < 0
  · have t0 : decide (first < 0) = true := decide_eq_true h0
    go_enter Try.func5, Try.ntmps5
    go_wp2_with (go_at_call 9; refine (HLV.out _).mono ?_; rintro e w1 ⟨rfl, hb⟩)
    go_ret
    exact ⟨rfl, hb⟩
  have t0 : decide (first < 0) = false := decide_eq_false h0
  by_cases h1 : a < first
  · have t1 : decide (a < first) = true := decide_eq_true h1
    go_enter Try.func5, Try.ntmps5
    go_wp2_with (go_at_call 9; refine (HLV.out _).mono ?_; rintro e w1 ⟨rfl, hb⟩)
    go_ret
    exact ⟨rfl, hb⟩
  have t1 : decide (a < first) = false := decide_eq_false h1
  by_cases h2 : b < a
  · have t2 : decide (b < a) = true := decide_eq_true h2
    go_enter Try.func5, Try.ntmps5
    go_wp2_with (go_at_call 9; refine (HLV.out _).mono ?_; rintro e w1 ⟨rfl, hb⟩)
    go_ret
    exact ⟨rfl, hb⟩
  have t2 : decide (b < a) = false := decide_eq_false h2
  by_cases h3 : 9007199254740991 < b
  · have t3 : decide (9007199254740991 < b) = true := decide_eq_true h3
    go_enter Try.func5, Try.ntmps5
    go_wp2_with (go_at_call 9; refine (HLV.out _).mono ?_; rintro e w1 ⟨rfl, hb⟩)
    go_ret
    exact ⟨rfl, hb⟩
  have t3 : decide (9007199254740991 < b) = false := decide_eq_false h3
  by_cases h4 : frm < 0
  · have t4 : decide (frm < 0) = true := decide_eq_true h4
    go_enter Try.func5, Try.ntmps5
    go_wp2_with (go_at_call 9; refine (HLV.out _).mono ?_; rintro e w1 ⟨rfl, hb⟩)
    go_ret
    exact ⟨rfl, hb⟩
  have t4 : decide (frm < 0) = false := decide_eq_false h4
  by_cases h5 : till ≤ frm
  · have t5 : decide (till ≤ frm) = true := decide_eq_true h5
    go_enter Try.func5, Try.ntmps5
    go_wp2_with (go_at_call 9; refine (HLV.out _).mono ?_; rintro e w1 ⟨rfl, hb⟩)
    go_ret
    exact ⟨rfl, hb⟩
  have t5 : decide (till ≤ frm) = false := decide_eq_false h5
  by_cases h6 : 9007199254740991 < till
  · have t6 : decide (9007199254740991 < till) = true := decide_eq_true h6
    go_enter Try.func5, Try.ntmps5
    go_wp2_with (go_at_call 9; refine (HLV.out _).mono ?_; rintro e w1 ⟨rfl, hb⟩)
    go_ret
    exact ⟨rfl, hb⟩
  have t6 : decide (9007199254740991 < till) = false := decide_eq_false h6
  have HNEW := Lib.hid (lm_new w w (Below.refl _ _))
  obtain ⟨e1, e2, d1⟩ := two_fact (first := first) (a := a) (frm := frm) (till := till) (by omega) (by omega) (by omega) (by omega) (by omega) (by omega)
  obtain ⟨_, e4, d2⟩ := two_fact (first := first) (a := b) (frm := frm) (till := till) (by omega) (by omega) (by omega) (by omega) (by omega) (by omega)
  obtain ⟨V1, hV1⟩ : ∃ V, takeV V0 0 1 [⟨ten, first⟩] frm = V := ⟨_, rfl⟩
  rw [hV1] at e2 e4 d1 d2
  obtain ⟨V2, hV2⟩ : ∃ V, takeV V1 0 2 [⟨ten, a⟩] till = V := ⟨_, rfl⟩
  obtain ⟨V3, hV3⟩ : ∃ V, takeV V1 0 2 [⟨ten, b⟩] till = V := ⟨_, rfl⟩
  rw [hV2] at d1
  rw [hV3] at d2
  have HE1 := Lib.hid e1
  have HE2 := Lib.hid e2
  have HE4 := Lib.hid e4
  have HV1 := Lib.hid hV1
  have HV2 := Lib.hid hV2
  have HV3 := Lib.hid hV3
  have hle := two_le (first := first) (a := a) (b := b) (frm := frm) (till := till) (by omega) (by omega)
  have w1 : IntKind.i64.wrap (a - first) = a - first := IntWalk.i64_in _ (by omega)
  have w2 : IntKind.i64.wrap (till - frm) = till - frm := IntWalk.i64_in _ (by omega)
  have hd : till - frm ≠ 0 := by omega
  have hq := IntWalk.i64_quo (a - first) (till - frm) (by omega)
  obtain ⟨Q1, hQ1⟩ : ∃ Q, (a - first) / (till - frm) = Q := ⟨_, rfl⟩
  obtain ⟨Q2, hQ2⟩ : ∃ Q, (b - first) / (till - frm) = Q := ⟨_, rfl⟩
  rw [hQ1] at hle d1 hq
  rw [hQ2] at hle d2
  have HD1 := Lib.hid d1
  have HD2 := Lib.hid d2
  have tle : decide (Q1 ≤ Q2) = true := decide_eq_true hle
  obtain ⟨Z, hZ⟩ : ∃ Z, a - first = Z := ⟨_, rfl⟩
  obtain ⟨D, hD⟩ : ∃ D, till - frm = D := ⟨_, rfl⟩
  rw [hZ] at w1 hq
  rw [hD] at w2 hd hq
  have HZ := Lib.hid hZ
  have HDD := Lib.hid hD
  clear e1 e2 e4 d1 d2 hV1 hV2 hV3 hQ1 hQ2 hle hZ hD h0 h1 h2 h3 h4 h5 h6
  go_enter Try.func5, Try.ntmps5
  go_wp2_with fail
  refine HNEW.out.mono ?_
  rintro e U ⟨m, b1, rfl, hl, hb, _⟩
  have HL := Lib.hid hl
  have HNEW2 := Lib.hid (lm_new w U hl.2)
  clear t0 t1 t2 t3 t4 t5 t6 hl hb HNEW
  go_wp2_with fail
  refine HNEW2.out.mono ?_
  rintro e U ⟨k, b2, rfl, hk, hb, hbb⟩
  have HNE := Lib.hid (show b1 ≠ b2 from by have := HL.out.lt; omega)
  have HL := Lib.hid (HL.out.next hb)
  have HK := Lib.hid hk
  clear hk hb hbb HNEW2
  go_wp2_with fail
  refine (HLV.out _).mono ?_
  rintro e U ⟨rfl, hb⟩
  have HL := Lib.hid (HL.out.next hb)
  have HK := Lib.hid (HK.out.next hb)
  clear hb
  have HTEN := Lib.hid (fun u => ten0_any u)
  go_wp2_with fail
  refine (HTEN.out _).mono ?_
  rintro e U ⟨rfl, hb⟩
  have HL := Lib.hid (HL.out.next hb)
  have HK := Lib.hid (HK.out.next hb)
  clear hb HTEN
  have HONE := Lib.hid (one_any U 0 1 ten ten_in first)
  go_wp2_with fail
  refine HONE.out.mono ?_
  rintro e U ⟨z, rfl, hc, hb, _⟩
  have HL := Lib.hid (HL.out.next hb)
  have HK := Lib.hid (HK.out.next hb)
  have HTK := Lib.hid (HL.out.take 0 1 (some ⟨z, 0, none⟩) [⟨ten, first⟩] 1 1 hc rfl (by unfold maxLen; omega) frm)
  rw [HE1.out, HV1.out] at HTK
  clear hb hc HONE
  go_wp2_with fail
  refine HTK.out.mono ?_
  rintro e U ⟨rfl, hT, hl⟩
  have HK := Lib.hid (HK.out.apart HL.out HNE.out hT)
  have HL := Lib.hid hl
  clear hT hl HTK
  have HTEN := Lib.hid (fun u => ten0_any u)
  go_wp2_with fail
  refine (HTEN.out _).mono ?_
  rintro e U ⟨rfl, hb⟩
  have HL := Lib.hid (HL.out.next hb)
  have HK := Lib.hid (HK.out.next hb)
  clear hb HTEN
  have HONE := Lib.hid (one_any U 0 1 ten ten_in first)
  go_wp2_with fail
  refine HONE.out.mono ?_
  rintro e U ⟨z, rfl, hc, hb, _⟩
  have HL := Lib.hid (HL.out.next hb)
  have HK := Lib.hid (HK.out.next hb)
  have HTK := Lib.hid (HK.out.take 0 1 (some ⟨z, 0, none⟩) [⟨ten, first⟩] 1 1 hc rfl (by unfold maxLen; omega) frm)
  rw [HE1.out, HV1.out] at HTK
  clear hb hc HONE
  go_wp2_with fail
  refine HTK.out.mono ?_
  rintro e U ⟨rfl, hT, hl⟩
  have HL := Lib.hid (HL.out.apart HK.out (fun e => HNE.out e.symm) hT)
  have HK := Lib.hid hl
  clear hT hl HTK
  have HTEN := Lib.hid (fun u => ten0_any u)
  go_wp2_with fail
  refine (HTEN.out _).mono ?_
  rintro e U ⟨rfl, hb⟩
  have HL := Lib.hid (HL.out.next hb)
  have HK := Lib.hid (HK.out.next hb)
  clear hb HTEN
  have HONE := Lib.hid (one_any U 0 2 ten ten_in a)
  go_wp2_with fail
  refine HONE.out.mono ?_
  rintro e U ⟨z, rfl, hc, hb, _⟩
  have HL := Lib.hid (HL.out.next hb)
  have HK := Lib.hid (HK.out.next hb)
  have HTK := Lib.hid (HL.out.take 0 2 (some ⟨z, 0, none⟩) [⟨ten, a⟩] 1 1 hc rfl (by unfold maxLen; omega) till)
  rw [HE2.out, HV2.out] at HTK
  clear hb hc HONE
  go_wp2_with fail
  refine HTK.out.mono ?_
  rintro e U ⟨rfl, hT, hl⟩
  have HK := Lib.hid (HK.out.apart HL.out HNE.out hT)
  have HL := Lib.hid hl
  clear hT hl HTK
  have HTEN := Lib.hid (fun u => ten0_any u)
  go_wp2_with fail
  refine (HTEN.out _).mono ?_
  rintro e U ⟨rfl, hb⟩
  have HL := Lib.hid (HL.out.next hb)
  have HK := Lib.hid (HK.out.next hb)
  clear hb HTEN
  have HONE := Lib.hid (one_any U 0 2 ten ten_in b)
  go_wp2_with fail
  refine HONE.out.mono ?_
  rintro e U ⟨z, rfl, hc, hb, _⟩
  have HL := Lib.hid (HL.out.next hb)
  have HK := Lib.hid (HK.out.next hb)
  have HTK := Lib.hid (HK.out.take 0 2 (some ⟨z, 0, none⟩) [⟨ten, b⟩] 1 1 hc rfl (by unfold maxLen; omega) till)
  rw [HE4.out, HV3.out] at HTK
  clear hb hc HONE
  go_wp2_with fail
  refine HTK.out.mono ?_
  rintro e U ⟨rfl, hT, hl⟩
  have HL := Lib.hid (HL.out.apart HK.out (fun e => HNE.out e.symm) hT)
  have HK := Lib.hid hl
  clear hT hl HTK
  have HDM := Lib.hid (fun (u : World) (hu : Below U.heap.size U u) => show Calls Try.prog 16 #[.pointer (some ⟨m, 0, none⟩), .agg #[.int .u32 167772160, .int .i64 16]] u fun e w' => e = .returned (.int .i64 Q1) ∧ Below u.heap.size u w' from by
    have h := (HL.out.next hu).demand ten ten_in
    rw [HD1.out] at h
    exact h)
  have HDK := Lib.hid (fun (u : World) (hu : Below U.heap.size U u) => show Calls Try.prog 16 #[.pointer (some ⟨k, 0, none⟩), .agg #[.int .u32 167772160, .int .i64 16]] u fun e w' => e = .returned (.int .i64 Q2) ∧ Below u.heap.size u w' from by
    have h := (HK.out.next hu).demand ten ten_in
    rw [HD2.out] at h
    exact h)
  have HCC := Lib.hid (fun (u : World) (hu : Below U.heap.size U u) => show u.cell? ⟨m, 0, none⟩ = some (.pointer (some ⟨b1, 0, none⟩)) from by
    obtain ⟨⟨P, h⟩, _⟩ := HL.out.next hu
    exact h.at0)
  have BB : Hid (Below U.heap.size U U.drew) := Lib.hid (Below.refl _ _).drew
  have hS := HCC.out _ BB.out
  have zz : a - first = Z := HZ.out
  have zd : till - frm = D := HDD.out
  go_wp2_with fail
  go_region_held_law (fun W => W.cell? ⟨m, 0, none⟩ = some (.pointer (some ⟨b1, 0, none⟩))) (with_reducible assumption) (first
    | (go_at_call 24; (with_reducible refine (ten0_any _).mono ?_); rintro e v ⟨rfl, hb⟩; have BB := Lib.hid (BB.out.trans (hb.mono BB.out.size)); have hS := HCC.out _ BB.out; clear hb)
    | (go_at_call 16; (with_reducible refine (HDM.out _ BB.out).mono ?_); rintro e v ⟨rfl, hb⟩; have BB := Lib.hid (BB.out.trans (hb.mono BB.out.size)); have hS := HCC.out _ BB.out; clear hb)
    | (go_at_call 16; (with_reducible refine (HDK.out _ BB.out).mono ?_); rintro e v ⟨rfl, hb⟩; have BB := Lib.hid (BB.out.trans (hb.mono BB.out.size)); have hS := HCC.out _ BB.out; clear hb))
  all_goals
    clear hS
    go_wp2_with fail
    go_ret
    exact ⟨rfl, (HL.out.next BB.out).2⟩
theorem rises_arg (w : World) (a0 : Int) (_ : (Lit.int .i64 a0).wf = true) (a1 : Int) (_ : (Lit.int .i64 a1).wf = true) (a2 : Int) (_ : (Lit.int .i64 a2).wf = true) (a3 : Int) (_ : (Lit.int .i64 a3).wf = true) (a4 : Int) (_ : (Lit.int .i64 a4).wf = true) :
    Calls Try.prog 5 #[.int .i64 a0, .int .i64 a1, .int .i64 a2, .int .i64 a3, .int .i64 a4] w fun e w' => e = .returned (.bool true) ∧ Below w.heap.size w w' := rises_walk w a0 a1 a2 a3 a4
end Go.Proofs.Ytgididkpgncdjaa
