/- MeterSums' walk. -/
import Derived.Test.YtgididkpgncdjaaZS
import Derived.Deep.RegionHeldLaw
namespace Go.Proofs.Ytgididkpgncdjaa
open Go.RowKit Go.Maps
set_option linter.unusedVariables false
set_option linter.unusedSimpArgs false
set_option maxRecDepth 100000

set_option maxHeartbeats 16000000 in
theorem sums_walk (w : World) (p : Option Addr) (l : List Int) (n c9 : Nat) (hl : NsAt w p l) (hn : l.length = n) (hm : n ≤ maxLen) :
    Calls Try.prog 6 #[.slice p n c9] w fun e w' => e = .returned (.bool true) ∧ Below w.heap.size w w' := by
  have HLV := Lib.hid (fun u => lives17_any u)
  have HNEW := Lib.hid (lm_new w w (Below.refl _ _))
  have HLL := Lib.hid hl
  have HN := Lib.hid hn
  clear hl hn
  by_cases h16 : n ≤ 16
  rotate_left
  · have t0 : decide ((16 : Int) < (n : Int)) = true := decide_eq_true (by omega)
    go_enter Try.func6, Try.ntmps6
    go_wp2_with fail
    refine HNEW.out.mono ?_
    rintro e U ⟨m, b, rfl, hl, hb, _⟩
    have HL := Lib.hid hl
    clear hl hb HNEW
    go_wp2_with fail
    refine (HLV.out _).mono ?_
    rintro e U ⟨rfl, hb⟩
    have HL := Lib.hid (HL.out.next hb)
    clear hb
    go_wp2_with fail
    refine (HLV.out _).mono ?_
    rintro e U ⟨rfl, hb⟩
    have HL := Lib.hid (HL.out.next hb)
    clear hb
    go_wp2_with fail
    go_ret
    exact ⟨rfl, HL.out.2⟩
  have t0 : decide ((16 : Int) < (n : Int)) = false := decide_eq_false (by omega)
  go_enter Try.func6, Try.ntmps6
  go_wp2_with fail
  refine HNEW.out.mono ?_
  rintro e U ⟨m, b, rfl, hl, hb, _⟩
  have HL := Lib.hid hl
  clear hl hb HNEW
  go_wp2_with fail
  refine (HLV.out _).mono ?_
  rintro e U ⟨rfl, hb⟩
  have HL := Lib.hid (HL.out.next hb)
  clear hb t0
  go_wp2_with fail
  go_loopw [4, 5] (fun sv iv wr => ∃ (k : Nat) (V : Nat → Mv) (T : Int), k ≤ n ∧ iv = .int .i64 k ∧ sv = .int .i64 (near T) ∧ 0 ≤ T ∧ SumV V k T ∧ Lm w wr m b V) (fun _ iv _ => n - (intOf iv).toNat)
  case atStart => exact ⟨0, V0, 0, Nat.zero_le _, rfl, rfl, Int.le_refl _, sumV0, HL.out⟩
  case round =>
    obtain ⟨k, V, T, hk, rfl, rfl, hT, hsum, hlm⟩ := hrel
    have HSV := Lib.hid hsum
    have HL := Lib.hid hlm
    clear hsum hlm
    by_cases hlt : k < n
    · have hlt' : (k : Int) < (n : Int) := by omega
      have k0 : (0 : Int) ≤ (k : Int) := by omega
      have hk16 : k < 16 := by omega
      obtain ⟨bl, off, rfl, hc⟩ := HLL.out.cell HN.out hlt
      have c00 : w.cell? ⟨bl, off + k, none⟩ = some (.int .i64 (l.getD k 0)) := by
        have h := hc 0 _ rfl
        rw [Nat.mul_one, Nat.add_zero] at h
        exact h
      obtain ⟨c, hcv⟩ : ∃ c, l.getD k 0 = c := ⟨_, rfl⟩
      rw [hcv] at c00
      have HC0 := Lib.hid (fun (u : World) (hu : Below w.heap.size w u) => show u.cell? ⟨bl, off + k, none⟩ = some (.int .i64 c) from kept hu c00)
      have c0 := HC0.out wr HL.out.2
      clear hc hcv c00
      by_cases hc0 : c < 0
      · have t1 : decide (c < 0) = true := decide_eq_true hc0
        go_wp2_with fail
        go_ret
        exact ⟨rfl, HL.out.2⟩
      have t1 : decide (c < 0) = false := decide_eq_false hc0
      by_cases hc1 : 9007199254740991 < c
      · have t2 : decide (9007199254740991 < c) = true := decide_eq_true hc1
        go_wp2_with fail
        go_ret
        exact ⟨rfl, HL.out.2⟩
      have t2 : decide (9007199254740991 < c) = false := decide_eq_false hc1
      obtain ⟨e1, e2, hs2⟩ := sumV_step HSV.out hk16 (c := c) (by omega) (by omega)
      obtain ⟨V1, hV1⟩ : ∃ W, takeV V k 1 [⟨ten, 0⟩] 0 = W := ⟨_, rfl⟩
      rw [hV1] at e2 hs2
      obtain ⟨V2, hV2⟩ : ∃ W, takeV V1 k 2 [⟨ten, c⟩] 1 = W := ⟨_, rfl⟩
      rw [hV2] at hs2
      have HE1 := Lib.hid e1
      have HE2 := Lib.hid e2
      have HV1 := Lib.hid hV1
      have HV2 := Lib.hid hV2
      have HS2 := Lib.hid hs2
      obtain ⟨ns1, ns2⟩ := near_sum (T := T) (c := c) hT (by omega) (by omega)
      have hT2 : 0 ≤ T + c := by omega
      have nl := near_lo T
      have nh := near_hi T
      have HL := Lib.hid (HL.out.next (show Below wr.heap.size wr wr.drew from (Below.refl _ _).drew))
      have hS := HC0.out wr.drew HL.out.2
      clear e1 e2 hV1 hV2 hs2
      go_wp2_with fail
      go_region_held_law (fun W => W.cell? ⟨bl, off + k, none⟩ = some (.int .i64 c)) (with_reducible assumption) (first
        | (go_at_call 24; (with_reducible refine (ten0_any _).mono ?_); rintro e v ⟨rfl, hb⟩; have HL := Lib.hid (HL.out.next hb); have hS := HC0.out _ HL.out.2; clear hb)
        | (go_at_call 23; (with_reducible refine (one_any _ (k : Int) 1 ten ten_in 0).mono ?_); rintro e v ⟨z1, rfl, hc, hb, _⟩; have HL := Lib.hid (HL.out.next hb); have HCT := Lib.hid hc; have hS := HC0.out _ HL.out.2; clear hb hc)
        | (go_at_call 12; (with_reducible refine (Lm.takeAs HL.out (k : Int) 1 _ [⟨ten, 0⟩] 1 1 HCT.out rfl (by unfold maxLen; omega) 0 HE1.out HV1.out).mono ?_); rintro e v ⟨rfl, _, hl⟩; have HL := Lib.hid hl; have hS := HC0.out _ HL.out.2; clear hl HCT)
        | (go_at_call 23; (with_reducible refine (one_any _ (k : Int) 2 ten ten_in c).mono ?_); rintro e v ⟨z2, rfl, hc, hb, _⟩; have HL := Lib.hid (HL.out.next hb); have HCT := Lib.hid hc; have hS := HC0.out _ HL.out.2; clear hb hc)
        | (go_at_call 12; (with_reducible refine (Lm.takeAs HL.out (k : Int) 2 _ [⟨ten, c⟩] 1 1 HCT.out rfl (by unfold maxLen; omega) 1 HE2.out HV2.out).mono ?_); rintro e v ⟨rfl, _, hl⟩; have HL := Lib.hid hl; have hS := HC0.out _ HL.out.2; clear hl HCT))
      all_goals
        have c1 := hS
        clear hS c0
        have w1 : wrap64 (9007199254740991 - near T) = 9007199254740991 - near T := IntWalk.wrap64_in _ (by omega)
        obtain ⟨D, hD⟩ : ∃ D, near T = D := ⟨_, rfl⟩
        rw [hD] at ns1 ns2 nl nh w1 ⊢
        by_cases hgt : 9007199254740991 - D < c
        · have t3 : decide (9007199254740991 - D < c) = true := decide_eq_true hgt
          have HNS := Lib.hid (ns1 hgt)
          clear ns1 ns2
          go_wp2_with fail
          go_roundw
          case rel => exact ⟨k + 1, V2, T + c, by omega, by go_num, by rw [HNS.out], hT2, HS2.out, HL.out⟩
          case measure => simp [intOf]; omega
        · have t3 : decide (9007199254740991 - D < c) = false := decide_eq_false hgt
          have HNS := Lib.hid (ns2 (by omega))
          have w2 : wrap64 (D + c) = D + c := IntWalk.wrap64_in _ (by omega)
          clear ns1 ns2
          go_wp2_with fail
          go_roundw
          case rel => exact ⟨k + 1, V2, T + c, by omega, by go_num, by rw [HNS.out], hT2, HS2.out, HL.out⟩
          case measure => simp [intOf]; omega
    · obtain rfl : k = n := by omega
      have hdv : demV V ten = near T := by unfold demV; rw [HSV.out.dem]
      have hov : overV V = decide (near T = 9007199254740991) := by
        unfold overV
        rw [HSV.out.all]
        rfl
      have HDV := Lib.hid hdv
      have HOV := Lib.hid hov
      have HD := Lib.hid (fun (u : World) (hu : Below wr.heap.size wr u) => (HL.out.next hu).demand ten ten_in)
      have HO := Lib.hid (fun (u : World) (hu : Below wr.heap.size wr u) => (HL.out.next hu).over)
      rw [hdv] at HD
      rw [hov] at HO
      obtain ⟨D, hD⟩ : ∃ D, near T = D := ⟨_, rfl⟩
      rw [hD] at HD HO ⊢
      clear hdv hov hD
      have BB := Lib.hid (Below.refl wr.heap.size wr)
      obtain ⟨o, t4⟩ : ∃ o, decide (D = 9007199254740991) = o := ⟨_, rfl⟩
      have t5 : (D == 9007199254740991) = o := t4
      rw [t4] at HO
      rcases o with _ | _
      all_goals
        go_wp2_with (first
          | (go_at_call 24; (with_reducible refine (ten0_any _).mono ?_); rintro e v ⟨rfl, hb⟩; have BB := Lib.hid (BB.out.trans (hb.mono BB.out.size)); clear hb)
          | (go_at_call 16; (with_reducible refine (HD.out _ BB.out).mono ?_); rintro e v ⟨rfl, hb⟩; have BB := Lib.hid (BB.out.trans (hb.mono BB.out.size)); clear hb)
          | (go_at_call 16; (with_reducible refine (mdemand_nil _ ten).mono ?_); rintro e v ⟨rfl, hb⟩; have BB := Lib.hid (BB.out.trans (hb.mono BB.out.size)); clear hb)
          | (go_at_call 21; (with_reducible refine (HO.out _ BB.out).mono ?_); rintro e v ⟨rfl, hb⟩; have BB := Lib.hid (BB.out.trans (hb.mono BB.out.size)); clear hb)
          | (go_at_call 21; (with_reducible refine (mover_nil _).mono ?_); rintro e v ⟨rfl, hb⟩; have BB := Lib.hid (BB.out.trans (hb.mono BB.out.size)); clear hb)
          | (go_at_call 12; (with_reducible refine (mtake_nil _ 0 0 none 0 0 0).mono ?_); rintro e v ⟨rfl, hb⟩; have BB := Lib.hid (BB.out.trans (hb.mono BB.out.size)); clear hb)
          | (go_at_call 19; (with_reducible refine (mdemands_nil _).mono ?_); rintro e v ⟨q9, cp9, rfl, hb⟩; have BB := Lib.hid (BB.out.trans (hb.mono BB.out.size)); clear hb))
        go_ret
        exact ⟨rfl, HL.out.2.trans (BB.out.mono HL.out.2.size)⟩
theorem sums_arg (w : World) (x : Option Addr × List Int × Nat) (hx : NsArg w x) :
    Calls Try.prog 6 #[.slice x.1 x.2.1.length x.2.2] w fun e w' => e = .returned (.bool true) ∧ Below w.heap.size w w' :=
  sums_walk w x.1 x.2.1 _ _ hx.at_ rfl (Nat.le_trans hx.le hx.max)
end Go.Proofs.Ytgididkpgncdjaa
