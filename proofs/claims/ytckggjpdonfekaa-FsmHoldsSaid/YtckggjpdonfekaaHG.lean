/- fsm: FsmHolds's walk. -/
import Derived.Test.YtckggjpdonfekaaHE
namespace Go.Proofs.Ytckggjpdonfekaa
open Go.RowKit

theorem holds1 (o : Op) (r hold XI M : Int) (d : Dt) (h : okL o r = true) (hi : XI ≠ o.id) (hM : min hold o.hold = M) :
    stepV o r (Ph.at 3) 5 ⟨o.asn, hold, XI, false, 0⟩ 0 0 d = (⟨4, M, false, false, XI⟩, [ac 3 0, ac 7 (wrap64 (M.tdiv 3)), ac 6 M]) := by
  unfold stepV
  rw [h]
  show meetV o r (Ph.at 3) ⟨o.asn, hold, XI, false, 0⟩ d = _
  unfold meetV metV
  dsimp only
  rw [if_pos rfl, if_neg hi, hM]
  have hg : givesB 0 = false := rfl
  rw [hg, Bool.and_false, Bool.false_and]
  rfl
theorem holds2 (o : Op) (r XI M : Int) (d : Dt) (h : okL o r = true) :
    stepV o r ⟨4, M, false, false, XI⟩ 6 Op.zero 0 0 d = (⟨5, M, false, false, XI⟩, [ac 6 M, ac 9 0]) := by
  unfold stepV
  rw [h]
  rfl
theorem holds3 (o : Op) (r XI M : Int) (d : Dt) (h : okL o r = true) :
    stepV o r ⟨5, M, false, false, XI⟩ 10 Op.zero 0 0 d = (Ph.at 2, [noteAc 4 0 d, ac 5 0, ac 6 0, ac 7 0, ac 8 r, ac 10 0]) := by
  unfold stepV
  rw [h]
  rfl
theorem okL_hold {o : Op} {r : Int} (h : okL o r = true) : 0 ≤ o.hold ∧ o.id ≠ 0 := by
  have h1 : okO o = true := by unfold okL at h; simp at h; exact h.1
  obtain ⟨_, _, a, b, _, _⟩ := okO_yes h1
  rcases holdB_yes a with h | h
  · exact ⟨by omega, b⟩
  · exact ⟨by omega, b⟩
set_option maxRecDepth 4000 in
set_option maxHeartbeats 16000000 in
theorem holds_walk (w : World) (o : Op) (r : Int) (hold : Int) (hi0 : 0 ≤ o.id) (hi1 : o.id ≤ 4294967295) :
    Calls Try.prog 4 #[loV o r, .int .i64 hold] w fun e w' => e = .returned (.bool true) ∧ Below w.heap.size w w' := by
  obtain ⟨oa, oh, oi, of, op⟩ := o
  have HCK := Lib.hid (fun (U : World) => rfcheck_any ⟨oa, oh, oi, of, op⟩ r U)
  unfold loV at HCK
  unfold loV
  dsimp only at *
  rcases hok : okL ⟨oa, oh, oi, of, op⟩ r with _ | _
  · rw [hok] at HCK
    clear hok hi0 hi1
    have HBL := Lib.hid (Blk.new w 26 [.int .i64 oa, .int .i64 oh, .int .u32 oi, .bool of, .int .i64 op, .int .i64 r])
    have HA := Lib.hid (newB w (.cells #[.int .i64 oa, .int .i64 oh, .int .u32 oi, .bool of, .int .i64 op, .int .i64 r] 26))
    go_enter Try.func4, Try.ntmps4
    go_wp2_with fail
    refine (HCK.out _).mono ?_
    rintro e w1 ⟨rfl, hb1⟩
    have HBL1 := Lib.hid (HBL.out.next hb1)
    have HZ1 := Lib.hid (HA.out.trans (hb1.mono HA.out.size))
    clear hb1
    obtain ⟨X, hX⟩ : ∃ X, w.heap.size = X := ⟨_, rfl⟩
    have HX := Lib.hid hX
    rw [hX] at HBL1
    rw [hX]
    clear hX
    have l0 : w1.cell? ⟨X, 0, none⟩ = some (.int .i64 oa) := HBL1.out.cell 0 (by simp)
    have l1 : w1.cell? ⟨X, 1, none⟩ = some (.int .i64 oh) := HBL1.out.cell 1 (by simp)
    have l2 : w1.cell? ⟨X, 2, none⟩ = some (.int .u32 oi) := HBL1.out.cell 2 (by simp)
    have l3 : w1.cell? ⟨X, 3, none⟩ = some (.bool of) := HBL1.out.cell 3 (by simp)
    have l4 : w1.cell? ⟨X, 4, none⟩ = some (.int .i64 op) := HBL1.out.cell 4 (by simp)
    have l5 : w1.cell? ⟨X, 5, none⟩ = some (.int .i64 r) := HBL1.out.cell 5 (by simp)
    go_wp2_with fail
    refine (lives_any _).mono ?_
    rintro e w2 ⟨rfl, hb2⟩
    have HZ2 := Lib.hid (HZ1.out.trans (hb2.mono HZ1.out.size))
    clear hb2
    go_wp2_with fail
    go_ret
    exact ⟨rfl, HZ2.out⟩
  · rw [hok] at HCK
    have hoh := okL_hold hok
    dsimp only at hoh
    have HOK := Lib.hid hok
    clear hok
    by_cases h0 : hold = 0
    · subst h0
      have hM : min 0 oh = 0 := by omega
      have HM := Lib.hid hM
      have HLT := Lib.hid hoh.1
      clear hM
      by_cases hid : oi = 4294967295
      · obtain rfl := hid
        have HE1 := Lib.hid (fun (U : World) => step_lit U ⟨oa, oh, 4294967295, of, op⟩ r (Ph.at 3) 5 ⟨oa, 0, 4294967294, false, 0⟩ 0 0 ⟨4, 0, false, false, 4294967294⟩ (fun _ => [ac 3 0, ac 7 (wrap64 ((0 : Int).tdiv 3)), ac 6 (0)]) 3 (fun d => holds1 ⟨oa, oh, 4294967295, of, op⟩ r (0) (4294967294) (0) d HOK.out (by dsimp only; omega) HM.out) (fun d => rfl) (by omega))
        have HE2 := Lib.hid (fun (U : World) => step_lit U ⟨oa, oh, 4294967295, of, op⟩ r ⟨4, 0, false, false, 4294967294⟩ 6 Op.zero 0 0 ⟨5, 0, false, false, 4294967294⟩ (fun _ => [ac 6 (0), ac 9 0]) 2 (fun d => holds2 ⟨oa, oh, 4294967295, of, op⟩ r (4294967294) (0) d HOK.out) (fun d => rfl) (by omega))
        have HE3 := Lib.hid (fun (U : World) => step_lit U ⟨oa, oh, 4294967295, of, op⟩ r ⟨5, 0, false, false, 4294967294⟩ 10 Op.zero 0 0 (Ph.at 2) (fun d => [noteAc 4 0 d, ac 5 0, ac 6 0, ac 7 0, ac 8 r, ac 10 0]) 6 (fun d => holds3 ⟨oa, oh, 4294967295, of, op⟩ r (4294967294) (0) d HOK.out) (fun d => rfl) (by omega))
        unfold StepL loV Ph.v evA at HE1 HE2 HE3
        unfold Ph.at at HE1 HE3
        dsimp only at HE1 HE2 HE3
        clear hoh
        have HBL := Lib.hid (Blk.new w 26 [.int .i64 oa, .int .i64 oh, .int .u32 4294967295, .bool of, .int .i64 op, .int .i64 r])
        have HA := Lib.hid (newB w (.cells #[.int .i64 oa, .int .i64 oh, .int .u32 4294967295, .bool of, .int .i64 op, .int .i64 r] 26))
        go_enter Try.func4, Try.ntmps4
        go_wp2_with fail
        refine (HCK.out _).mono ?_
        rintro e w1 ⟨rfl, hb1⟩
        have HBL1 := Lib.hid (HBL.out.next hb1)
        have HZ1 := Lib.hid (HA.out.trans (hb1.mono HA.out.size))
        clear hb1
        obtain ⟨X, hX⟩ : ∃ X, w.heap.size = X := ⟨_, rfl⟩
        have HX := Lib.hid hX
        rw [hX] at HBL1
        rw [hX]
        clear hX
        have l0 : w1.cell? ⟨X, 0, none⟩ = some (.int .i64 oa) := HBL1.out.cell 0 (by simp)
        have l1 : w1.cell? ⟨X, 1, none⟩ = some (.int .i64 oh) := HBL1.out.cell 1 (by simp)
        have l2 : w1.cell? ⟨X, 2, none⟩ = some (.int .u32 4294967295) := HBL1.out.cell 2 (by simp)
        have l3 : w1.cell? ⟨X, 3, none⟩ = some (.bool of) := HBL1.out.cell 3 (by simp)
        have l4 : w1.cell? ⟨X, 4, none⟩ = some (.int .i64 op) := HBL1.out.cell 4 (by simp)
        have l5 : w1.cell? ⟨X, 5, none⟩ = some (.int .i64 r) := HBL1.out.cell 5 (by simp)
        have HRR := Lib.hid (newB w1 (.cells #[.int .i64 oa, .int .i64 (0), .int .u32 4294967294, .bool false, .int .i64 0] 24))
        have m0 : (w1.alloc (.cells #[.int .i64 oa, .int .i64 (0), .int .u32 4294967294, .bool false, .int .i64 0] 24)).cell? ⟨X, 0, none⟩ = some (.int .i64 oa) := (HBL1.out.next HRR.out).cell 0 (by simp)
        have m1 : (w1.alloc (.cells #[.int .i64 oa, .int .i64 (0), .int .u32 4294967294, .bool false, .int .i64 0] 24)).cell? ⟨X, 1, none⟩ = some (.int .i64 oh) := (HBL1.out.next HRR.out).cell 1 (by simp)
        have m2 : (w1.alloc (.cells #[.int .i64 oa, .int .i64 (0), .int .u32 4294967294, .bool false, .int .i64 0] 24)).cell? ⟨X, 2, none⟩ = some (.int .u32 4294967295) := (HBL1.out.next HRR.out).cell 2 (by simp)
        have m3 : (w1.alloc (.cells #[.int .i64 oa, .int .i64 (0), .int .u32 4294967294, .bool false, .int .i64 0] 24)).cell? ⟨X, 3, none⟩ = some (.bool of) := (HBL1.out.next HRR.out).cell 3 (by simp)
        have m4 : (w1.alloc (.cells #[.int .i64 oa, .int .i64 (0), .int .u32 4294967294, .bool false, .int .i64 0] 24)).cell? ⟨X, 4, none⟩ = some (.int .i64 op) := (HBL1.out.next HRR.out).cell 4 (by simp)
        have m5 : (w1.alloc (.cells #[.int .i64 oa, .int .i64 (0), .int .u32 4294967294, .bool false, .int .i64 0] 24)).cell? ⟨X, 5, none⟩ = some (.int .i64 r) := (HBL1.out.next HRR.out).cell 5 (by simp)
        have n2 : (w1.alloc (.cells #[.int .i64 oa, .int .i64 (0), .int .u32 0, .bool false, .int .i64 0] 24)).cell? ⟨X, 2, none⟩ = some (.int .u32 4294967295) := (HBL1.out.alloc _).cell 2 (by simp)
        go_wp2_with fail
        refine (HE1.out _).mono ?_
        rintro e w2 ⟨d1, g1, cap1, rfl, hc1, ha1, hb2⟩
        have hk := HRR.out.trans (hb2.mono HRR.out.size)
        have HBL2 := Lib.hid (HBL1.out.next hk)
        have HZ2 := Lib.hid (HZ1.out.trans (hk.mono HZ1.out.size))
        have HA1 := Lib.hid ha1
        have HC1 := Lib.hid hc1
        clear hk hb2 ha1 hc1 l0 l1 l2 l3 l4 l5 m0 m1 m2 m3 m4 m5 n2 hi0 hi1 
        have l0 : (w2.alloc (.cells #[.int .i64 4, .int .i64 (0), .bool false, .bool false, .int .u32 (4294967294)] 31)).cell? ⟨X, 0, none⟩ = some (.int .i64 oa) := (HBL2.out.alloc _).cell 0 (by simp)
        have l1 : (w2.alloc (.cells #[.int .i64 4, .int .i64 (0), .bool false, .bool false, .int .u32 (4294967294)] 31)).cell? ⟨X, 1, none⟩ = some (.int .i64 oh) := (HBL2.out.alloc _).cell 1 (by simp)
        have l2 : (w2.alloc (.cells #[.int .i64 4, .int .i64 (0), .bool false, .bool false, .int .u32 (4294967294)] 31)).cell? ⟨X, 2, none⟩ = some (.int .u32 4294967295) := (HBL2.out.alloc _).cell 2 (by simp)
        have l3 : (w2.alloc (.cells #[.int .i64 4, .int .i64 (0), .bool false, .bool false, .int .u32 (4294967294)] 31)).cell? ⟨X, 3, none⟩ = some (.bool of) := (HBL2.out.alloc _).cell 3 (by simp)
        have l4 : (w2.alloc (.cells #[.int .i64 4, .int .i64 (0), .bool false, .bool false, .int .u32 (4294967294)] 31)).cell? ⟨X, 4, none⟩ = some (.int .i64 op) := (HBL2.out.alloc _).cell 4 (by simp)
        have l5 : (w2.alloc (.cells #[.int .i64 4, .int .i64 (0), .bool false, .bool false, .int .u32 (4294967294)] 31)).cell? ⟨X, 5, none⟩ = some (.int .i64 r) := (HBL2.out.alloc _).cell 5 (by simp)
        go_wp2_with fail
        refine (HE2.out _).mono ?_
        rintro e w3 ⟨d2, g2, cap2, rfl, hc2, ha2, hb3⟩
        have hk := kB hb3
        have HBL3 := Lib.hid (HBL2.out.next hk)
        have HZ3 := Lib.hid (HZ2.out.trans (hk.mono HZ2.out.size))
        have HA1 := Lib.hid (HA1.out.next hk)
        have HBS1 := Lib.hid ((Blk.new w2 31 [.int .i64 4, .int .i64 (0), .bool false, .bool false, .int .u32 (4294967294)]).next hb3)
        obtain ⟨S1, hS1⟩ : ∃ A, w2.heap.size = A := ⟨_, rfl⟩
        rw [hS1] at HBS1 ⊢
        have HA2 := Lib.hid ha2
        have HC2 := Lib.hid hc2
        clear hk hb3 hS1 ha2 hc2 l0 l1 l2 l3 l4 l5
        have l0 : (w3.alloc (.cells #[.int .i64 5, .int .i64 (0), .bool false, .bool false, .int .u32 (4294967294)] 31)).cell? ⟨X, 0, none⟩ = some (.int .i64 oa) := (HBL3.out.alloc _).cell 0 (by simp)
        have l1 : (w3.alloc (.cells #[.int .i64 5, .int .i64 (0), .bool false, .bool false, .int .u32 (4294967294)] 31)).cell? ⟨X, 1, none⟩ = some (.int .i64 oh) := (HBL3.out.alloc _).cell 1 (by simp)
        have l2 : (w3.alloc (.cells #[.int .i64 5, .int .i64 (0), .bool false, .bool false, .int .u32 (4294967294)] 31)).cell? ⟨X, 2, none⟩ = some (.int .u32 4294967295) := (HBL3.out.alloc _).cell 2 (by simp)
        have l3 : (w3.alloc (.cells #[.int .i64 5, .int .i64 (0), .bool false, .bool false, .int .u32 (4294967294)] 31)).cell? ⟨X, 3, none⟩ = some (.bool of) := (HBL3.out.alloc _).cell 3 (by simp)
        have l4 : (w3.alloc (.cells #[.int .i64 5, .int .i64 (0), .bool false, .bool false, .int .u32 (4294967294)] 31)).cell? ⟨X, 4, none⟩ = some (.int .i64 op) := (HBL3.out.alloc _).cell 4 (by simp)
        have l5 : (w3.alloc (.cells #[.int .i64 5, .int .i64 (0), .bool false, .bool false, .int .u32 (4294967294)] 31)).cell? ⟨X, 5, none⟩ = some (.int .i64 r) := (HBL3.out.alloc _).cell 5 (by simp)
        go_wp2_with fail
        refine (HE3.out _).mono ?_
        rintro e w4 ⟨d3, g3, cap3, rfl, hc3, ha3, hb4⟩
        have hk := kB hb4
        have HBL4 := Lib.hid (HBL3.out.next hk)
        have HZ4 := Lib.hid (HZ3.out.trans (hk.mono HZ3.out.size))
        have HA1 := Lib.hid (HA1.out.next hk)
        have HA2 := Lib.hid (HA2.out.next hk)
        have HBS1 := Lib.hid (HBS1.out.next hk)
        have HBS2 := Lib.hid ((Blk.new w3 31 [.int .i64 5, .int .i64 (0), .bool false, .bool false, .int .u32 (4294967294)]).next hb4)
        obtain ⟨S2, hS2⟩ : ∃ A, w3.heap.size = A := ⟨_, rfl⟩
        rw [hS2] at HBS2 ⊢
        have HA3 := Lib.hid ha3
        have HC3 := Lib.hid hc3
        clear hk hb4 hS2 ha3 hc3 l0 l1 l2 l3 l4 l5
        have l1 : (w4.alloc (.cells #[.int .i64 2, .int .i64 0, .bool false, .bool false, .int .u32 0] 31)).cell? ⟨X, 1, none⟩ = some (.int .i64 oh) := (HBL4.out.alloc _).cell 1 (by simp)
        have hlt := HLT.out
        go_wp2_with fail
        clear hlt
        clear l1
        refine (lives_any _).mono ?_
        rintro e w5 ⟨rfl, hb5⟩
        have hk := kB hb5
        have HZ5 := Lib.hid (HZ4.out.trans (hk.mono HZ4.out.size))
        have HA1 := Lib.hid (HA1.out.next hk)
        have HA2 := Lib.hid (HA2.out.next hk)
        have HA3 := Lib.hid (HA3.out.next hk)
        have HBS1 := Lib.hid (HBS1.out.next hk)
        have HBS2 := Lib.hid (HBS2.out.next hk)
        have HBS3 := Lib.hid ((Blk.new w4 31 [.int .i64 2, .int .i64 0, .bool false, .bool false, .int .u32 0]).next hb5)
        obtain ⟨S3, hS3⟩ : ∃ A, w4.heap.size = A := ⟨_, rfl⟩
        rw [hS3] at HBS3 ⊢
        clear hk hb5 hS3
        have b1 : w5.cell? ⟨S1, 1, none⟩ = some (.int .i64 (0)) := HBS1.out.cell 1 (by simp)
        have b2 : w5.cell? ⟨S2, 0, none⟩ = some (.int .i64 5) := HBS2.out.cell 0 (by simp)
        have b3 : w5.cell? ⟨S3, 0, none⟩ = some (.int .i64 2) := HBS3.out.cell 0 (by simp)
        have a1 : w5.cell? ⟨g1, 6, none⟩ = some (.int .i64 (0)) := (HA1.out.2 6 (by omega)).trans (by kernel_rfl)
        have a2 : w5.cell? ⟨g1, 11, none⟩ = some (.int .i64 (0)) := (HA1.out.2 11 (by omega)).trans rfl
        have a3 : w5.cell? ⟨g2, 1, none⟩ = some (.int .i64 (0)) := (HA2.out.2 1 (by omega)).trans rfl
        have a4 : w5.cell? ⟨g3, 2, none⟩ = some (.int .i64 4) := (HA3.out.2 2 (by omega)).trans rfl
        have a5 : w5.cell? ⟨g3, 3, none⟩ = some (.int .i64 0) := (HA3.out.2 3 (by omega)).trans rfl
        have a6 : w5.cell? ⟨g3, 25, none⟩ = some (.int .i64 10) := (HA3.out.2 25 (by omega)).trans rfl
        go_wp2_with fail
        go_ret
        exact ⟨rfl, HZ5.out⟩
      · have ho1 : oi + 1 ≤ 4294967295 := by omega
        have ho2 : (oi + 1 == 0) = false := by have : oi + 1 ≠ 0 := by omega
                                               simpa using this
        clear hid
        have HE1 := Lib.hid (fun (U : World) => step_lit U ⟨oa, oh, oi, of, op⟩ r (Ph.at 3) 5 ⟨oa, 0, oi + 1, false, 0⟩ 0 0 ⟨4, 0, false, false, oi + 1⟩ (fun _ => [ac 3 0, ac 7 (wrap64 ((0 : Int).tdiv 3)), ac 6 (0)]) 3 (fun d => holds1 ⟨oa, oh, oi, of, op⟩ r (0) (oi + 1) (0) d HOK.out (by dsimp only; omega) HM.out) (fun d => rfl) (by omega))
        have HE2 := Lib.hid (fun (U : World) => step_lit U ⟨oa, oh, oi, of, op⟩ r ⟨4, 0, false, false, oi + 1⟩ 6 Op.zero 0 0 ⟨5, 0, false, false, oi + 1⟩ (fun _ => [ac 6 (0), ac 9 0]) 2 (fun d => holds2 ⟨oa, oh, oi, of, op⟩ r (oi + 1) (0) d HOK.out) (fun d => rfl) (by omega))
        have HE3 := Lib.hid (fun (U : World) => step_lit U ⟨oa, oh, oi, of, op⟩ r ⟨5, 0, false, false, oi + 1⟩ 10 Op.zero 0 0 (Ph.at 2) (fun d => [noteAc 4 0 d, ac 5 0, ac 6 0, ac 7 0, ac 8 r, ac 10 0]) 6 (fun d => holds3 ⟨oa, oh, oi, of, op⟩ r (oi + 1) (0) d HOK.out) (fun d => rfl) (by omega))
        unfold StepL loV Ph.v evA at HE1 HE2 HE3
        unfold Ph.at at HE1 HE3
        dsimp only at HE1 HE2 HE3
        clear hoh
        have HBL := Lib.hid (Blk.new w 26 [.int .i64 oa, .int .i64 oh, .int .u32 oi, .bool of, .int .i64 op, .int .i64 r])
        have HA := Lib.hid (newB w (.cells #[.int .i64 oa, .int .i64 oh, .int .u32 oi, .bool of, .int .i64 op, .int .i64 r] 26))
        go_enter Try.func4, Try.ntmps4
        go_wp2_with fail
        refine (HCK.out _).mono ?_
        rintro e w1 ⟨rfl, hb1⟩
        have HBL1 := Lib.hid (HBL.out.next hb1)
        have HZ1 := Lib.hid (HA.out.trans (hb1.mono HA.out.size))
        clear hb1
        obtain ⟨X, hX⟩ : ∃ X, w.heap.size = X := ⟨_, rfl⟩
        have HX := Lib.hid hX
        rw [hX] at HBL1
        rw [hX]
        clear hX
        have l0 : w1.cell? ⟨X, 0, none⟩ = some (.int .i64 oa) := HBL1.out.cell 0 (by simp)
        have l1 : w1.cell? ⟨X, 1, none⟩ = some (.int .i64 oh) := HBL1.out.cell 1 (by simp)
        have l2 : w1.cell? ⟨X, 2, none⟩ = some (.int .u32 oi) := HBL1.out.cell 2 (by simp)
        have l3 : w1.cell? ⟨X, 3, none⟩ = some (.bool of) := HBL1.out.cell 3 (by simp)
        have l4 : w1.cell? ⟨X, 4, none⟩ = some (.int .i64 op) := HBL1.out.cell 4 (by simp)
        have l5 : w1.cell? ⟨X, 5, none⟩ = some (.int .i64 r) := HBL1.out.cell 5 (by simp)
        have HRR := Lib.hid (newB w1 (.cells #[.int .i64 oa, .int .i64 (0), .int .u32 (oi + 1), .bool false, .int .i64 0] 24))
        have m0 : (w1.alloc (.cells #[.int .i64 oa, .int .i64 (0), .int .u32 (oi + 1), .bool false, .int .i64 0] 24)).cell? ⟨X, 0, none⟩ = some (.int .i64 oa) := (HBL1.out.next HRR.out).cell 0 (by simp)
        have m1 : (w1.alloc (.cells #[.int .i64 oa, .int .i64 (0), .int .u32 (oi + 1), .bool false, .int .i64 0] 24)).cell? ⟨X, 1, none⟩ = some (.int .i64 oh) := (HBL1.out.next HRR.out).cell 1 (by simp)
        have m2 : (w1.alloc (.cells #[.int .i64 oa, .int .i64 (0), .int .u32 (oi + 1), .bool false, .int .i64 0] 24)).cell? ⟨X, 2, none⟩ = some (.int .u32 oi) := (HBL1.out.next HRR.out).cell 2 (by simp)
        have m3 : (w1.alloc (.cells #[.int .i64 oa, .int .i64 (0), .int .u32 (oi + 1), .bool false, .int .i64 0] 24)).cell? ⟨X, 3, none⟩ = some (.bool of) := (HBL1.out.next HRR.out).cell 3 (by simp)
        have m4 : (w1.alloc (.cells #[.int .i64 oa, .int .i64 (0), .int .u32 (oi + 1), .bool false, .int .i64 0] 24)).cell? ⟨X, 4, none⟩ = some (.int .i64 op) := (HBL1.out.next HRR.out).cell 4 (by simp)
        have m5 : (w1.alloc (.cells #[.int .i64 oa, .int .i64 (0), .int .u32 (oi + 1), .bool false, .int .i64 0] 24)).cell? ⟨X, 5, none⟩ = some (.int .i64 r) := (HBL1.out.next HRR.out).cell 5 (by simp)
        go_wp2_with fail
        refine (HE1.out _).mono ?_
        rintro e w2 ⟨d1, g1, cap1, rfl, hc1, ha1, hb2⟩
        have hk := HRR.out.trans (hb2.mono HRR.out.size)
        have HBL2 := Lib.hid (HBL1.out.next hk)
        have HZ2 := Lib.hid (HZ1.out.trans (hk.mono HZ1.out.size))
        have HA1 := Lib.hid ha1
        have HC1 := Lib.hid hc1
        clear hk hb2 ha1 hc1 l0 l1 l2 l3 l4 l5 m0 m1 m2 m3 m4 m5 ho1 ho2 hi0 hi1 
        have l0 : (w2.alloc (.cells #[.int .i64 4, .int .i64 (0), .bool false, .bool false, .int .u32 (oi + 1)] 31)).cell? ⟨X, 0, none⟩ = some (.int .i64 oa) := (HBL2.out.alloc _).cell 0 (by simp)
        have l1 : (w2.alloc (.cells #[.int .i64 4, .int .i64 (0), .bool false, .bool false, .int .u32 (oi + 1)] 31)).cell? ⟨X, 1, none⟩ = some (.int .i64 oh) := (HBL2.out.alloc _).cell 1 (by simp)
        have l2 : (w2.alloc (.cells #[.int .i64 4, .int .i64 (0), .bool false, .bool false, .int .u32 (oi + 1)] 31)).cell? ⟨X, 2, none⟩ = some (.int .u32 oi) := (HBL2.out.alloc _).cell 2 (by simp)
        have l3 : (w2.alloc (.cells #[.int .i64 4, .int .i64 (0), .bool false, .bool false, .int .u32 (oi + 1)] 31)).cell? ⟨X, 3, none⟩ = some (.bool of) := (HBL2.out.alloc _).cell 3 (by simp)
        have l4 : (w2.alloc (.cells #[.int .i64 4, .int .i64 (0), .bool false, .bool false, .int .u32 (oi + 1)] 31)).cell? ⟨X, 4, none⟩ = some (.int .i64 op) := (HBL2.out.alloc _).cell 4 (by simp)
        have l5 : (w2.alloc (.cells #[.int .i64 4, .int .i64 (0), .bool false, .bool false, .int .u32 (oi + 1)] 31)).cell? ⟨X, 5, none⟩ = some (.int .i64 r) := (HBL2.out.alloc _).cell 5 (by simp)
        go_wp2_with fail
        refine (HE2.out _).mono ?_
        rintro e w3 ⟨d2, g2, cap2, rfl, hc2, ha2, hb3⟩
        have hk := kB hb3
        have HBL3 := Lib.hid (HBL2.out.next hk)
        have HZ3 := Lib.hid (HZ2.out.trans (hk.mono HZ2.out.size))
        have HA1 := Lib.hid (HA1.out.next hk)
        have HBS1 := Lib.hid ((Blk.new w2 31 [.int .i64 4, .int .i64 (0), .bool false, .bool false, .int .u32 (oi + 1)]).next hb3)
        obtain ⟨S1, hS1⟩ : ∃ A, w2.heap.size = A := ⟨_, rfl⟩
        rw [hS1] at HBS1 ⊢
        have HA2 := Lib.hid ha2
        have HC2 := Lib.hid hc2
        clear hk hb3 hS1 ha2 hc2 l0 l1 l2 l3 l4 l5
        have l0 : (w3.alloc (.cells #[.int .i64 5, .int .i64 (0), .bool false, .bool false, .int .u32 (oi + 1)] 31)).cell? ⟨X, 0, none⟩ = some (.int .i64 oa) := (HBL3.out.alloc _).cell 0 (by simp)
        have l1 : (w3.alloc (.cells #[.int .i64 5, .int .i64 (0), .bool false, .bool false, .int .u32 (oi + 1)] 31)).cell? ⟨X, 1, none⟩ = some (.int .i64 oh) := (HBL3.out.alloc _).cell 1 (by simp)
        have l2 : (w3.alloc (.cells #[.int .i64 5, .int .i64 (0), .bool false, .bool false, .int .u32 (oi + 1)] 31)).cell? ⟨X, 2, none⟩ = some (.int .u32 oi) := (HBL3.out.alloc _).cell 2 (by simp)
        have l3 : (w3.alloc (.cells #[.int .i64 5, .int .i64 (0), .bool false, .bool false, .int .u32 (oi + 1)] 31)).cell? ⟨X, 3, none⟩ = some (.bool of) := (HBL3.out.alloc _).cell 3 (by simp)
        have l4 : (w3.alloc (.cells #[.int .i64 5, .int .i64 (0), .bool false, .bool false, .int .u32 (oi + 1)] 31)).cell? ⟨X, 4, none⟩ = some (.int .i64 op) := (HBL3.out.alloc _).cell 4 (by simp)
        have l5 : (w3.alloc (.cells #[.int .i64 5, .int .i64 (0), .bool false, .bool false, .int .u32 (oi + 1)] 31)).cell? ⟨X, 5, none⟩ = some (.int .i64 r) := (HBL3.out.alloc _).cell 5 (by simp)
        go_wp2_with fail
        refine (HE3.out _).mono ?_
        rintro e w4 ⟨d3, g3, cap3, rfl, hc3, ha3, hb4⟩
        have hk := kB hb4
        have HBL4 := Lib.hid (HBL3.out.next hk)
        have HZ4 := Lib.hid (HZ3.out.trans (hk.mono HZ3.out.size))
        have HA1 := Lib.hid (HA1.out.next hk)
        have HA2 := Lib.hid (HA2.out.next hk)
        have HBS1 := Lib.hid (HBS1.out.next hk)
        have HBS2 := Lib.hid ((Blk.new w3 31 [.int .i64 5, .int .i64 (0), .bool false, .bool false, .int .u32 (oi + 1)]).next hb4)
        obtain ⟨S2, hS2⟩ : ∃ A, w3.heap.size = A := ⟨_, rfl⟩
        rw [hS2] at HBS2 ⊢
        have HA3 := Lib.hid ha3
        have HC3 := Lib.hid hc3
        clear hk hb4 hS2 ha3 hc3 l0 l1 l2 l3 l4 l5
        have l1 : (w4.alloc (.cells #[.int .i64 2, .int .i64 0, .bool false, .bool false, .int .u32 0] 31)).cell? ⟨X, 1, none⟩ = some (.int .i64 oh) := (HBL4.out.alloc _).cell 1 (by simp)
        have hlt := HLT.out
        go_wp2_with fail
        clear hlt
        clear l1
        refine (lives_any _).mono ?_
        rintro e w5 ⟨rfl, hb5⟩
        have hk := kB hb5
        have HZ5 := Lib.hid (HZ4.out.trans (hk.mono HZ4.out.size))
        have HA1 := Lib.hid (HA1.out.next hk)
        have HA2 := Lib.hid (HA2.out.next hk)
        have HA3 := Lib.hid (HA3.out.next hk)
        have HBS1 := Lib.hid (HBS1.out.next hk)
        have HBS2 := Lib.hid (HBS2.out.next hk)
        have HBS3 := Lib.hid ((Blk.new w4 31 [.int .i64 2, .int .i64 0, .bool false, .bool false, .int .u32 0]).next hb5)
        obtain ⟨S3, hS3⟩ : ∃ A, w4.heap.size = A := ⟨_, rfl⟩
        rw [hS3] at HBS3 ⊢
        clear hk hb5 hS3
        have b1 : w5.cell? ⟨S1, 1, none⟩ = some (.int .i64 (0)) := HBS1.out.cell 1 (by simp)
        have b2 : w5.cell? ⟨S2, 0, none⟩ = some (.int .i64 5) := HBS2.out.cell 0 (by simp)
        have b3 : w5.cell? ⟨S3, 0, none⟩ = some (.int .i64 2) := HBS3.out.cell 0 (by simp)
        have a1 : w5.cell? ⟨g1, 6, none⟩ = some (.int .i64 (0)) := (HA1.out.2 6 (by omega)).trans (by kernel_rfl)
        have a2 : w5.cell? ⟨g1, 11, none⟩ = some (.int .i64 (0)) := (HA1.out.2 11 (by omega)).trans rfl
        have a3 : w5.cell? ⟨g2, 1, none⟩ = some (.int .i64 (0)) := (HA2.out.2 1 (by omega)).trans rfl
        have a4 : w5.cell? ⟨g3, 2, none⟩ = some (.int .i64 4) := (HA3.out.2 2 (by omega)).trans rfl
        have a5 : w5.cell? ⟨g3, 3, none⟩ = some (.int .i64 0) := (HA3.out.2 3 (by omega)).trans rfl
        have a6 : w5.cell? ⟨g3, 25, none⟩ = some (.int .i64 10) := (HA3.out.2 25 (by omega)).trans rfl
        go_wp2_with fail
        go_ret
        exact ⟨rfl, HZ5.out⟩
    · have h0' : (hold == 0) = false := by simpa using h0
      by_cases h3 : hold < 3
      · clear h0 hi0 hi1 hoh
        have HBL := Lib.hid (Blk.new w 26 [.int .i64 oa, .int .i64 oh, .int .u32 oi, .bool of, .int .i64 op, .int .i64 r])
        have HA := Lib.hid (newB w (.cells #[.int .i64 oa, .int .i64 oh, .int .u32 oi, .bool of, .int .i64 op, .int .i64 r] 26))
        go_enter Try.func4, Try.ntmps4
        go_wp2_with fail
        refine (HCK.out _).mono ?_
        rintro e w1 ⟨rfl, hb1⟩
        have HBL1 := Lib.hid (HBL.out.next hb1)
        have HZ1 := Lib.hid (HA.out.trans (hb1.mono HA.out.size))
        clear hb1
        obtain ⟨X, hX⟩ : ∃ X, w.heap.size = X := ⟨_, rfl⟩
        have HX := Lib.hid hX
        rw [hX] at HBL1
        rw [hX]
        clear hX
        have l0 : w1.cell? ⟨X, 0, none⟩ = some (.int .i64 oa) := HBL1.out.cell 0 (by simp)
        have l1 : w1.cell? ⟨X, 1, none⟩ = some (.int .i64 oh) := HBL1.out.cell 1 (by simp)
        have l2 : w1.cell? ⟨X, 2, none⟩ = some (.int .u32 oi) := HBL1.out.cell 2 (by simp)
        have l3 : w1.cell? ⟨X, 3, none⟩ = some (.bool of) := HBL1.out.cell 3 (by simp)
        have l4 : w1.cell? ⟨X, 4, none⟩ = some (.int .i64 op) := HBL1.out.cell 4 (by simp)
        have l5 : w1.cell? ⟨X, 5, none⟩ = some (.int .i64 r) := HBL1.out.cell 5 (by simp)
        go_wp2_with fail
        refine (lives_any _).mono ?_
        rintro e w2 ⟨rfl, hb2⟩
        have HZ2 := Lib.hid (HZ1.out.trans (hb2.mono HZ1.out.size))
        clear hb2
        go_wp2_with fail
        go_ret
        exact ⟨rfl, HZ2.out⟩
      · by_cases h6 : 65535 < hold
        · have h3' : 3 ≤ hold := by omega
          clear h0 h3 hi0 hi1 hoh
          have HBL := Lib.hid (Blk.new w 26 [.int .i64 oa, .int .i64 oh, .int .u32 oi, .bool of, .int .i64 op, .int .i64 r])
          have HA := Lib.hid (newB w (.cells #[.int .i64 oa, .int .i64 oh, .int .u32 oi, .bool of, .int .i64 op, .int .i64 r] 26))
          go_enter Try.func4, Try.ntmps4
          go_wp2_with fail
          refine (HCK.out _).mono ?_
          rintro e w1 ⟨rfl, hb1⟩
          have HBL1 := Lib.hid (HBL.out.next hb1)
          have HZ1 := Lib.hid (HA.out.trans (hb1.mono HA.out.size))
          clear hb1
          obtain ⟨X, hX⟩ : ∃ X, w.heap.size = X := ⟨_, rfl⟩
          have HX := Lib.hid hX
          rw [hX] at HBL1
          rw [hX]
          clear hX
          have l0 : w1.cell? ⟨X, 0, none⟩ = some (.int .i64 oa) := HBL1.out.cell 0 (by simp)
          have l1 : w1.cell? ⟨X, 1, none⟩ = some (.int .i64 oh) := HBL1.out.cell 1 (by simp)
          have l2 : w1.cell? ⟨X, 2, none⟩ = some (.int .u32 oi) := HBL1.out.cell 2 (by simp)
          have l3 : w1.cell? ⟨X, 3, none⟩ = some (.bool of) := HBL1.out.cell 3 (by simp)
          have l4 : w1.cell? ⟨X, 4, none⟩ = some (.int .i64 op) := HBL1.out.cell 4 (by simp)
          have l5 : w1.cell? ⟨X, 5, none⟩ = some (.int .i64 r) := HBL1.out.cell 5 (by simp)
          go_wp2_with fail
          refine (lives_any _).mono ?_
          rintro e w2 ⟨rfl, hb2⟩
          have HZ2 := Lib.hid (HZ1.out.trans (hb2.mono HZ1.out.size))
          clear hb2
          go_wp2_with fail
          go_ret
          exact ⟨rfl, HZ2.out⟩
        · have h3' : 3 ≤ hold := by omega
          have h6' : hold ≤ 65535 := by omega
          clear h0 h3 h6
          by_cases hlt : oh < hold
          · have hM : min hold oh = oh := by omega
            have HM := Lib.hid hM
            have HLT := Lib.hid hlt
            clear hM hlt
            by_cases hid : oi = 4294967295
            · obtain rfl := hid
              have HE1 := Lib.hid (fun (U : World) => step_lit U ⟨oa, oh, 4294967295, of, op⟩ r (Ph.at 3) 5 ⟨oa, hold, 4294967294, false, 0⟩ 0 0 ⟨4, oh, false, false, 4294967294⟩ (fun _ => [ac 3 0, ac 7 (wrap64 ((oh : Int).tdiv 3)), ac 6 (oh)]) 3 (fun d => holds1 ⟨oa, oh, 4294967295, of, op⟩ r (hold) (4294967294) (oh) d HOK.out (by dsimp only; omega) HM.out) (fun d => rfl) (by omega))
              have HE2 := Lib.hid (fun (U : World) => step_lit U ⟨oa, oh, 4294967295, of, op⟩ r ⟨4, oh, false, false, 4294967294⟩ 6 Op.zero 0 0 ⟨5, oh, false, false, 4294967294⟩ (fun _ => [ac 6 (oh), ac 9 0]) 2 (fun d => holds2 ⟨oa, oh, 4294967295, of, op⟩ r (4294967294) (oh) d HOK.out) (fun d => rfl) (by omega))
              have HE3 := Lib.hid (fun (U : World) => step_lit U ⟨oa, oh, 4294967295, of, op⟩ r ⟨5, oh, false, false, 4294967294⟩ 10 Op.zero 0 0 (Ph.at 2) (fun d => [noteAc 4 0 d, ac 5 0, ac 6 0, ac 7 0, ac 8 r, ac 10 0]) 6 (fun d => holds3 ⟨oa, oh, 4294967295, of, op⟩ r (4294967294) (oh) d HOK.out) (fun d => rfl) (by omega))
              unfold StepL loV Ph.v evA at HE1 HE2 HE3
              unfold Ph.at at HE1 HE3
              dsimp only at HE1 HE2 HE3
              clear hoh
              have HBL := Lib.hid (Blk.new w 26 [.int .i64 oa, .int .i64 oh, .int .u32 4294967295, .bool of, .int .i64 op, .int .i64 r])
              have HA := Lib.hid (newB w (.cells #[.int .i64 oa, .int .i64 oh, .int .u32 4294967295, .bool of, .int .i64 op, .int .i64 r] 26))
              go_enter Try.func4, Try.ntmps4
              go_wp2_with fail
              refine (HCK.out _).mono ?_
              rintro e w1 ⟨rfl, hb1⟩
              have HBL1 := Lib.hid (HBL.out.next hb1)
              have HZ1 := Lib.hid (HA.out.trans (hb1.mono HA.out.size))
              clear hb1
              obtain ⟨X, hX⟩ : ∃ X, w.heap.size = X := ⟨_, rfl⟩
              have HX := Lib.hid hX
              rw [hX] at HBL1
              rw [hX]
              clear hX
              have l0 : w1.cell? ⟨X, 0, none⟩ = some (.int .i64 oa) := HBL1.out.cell 0 (by simp)
              have l1 : w1.cell? ⟨X, 1, none⟩ = some (.int .i64 oh) := HBL1.out.cell 1 (by simp)
              have l2 : w1.cell? ⟨X, 2, none⟩ = some (.int .u32 4294967295) := HBL1.out.cell 2 (by simp)
              have l3 : w1.cell? ⟨X, 3, none⟩ = some (.bool of) := HBL1.out.cell 3 (by simp)
              have l4 : w1.cell? ⟨X, 4, none⟩ = some (.int .i64 op) := HBL1.out.cell 4 (by simp)
              have l5 : w1.cell? ⟨X, 5, none⟩ = some (.int .i64 r) := HBL1.out.cell 5 (by simp)
              have HRR := Lib.hid (newB w1 (.cells #[.int .i64 oa, .int .i64 (hold), .int .u32 4294967294, .bool false, .int .i64 0] 24))
              have m0 : (w1.alloc (.cells #[.int .i64 oa, .int .i64 (hold), .int .u32 4294967294, .bool false, .int .i64 0] 24)).cell? ⟨X, 0, none⟩ = some (.int .i64 oa) := (HBL1.out.next HRR.out).cell 0 (by simp)
              have m1 : (w1.alloc (.cells #[.int .i64 oa, .int .i64 (hold), .int .u32 4294967294, .bool false, .int .i64 0] 24)).cell? ⟨X, 1, none⟩ = some (.int .i64 oh) := (HBL1.out.next HRR.out).cell 1 (by simp)
              have m2 : (w1.alloc (.cells #[.int .i64 oa, .int .i64 (hold), .int .u32 4294967294, .bool false, .int .i64 0] 24)).cell? ⟨X, 2, none⟩ = some (.int .u32 4294967295) := (HBL1.out.next HRR.out).cell 2 (by simp)
              have m3 : (w1.alloc (.cells #[.int .i64 oa, .int .i64 (hold), .int .u32 4294967294, .bool false, .int .i64 0] 24)).cell? ⟨X, 3, none⟩ = some (.bool of) := (HBL1.out.next HRR.out).cell 3 (by simp)
              have m4 : (w1.alloc (.cells #[.int .i64 oa, .int .i64 (hold), .int .u32 4294967294, .bool false, .int .i64 0] 24)).cell? ⟨X, 4, none⟩ = some (.int .i64 op) := (HBL1.out.next HRR.out).cell 4 (by simp)
              have m5 : (w1.alloc (.cells #[.int .i64 oa, .int .i64 (hold), .int .u32 4294967294, .bool false, .int .i64 0] 24)).cell? ⟨X, 5, none⟩ = some (.int .i64 r) := (HBL1.out.next HRR.out).cell 5 (by simp)
              have n2 : (w1.alloc (.cells #[.int .i64 oa, .int .i64 (hold), .int .u32 0, .bool false, .int .i64 0] 24)).cell? ⟨X, 2, none⟩ = some (.int .u32 4294967295) := (HBL1.out.alloc _).cell 2 (by simp)
              go_wp2_with fail
              refine (HE1.out _).mono ?_
              rintro e w2 ⟨d1, g1, cap1, rfl, hc1, ha1, hb2⟩
              have hk := HRR.out.trans (hb2.mono HRR.out.size)
              have HBL2 := Lib.hid (HBL1.out.next hk)
              have HZ2 := Lib.hid (HZ1.out.trans (hk.mono HZ1.out.size))
              have HA1 := Lib.hid ha1
              have HC1 := Lib.hid hc1
              clear hk hb2 ha1 hc1 l0 l1 l2 l3 l4 l5 m0 m1 m2 m3 m4 m5 n2 hi0 hi1 h0' h3' h6'
              have l0 : (w2.alloc (.cells #[.int .i64 4, .int .i64 (oh), .bool false, .bool false, .int .u32 (4294967294)] 31)).cell? ⟨X, 0, none⟩ = some (.int .i64 oa) := (HBL2.out.alloc _).cell 0 (by simp)
              have l1 : (w2.alloc (.cells #[.int .i64 4, .int .i64 (oh), .bool false, .bool false, .int .u32 (4294967294)] 31)).cell? ⟨X, 1, none⟩ = some (.int .i64 oh) := (HBL2.out.alloc _).cell 1 (by simp)
              have l2 : (w2.alloc (.cells #[.int .i64 4, .int .i64 (oh), .bool false, .bool false, .int .u32 (4294967294)] 31)).cell? ⟨X, 2, none⟩ = some (.int .u32 4294967295) := (HBL2.out.alloc _).cell 2 (by simp)
              have l3 : (w2.alloc (.cells #[.int .i64 4, .int .i64 (oh), .bool false, .bool false, .int .u32 (4294967294)] 31)).cell? ⟨X, 3, none⟩ = some (.bool of) := (HBL2.out.alloc _).cell 3 (by simp)
              have l4 : (w2.alloc (.cells #[.int .i64 4, .int .i64 (oh), .bool false, .bool false, .int .u32 (4294967294)] 31)).cell? ⟨X, 4, none⟩ = some (.int .i64 op) := (HBL2.out.alloc _).cell 4 (by simp)
              have l5 : (w2.alloc (.cells #[.int .i64 4, .int .i64 (oh), .bool false, .bool false, .int .u32 (4294967294)] 31)).cell? ⟨X, 5, none⟩ = some (.int .i64 r) := (HBL2.out.alloc _).cell 5 (by simp)
              go_wp2_with fail
              refine (HE2.out _).mono ?_
              rintro e w3 ⟨d2, g2, cap2, rfl, hc2, ha2, hb3⟩
              have hk := kB hb3
              have HBL3 := Lib.hid (HBL2.out.next hk)
              have HZ3 := Lib.hid (HZ2.out.trans (hk.mono HZ2.out.size))
              have HA1 := Lib.hid (HA1.out.next hk)
              have HBS1 := Lib.hid ((Blk.new w2 31 [.int .i64 4, .int .i64 (oh), .bool false, .bool false, .int .u32 (4294967294)]).next hb3)
              obtain ⟨S1, hS1⟩ : ∃ A, w2.heap.size = A := ⟨_, rfl⟩
              rw [hS1] at HBS1 ⊢
              have HA2 := Lib.hid ha2
              have HC2 := Lib.hid hc2
              clear hk hb3 hS1 ha2 hc2 l0 l1 l2 l3 l4 l5
              have l0 : (w3.alloc (.cells #[.int .i64 5, .int .i64 (oh), .bool false, .bool false, .int .u32 (4294967294)] 31)).cell? ⟨X, 0, none⟩ = some (.int .i64 oa) := (HBL3.out.alloc _).cell 0 (by simp)
              have l1 : (w3.alloc (.cells #[.int .i64 5, .int .i64 (oh), .bool false, .bool false, .int .u32 (4294967294)] 31)).cell? ⟨X, 1, none⟩ = some (.int .i64 oh) := (HBL3.out.alloc _).cell 1 (by simp)
              have l2 : (w3.alloc (.cells #[.int .i64 5, .int .i64 (oh), .bool false, .bool false, .int .u32 (4294967294)] 31)).cell? ⟨X, 2, none⟩ = some (.int .u32 4294967295) := (HBL3.out.alloc _).cell 2 (by simp)
              have l3 : (w3.alloc (.cells #[.int .i64 5, .int .i64 (oh), .bool false, .bool false, .int .u32 (4294967294)] 31)).cell? ⟨X, 3, none⟩ = some (.bool of) := (HBL3.out.alloc _).cell 3 (by simp)
              have l4 : (w3.alloc (.cells #[.int .i64 5, .int .i64 (oh), .bool false, .bool false, .int .u32 (4294967294)] 31)).cell? ⟨X, 4, none⟩ = some (.int .i64 op) := (HBL3.out.alloc _).cell 4 (by simp)
              have l5 : (w3.alloc (.cells #[.int .i64 5, .int .i64 (oh), .bool false, .bool false, .int .u32 (4294967294)] 31)).cell? ⟨X, 5, none⟩ = some (.int .i64 r) := (HBL3.out.alloc _).cell 5 (by simp)
              go_wp2_with fail
              refine (HE3.out _).mono ?_
              rintro e w4 ⟨d3, g3, cap3, rfl, hc3, ha3, hb4⟩
              have hk := kB hb4
              have HBL4 := Lib.hid (HBL3.out.next hk)
              have HZ4 := Lib.hid (HZ3.out.trans (hk.mono HZ3.out.size))
              have HA1 := Lib.hid (HA1.out.next hk)
              have HA2 := Lib.hid (HA2.out.next hk)
              have HBS1 := Lib.hid (HBS1.out.next hk)
              have HBS2 := Lib.hid ((Blk.new w3 31 [.int .i64 5, .int .i64 (oh), .bool false, .bool false, .int .u32 (4294967294)]).next hb4)
              obtain ⟨S2, hS2⟩ : ∃ A, w3.heap.size = A := ⟨_, rfl⟩
              rw [hS2] at HBS2 ⊢
              have HA3 := Lib.hid ha3
              have HC3 := Lib.hid hc3
              clear hk hb4 hS2 ha3 hc3 l0 l1 l2 l3 l4 l5
              have l1 : (w4.alloc (.cells #[.int .i64 2, .int .i64 0, .bool false, .bool false, .int .u32 0] 31)).cell? ⟨X, 1, none⟩ = some (.int .i64 oh) := (HBL4.out.alloc _).cell 1 (by simp)
              have hlt := HLT.out
              go_wp2_with fail
              clear hlt
              clear l1
              refine (lives_any _).mono ?_
              rintro e w5 ⟨rfl, hb5⟩
              have hk := kB hb5
              have HZ5 := Lib.hid (HZ4.out.trans (hk.mono HZ4.out.size))
              have HA1 := Lib.hid (HA1.out.next hk)
              have HA2 := Lib.hid (HA2.out.next hk)
              have HA3 := Lib.hid (HA3.out.next hk)
              have HBS1 := Lib.hid (HBS1.out.next hk)
              have HBS2 := Lib.hid (HBS2.out.next hk)
              have HBS3 := Lib.hid ((Blk.new w4 31 [.int .i64 2, .int .i64 0, .bool false, .bool false, .int .u32 0]).next hb5)
              obtain ⟨S3, hS3⟩ : ∃ A, w4.heap.size = A := ⟨_, rfl⟩
              rw [hS3] at HBS3 ⊢
              clear hk hb5 hS3
              have b1 : w5.cell? ⟨S1, 1, none⟩ = some (.int .i64 (oh)) := HBS1.out.cell 1 (by simp)
              have b2 : w5.cell? ⟨S2, 0, none⟩ = some (.int .i64 5) := HBS2.out.cell 0 (by simp)
              have b3 : w5.cell? ⟨S3, 0, none⟩ = some (.int .i64 2) := HBS3.out.cell 0 (by simp)
              have a1 : w5.cell? ⟨g1, 6, none⟩ = some (.int .i64 (wrap64 (oh.tdiv 3))) := (HA1.out.2 6 (by omega)).trans rfl
              have a2 : w5.cell? ⟨g1, 11, none⟩ = some (.int .i64 (oh)) := (HA1.out.2 11 (by omega)).trans rfl
              have a3 : w5.cell? ⟨g2, 1, none⟩ = some (.int .i64 (oh)) := (HA2.out.2 1 (by omega)).trans rfl
              have a4 : w5.cell? ⟨g3, 2, none⟩ = some (.int .i64 4) := (HA3.out.2 2 (by omega)).trans rfl
              have a5 : w5.cell? ⟨g3, 3, none⟩ = some (.int .i64 0) := (HA3.out.2 3 (by omega)).trans rfl
              have a6 : w5.cell? ⟨g3, 25, none⟩ = some (.int .i64 10) := (HA3.out.2 25 (by omega)).trans rfl
              go_wp2_with fail
              go_ret
              exact ⟨rfl, HZ5.out⟩
            · have ho1 : oi + 1 ≤ 4294967295 := by omega
              have ho2 : (oi + 1 == 0) = false := by have : oi + 1 ≠ 0 := by omega
                                                     simpa using this
              clear hid
              have HE1 := Lib.hid (fun (U : World) => step_lit U ⟨oa, oh, oi, of, op⟩ r (Ph.at 3) 5 ⟨oa, hold, oi + 1, false, 0⟩ 0 0 ⟨4, oh, false, false, oi + 1⟩ (fun _ => [ac 3 0, ac 7 (wrap64 ((oh : Int).tdiv 3)), ac 6 (oh)]) 3 (fun d => holds1 ⟨oa, oh, oi, of, op⟩ r (hold) (oi + 1) (oh) d HOK.out (by dsimp only; omega) HM.out) (fun d => rfl) (by omega))
              have HE2 := Lib.hid (fun (U : World) => step_lit U ⟨oa, oh, oi, of, op⟩ r ⟨4, oh, false, false, oi + 1⟩ 6 Op.zero 0 0 ⟨5, oh, false, false, oi + 1⟩ (fun _ => [ac 6 (oh), ac 9 0]) 2 (fun d => holds2 ⟨oa, oh, oi, of, op⟩ r (oi + 1) (oh) d HOK.out) (fun d => rfl) (by omega))
              have HE3 := Lib.hid (fun (U : World) => step_lit U ⟨oa, oh, oi, of, op⟩ r ⟨5, oh, false, false, oi + 1⟩ 10 Op.zero 0 0 (Ph.at 2) (fun d => [noteAc 4 0 d, ac 5 0, ac 6 0, ac 7 0, ac 8 r, ac 10 0]) 6 (fun d => holds3 ⟨oa, oh, oi, of, op⟩ r (oi + 1) (oh) d HOK.out) (fun d => rfl) (by omega))
              unfold StepL loV Ph.v evA at HE1 HE2 HE3
              unfold Ph.at at HE1 HE3
              dsimp only at HE1 HE2 HE3
              clear hoh
              have HBL := Lib.hid (Blk.new w 26 [.int .i64 oa, .int .i64 oh, .int .u32 oi, .bool of, .int .i64 op, .int .i64 r])
              have HA := Lib.hid (newB w (.cells #[.int .i64 oa, .int .i64 oh, .int .u32 oi, .bool of, .int .i64 op, .int .i64 r] 26))
              go_enter Try.func4, Try.ntmps4
              go_wp2_with fail
              refine (HCK.out _).mono ?_
              rintro e w1 ⟨rfl, hb1⟩
              have HBL1 := Lib.hid (HBL.out.next hb1)
              have HZ1 := Lib.hid (HA.out.trans (hb1.mono HA.out.size))
              clear hb1
              obtain ⟨X, hX⟩ : ∃ X, w.heap.size = X := ⟨_, rfl⟩
              have HX := Lib.hid hX
              rw [hX] at HBL1
              rw [hX]
              clear hX
              have l0 : w1.cell? ⟨X, 0, none⟩ = some (.int .i64 oa) := HBL1.out.cell 0 (by simp)
              have l1 : w1.cell? ⟨X, 1, none⟩ = some (.int .i64 oh) := HBL1.out.cell 1 (by simp)
              have l2 : w1.cell? ⟨X, 2, none⟩ = some (.int .u32 oi) := HBL1.out.cell 2 (by simp)
              have l3 : w1.cell? ⟨X, 3, none⟩ = some (.bool of) := HBL1.out.cell 3 (by simp)
              have l4 : w1.cell? ⟨X, 4, none⟩ = some (.int .i64 op) := HBL1.out.cell 4 (by simp)
              have l5 : w1.cell? ⟨X, 5, none⟩ = some (.int .i64 r) := HBL1.out.cell 5 (by simp)
              have HRR := Lib.hid (newB w1 (.cells #[.int .i64 oa, .int .i64 (hold), .int .u32 (oi + 1), .bool false, .int .i64 0] 24))
              have m0 : (w1.alloc (.cells #[.int .i64 oa, .int .i64 (hold), .int .u32 (oi + 1), .bool false, .int .i64 0] 24)).cell? ⟨X, 0, none⟩ = some (.int .i64 oa) := (HBL1.out.next HRR.out).cell 0 (by simp)
              have m1 : (w1.alloc (.cells #[.int .i64 oa, .int .i64 (hold), .int .u32 (oi + 1), .bool false, .int .i64 0] 24)).cell? ⟨X, 1, none⟩ = some (.int .i64 oh) := (HBL1.out.next HRR.out).cell 1 (by simp)
              have m2 : (w1.alloc (.cells #[.int .i64 oa, .int .i64 (hold), .int .u32 (oi + 1), .bool false, .int .i64 0] 24)).cell? ⟨X, 2, none⟩ = some (.int .u32 oi) := (HBL1.out.next HRR.out).cell 2 (by simp)
              have m3 : (w1.alloc (.cells #[.int .i64 oa, .int .i64 (hold), .int .u32 (oi + 1), .bool false, .int .i64 0] 24)).cell? ⟨X, 3, none⟩ = some (.bool of) := (HBL1.out.next HRR.out).cell 3 (by simp)
              have m4 : (w1.alloc (.cells #[.int .i64 oa, .int .i64 (hold), .int .u32 (oi + 1), .bool false, .int .i64 0] 24)).cell? ⟨X, 4, none⟩ = some (.int .i64 op) := (HBL1.out.next HRR.out).cell 4 (by simp)
              have m5 : (w1.alloc (.cells #[.int .i64 oa, .int .i64 (hold), .int .u32 (oi + 1), .bool false, .int .i64 0] 24)).cell? ⟨X, 5, none⟩ = some (.int .i64 r) := (HBL1.out.next HRR.out).cell 5 (by simp)
              go_wp2_with fail
              refine (HE1.out _).mono ?_
              rintro e w2 ⟨d1, g1, cap1, rfl, hc1, ha1, hb2⟩
              have hk := HRR.out.trans (hb2.mono HRR.out.size)
              have HBL2 := Lib.hid (HBL1.out.next hk)
              have HZ2 := Lib.hid (HZ1.out.trans (hk.mono HZ1.out.size))
              have HA1 := Lib.hid ha1
              have HC1 := Lib.hid hc1
              clear hk hb2 ha1 hc1 l0 l1 l2 l3 l4 l5 m0 m1 m2 m3 m4 m5 ho1 ho2 hi0 hi1 h0' h3' h6'
              have l0 : (w2.alloc (.cells #[.int .i64 4, .int .i64 (oh), .bool false, .bool false, .int .u32 (oi + 1)] 31)).cell? ⟨X, 0, none⟩ = some (.int .i64 oa) := (HBL2.out.alloc _).cell 0 (by simp)
              have l1 : (w2.alloc (.cells #[.int .i64 4, .int .i64 (oh), .bool false, .bool false, .int .u32 (oi + 1)] 31)).cell? ⟨X, 1, none⟩ = some (.int .i64 oh) := (HBL2.out.alloc _).cell 1 (by simp)
              have l2 : (w2.alloc (.cells #[.int .i64 4, .int .i64 (oh), .bool false, .bool false, .int .u32 (oi + 1)] 31)).cell? ⟨X, 2, none⟩ = some (.int .u32 oi) := (HBL2.out.alloc _).cell 2 (by simp)
              have l3 : (w2.alloc (.cells #[.int .i64 4, .int .i64 (oh), .bool false, .bool false, .int .u32 (oi + 1)] 31)).cell? ⟨X, 3, none⟩ = some (.bool of) := (HBL2.out.alloc _).cell 3 (by simp)
              have l4 : (w2.alloc (.cells #[.int .i64 4, .int .i64 (oh), .bool false, .bool false, .int .u32 (oi + 1)] 31)).cell? ⟨X, 4, none⟩ = some (.int .i64 op) := (HBL2.out.alloc _).cell 4 (by simp)
              have l5 : (w2.alloc (.cells #[.int .i64 4, .int .i64 (oh), .bool false, .bool false, .int .u32 (oi + 1)] 31)).cell? ⟨X, 5, none⟩ = some (.int .i64 r) := (HBL2.out.alloc _).cell 5 (by simp)
              go_wp2_with fail
              refine (HE2.out _).mono ?_
              rintro e w3 ⟨d2, g2, cap2, rfl, hc2, ha2, hb3⟩
              have hk := kB hb3
              have HBL3 := Lib.hid (HBL2.out.next hk)
              have HZ3 := Lib.hid (HZ2.out.trans (hk.mono HZ2.out.size))
              have HA1 := Lib.hid (HA1.out.next hk)
              have HBS1 := Lib.hid ((Blk.new w2 31 [.int .i64 4, .int .i64 (oh), .bool false, .bool false, .int .u32 (oi + 1)]).next hb3)
              obtain ⟨S1, hS1⟩ : ∃ A, w2.heap.size = A := ⟨_, rfl⟩
              rw [hS1] at HBS1 ⊢
              have HA2 := Lib.hid ha2
              have HC2 := Lib.hid hc2
              clear hk hb3 hS1 ha2 hc2 l0 l1 l2 l3 l4 l5
              have l0 : (w3.alloc (.cells #[.int .i64 5, .int .i64 (oh), .bool false, .bool false, .int .u32 (oi + 1)] 31)).cell? ⟨X, 0, none⟩ = some (.int .i64 oa) := (HBL3.out.alloc _).cell 0 (by simp)
              have l1 : (w3.alloc (.cells #[.int .i64 5, .int .i64 (oh), .bool false, .bool false, .int .u32 (oi + 1)] 31)).cell? ⟨X, 1, none⟩ = some (.int .i64 oh) := (HBL3.out.alloc _).cell 1 (by simp)
              have l2 : (w3.alloc (.cells #[.int .i64 5, .int .i64 (oh), .bool false, .bool false, .int .u32 (oi + 1)] 31)).cell? ⟨X, 2, none⟩ = some (.int .u32 oi) := (HBL3.out.alloc _).cell 2 (by simp)
              have l3 : (w3.alloc (.cells #[.int .i64 5, .int .i64 (oh), .bool false, .bool false, .int .u32 (oi + 1)] 31)).cell? ⟨X, 3, none⟩ = some (.bool of) := (HBL3.out.alloc _).cell 3 (by simp)
              have l4 : (w3.alloc (.cells #[.int .i64 5, .int .i64 (oh), .bool false, .bool false, .int .u32 (oi + 1)] 31)).cell? ⟨X, 4, none⟩ = some (.int .i64 op) := (HBL3.out.alloc _).cell 4 (by simp)
              have l5 : (w3.alloc (.cells #[.int .i64 5, .int .i64 (oh), .bool false, .bool false, .int .u32 (oi + 1)] 31)).cell? ⟨X, 5, none⟩ = some (.int .i64 r) := (HBL3.out.alloc _).cell 5 (by simp)
              go_wp2_with fail
              refine (HE3.out _).mono ?_
              rintro e w4 ⟨d3, g3, cap3, rfl, hc3, ha3, hb4⟩
              have hk := kB hb4
              have HBL4 := Lib.hid (HBL3.out.next hk)
              have HZ4 := Lib.hid (HZ3.out.trans (hk.mono HZ3.out.size))
              have HA1 := Lib.hid (HA1.out.next hk)
              have HA2 := Lib.hid (HA2.out.next hk)
              have HBS1 := Lib.hid (HBS1.out.next hk)
              have HBS2 := Lib.hid ((Blk.new w3 31 [.int .i64 5, .int .i64 (oh), .bool false, .bool false, .int .u32 (oi + 1)]).next hb4)
              obtain ⟨S2, hS2⟩ : ∃ A, w3.heap.size = A := ⟨_, rfl⟩
              rw [hS2] at HBS2 ⊢
              have HA3 := Lib.hid ha3
              have HC3 := Lib.hid hc3
              clear hk hb4 hS2 ha3 hc3 l0 l1 l2 l3 l4 l5
              have l1 : (w4.alloc (.cells #[.int .i64 2, .int .i64 0, .bool false, .bool false, .int .u32 0] 31)).cell? ⟨X, 1, none⟩ = some (.int .i64 oh) := (HBL4.out.alloc _).cell 1 (by simp)
              have hlt := HLT.out
              go_wp2_with fail
              clear hlt
              clear l1
              refine (lives_any _).mono ?_
              rintro e w5 ⟨rfl, hb5⟩
              have hk := kB hb5
              have HZ5 := Lib.hid (HZ4.out.trans (hk.mono HZ4.out.size))
              have HA1 := Lib.hid (HA1.out.next hk)
              have HA2 := Lib.hid (HA2.out.next hk)
              have HA3 := Lib.hid (HA3.out.next hk)
              have HBS1 := Lib.hid (HBS1.out.next hk)
              have HBS2 := Lib.hid (HBS2.out.next hk)
              have HBS3 := Lib.hid ((Blk.new w4 31 [.int .i64 2, .int .i64 0, .bool false, .bool false, .int .u32 0]).next hb5)
              obtain ⟨S3, hS3⟩ : ∃ A, w4.heap.size = A := ⟨_, rfl⟩
              rw [hS3] at HBS3 ⊢
              clear hk hb5 hS3
              have b1 : w5.cell? ⟨S1, 1, none⟩ = some (.int .i64 (oh)) := HBS1.out.cell 1 (by simp)
              have b2 : w5.cell? ⟨S2, 0, none⟩ = some (.int .i64 5) := HBS2.out.cell 0 (by simp)
              have b3 : w5.cell? ⟨S3, 0, none⟩ = some (.int .i64 2) := HBS3.out.cell 0 (by simp)
              have a1 : w5.cell? ⟨g1, 6, none⟩ = some (.int .i64 (wrap64 (oh.tdiv 3))) := (HA1.out.2 6 (by omega)).trans rfl
              have a2 : w5.cell? ⟨g1, 11, none⟩ = some (.int .i64 (oh)) := (HA1.out.2 11 (by omega)).trans rfl
              have a3 : w5.cell? ⟨g2, 1, none⟩ = some (.int .i64 (oh)) := (HA2.out.2 1 (by omega)).trans rfl
              have a4 : w5.cell? ⟨g3, 2, none⟩ = some (.int .i64 4) := (HA3.out.2 2 (by omega)).trans rfl
              have a5 : w5.cell? ⟨g3, 3, none⟩ = some (.int .i64 0) := (HA3.out.2 3 (by omega)).trans rfl
              have a6 : w5.cell? ⟨g3, 25, none⟩ = some (.int .i64 10) := (HA3.out.2 25 (by omega)).trans rfl
              go_wp2_with fail
              go_ret
              exact ⟨rfl, HZ5.out⟩
          · have hM : min hold oh = hold := by omega
            have HM := Lib.hid hM
            have HLT := Lib.hid (show hold ≤ oh by omega)
            clear hM hlt
            by_cases hid : oi = 4294967295
            · obtain rfl := hid
              have HE1 := Lib.hid (fun (U : World) => step_lit U ⟨oa, oh, 4294967295, of, op⟩ r (Ph.at 3) 5 ⟨oa, hold, 4294967294, false, 0⟩ 0 0 ⟨4, hold, false, false, 4294967294⟩ (fun _ => [ac 3 0, ac 7 (wrap64 ((hold : Int).tdiv 3)), ac 6 (hold)]) 3 (fun d => holds1 ⟨oa, oh, 4294967295, of, op⟩ r (hold) (4294967294) (hold) d HOK.out (by dsimp only; omega) HM.out) (fun d => rfl) (by omega))
              have HE2 := Lib.hid (fun (U : World) => step_lit U ⟨oa, oh, 4294967295, of, op⟩ r ⟨4, hold, false, false, 4294967294⟩ 6 Op.zero 0 0 ⟨5, hold, false, false, 4294967294⟩ (fun _ => [ac 6 (hold), ac 9 0]) 2 (fun d => holds2 ⟨oa, oh, 4294967295, of, op⟩ r (4294967294) (hold) d HOK.out) (fun d => rfl) (by omega))
              have HE3 := Lib.hid (fun (U : World) => step_lit U ⟨oa, oh, 4294967295, of, op⟩ r ⟨5, hold, false, false, 4294967294⟩ 10 Op.zero 0 0 (Ph.at 2) (fun d => [noteAc 4 0 d, ac 5 0, ac 6 0, ac 7 0, ac 8 r, ac 10 0]) 6 (fun d => holds3 ⟨oa, oh, 4294967295, of, op⟩ r (4294967294) (hold) d HOK.out) (fun d => rfl) (by omega))
              unfold StepL loV Ph.v evA at HE1 HE2 HE3
              unfold Ph.at at HE1 HE3
              dsimp only at HE1 HE2 HE3
              clear hoh
              have HBL := Lib.hid (Blk.new w 26 [.int .i64 oa, .int .i64 oh, .int .u32 4294967295, .bool of, .int .i64 op, .int .i64 r])
              have HA := Lib.hid (newB w (.cells #[.int .i64 oa, .int .i64 oh, .int .u32 4294967295, .bool of, .int .i64 op, .int .i64 r] 26))
              go_enter Try.func4, Try.ntmps4
              go_wp2_with fail
              refine (HCK.out _).mono ?_
              rintro e w1 ⟨rfl, hb1⟩
              have HBL1 := Lib.hid (HBL.out.next hb1)
              have HZ1 := Lib.hid (HA.out.trans (hb1.mono HA.out.size))
              clear hb1
              obtain ⟨X, hX⟩ : ∃ X, w.heap.size = X := ⟨_, rfl⟩
              have HX := Lib.hid hX
              rw [hX] at HBL1
              rw [hX]
              clear hX
              have l0 : w1.cell? ⟨X, 0, none⟩ = some (.int .i64 oa) := HBL1.out.cell 0 (by simp)
              have l1 : w1.cell? ⟨X, 1, none⟩ = some (.int .i64 oh) := HBL1.out.cell 1 (by simp)
              have l2 : w1.cell? ⟨X, 2, none⟩ = some (.int .u32 4294967295) := HBL1.out.cell 2 (by simp)
              have l3 : w1.cell? ⟨X, 3, none⟩ = some (.bool of) := HBL1.out.cell 3 (by simp)
              have l4 : w1.cell? ⟨X, 4, none⟩ = some (.int .i64 op) := HBL1.out.cell 4 (by simp)
              have l5 : w1.cell? ⟨X, 5, none⟩ = some (.int .i64 r) := HBL1.out.cell 5 (by simp)
              have HRR := Lib.hid (newB w1 (.cells #[.int .i64 oa, .int .i64 (hold), .int .u32 4294967294, .bool false, .int .i64 0] 24))
              have m0 : (w1.alloc (.cells #[.int .i64 oa, .int .i64 (hold), .int .u32 4294967294, .bool false, .int .i64 0] 24)).cell? ⟨X, 0, none⟩ = some (.int .i64 oa) := (HBL1.out.next HRR.out).cell 0 (by simp)
              have m1 : (w1.alloc (.cells #[.int .i64 oa, .int .i64 (hold), .int .u32 4294967294, .bool false, .int .i64 0] 24)).cell? ⟨X, 1, none⟩ = some (.int .i64 oh) := (HBL1.out.next HRR.out).cell 1 (by simp)
              have m2 : (w1.alloc (.cells #[.int .i64 oa, .int .i64 (hold), .int .u32 4294967294, .bool false, .int .i64 0] 24)).cell? ⟨X, 2, none⟩ = some (.int .u32 4294967295) := (HBL1.out.next HRR.out).cell 2 (by simp)
              have m3 : (w1.alloc (.cells #[.int .i64 oa, .int .i64 (hold), .int .u32 4294967294, .bool false, .int .i64 0] 24)).cell? ⟨X, 3, none⟩ = some (.bool of) := (HBL1.out.next HRR.out).cell 3 (by simp)
              have m4 : (w1.alloc (.cells #[.int .i64 oa, .int .i64 (hold), .int .u32 4294967294, .bool false, .int .i64 0] 24)).cell? ⟨X, 4, none⟩ = some (.int .i64 op) := (HBL1.out.next HRR.out).cell 4 (by simp)
              have m5 : (w1.alloc (.cells #[.int .i64 oa, .int .i64 (hold), .int .u32 4294967294, .bool false, .int .i64 0] 24)).cell? ⟨X, 5, none⟩ = some (.int .i64 r) := (HBL1.out.next HRR.out).cell 5 (by simp)
              have n2 : (w1.alloc (.cells #[.int .i64 oa, .int .i64 (hold), .int .u32 0, .bool false, .int .i64 0] 24)).cell? ⟨X, 2, none⟩ = some (.int .u32 4294967295) := (HBL1.out.alloc _).cell 2 (by simp)
              go_wp2_with fail
              refine (HE1.out _).mono ?_
              rintro e w2 ⟨d1, g1, cap1, rfl, hc1, ha1, hb2⟩
              have hk := HRR.out.trans (hb2.mono HRR.out.size)
              have HBL2 := Lib.hid (HBL1.out.next hk)
              have HZ2 := Lib.hid (HZ1.out.trans (hk.mono HZ1.out.size))
              have HA1 := Lib.hid ha1
              have HC1 := Lib.hid hc1
              clear hk hb2 ha1 hc1 l0 l1 l2 l3 l4 l5 m0 m1 m2 m3 m4 m5 n2 hi0 hi1 h0' h3' h6'
              have l0 : (w2.alloc (.cells #[.int .i64 4, .int .i64 (hold), .bool false, .bool false, .int .u32 (4294967294)] 31)).cell? ⟨X, 0, none⟩ = some (.int .i64 oa) := (HBL2.out.alloc _).cell 0 (by simp)
              have l1 : (w2.alloc (.cells #[.int .i64 4, .int .i64 (hold), .bool false, .bool false, .int .u32 (4294967294)] 31)).cell? ⟨X, 1, none⟩ = some (.int .i64 oh) := (HBL2.out.alloc _).cell 1 (by simp)
              have l2 : (w2.alloc (.cells #[.int .i64 4, .int .i64 (hold), .bool false, .bool false, .int .u32 (4294967294)] 31)).cell? ⟨X, 2, none⟩ = some (.int .u32 4294967295) := (HBL2.out.alloc _).cell 2 (by simp)
              have l3 : (w2.alloc (.cells #[.int .i64 4, .int .i64 (hold), .bool false, .bool false, .int .u32 (4294967294)] 31)).cell? ⟨X, 3, none⟩ = some (.bool of) := (HBL2.out.alloc _).cell 3 (by simp)
              have l4 : (w2.alloc (.cells #[.int .i64 4, .int .i64 (hold), .bool false, .bool false, .int .u32 (4294967294)] 31)).cell? ⟨X, 4, none⟩ = some (.int .i64 op) := (HBL2.out.alloc _).cell 4 (by simp)
              have l5 : (w2.alloc (.cells #[.int .i64 4, .int .i64 (hold), .bool false, .bool false, .int .u32 (4294967294)] 31)).cell? ⟨X, 5, none⟩ = some (.int .i64 r) := (HBL2.out.alloc _).cell 5 (by simp)
              go_wp2_with fail
              refine (HE2.out _).mono ?_
              rintro e w3 ⟨d2, g2, cap2, rfl, hc2, ha2, hb3⟩
              have hk := kB hb3
              have HBL3 := Lib.hid (HBL2.out.next hk)
              have HZ3 := Lib.hid (HZ2.out.trans (hk.mono HZ2.out.size))
              have HA1 := Lib.hid (HA1.out.next hk)
              have HBS1 := Lib.hid ((Blk.new w2 31 [.int .i64 4, .int .i64 (hold), .bool false, .bool false, .int .u32 (4294967294)]).next hb3)
              obtain ⟨S1, hS1⟩ : ∃ A, w2.heap.size = A := ⟨_, rfl⟩
              rw [hS1] at HBS1 ⊢
              have HA2 := Lib.hid ha2
              have HC2 := Lib.hid hc2
              clear hk hb3 hS1 ha2 hc2 l0 l1 l2 l3 l4 l5
              have l0 : (w3.alloc (.cells #[.int .i64 5, .int .i64 (hold), .bool false, .bool false, .int .u32 (4294967294)] 31)).cell? ⟨X, 0, none⟩ = some (.int .i64 oa) := (HBL3.out.alloc _).cell 0 (by simp)
              have l1 : (w3.alloc (.cells #[.int .i64 5, .int .i64 (hold), .bool false, .bool false, .int .u32 (4294967294)] 31)).cell? ⟨X, 1, none⟩ = some (.int .i64 oh) := (HBL3.out.alloc _).cell 1 (by simp)
              have l2 : (w3.alloc (.cells #[.int .i64 5, .int .i64 (hold), .bool false, .bool false, .int .u32 (4294967294)] 31)).cell? ⟨X, 2, none⟩ = some (.int .u32 4294967295) := (HBL3.out.alloc _).cell 2 (by simp)
              have l3 : (w3.alloc (.cells #[.int .i64 5, .int .i64 (hold), .bool false, .bool false, .int .u32 (4294967294)] 31)).cell? ⟨X, 3, none⟩ = some (.bool of) := (HBL3.out.alloc _).cell 3 (by simp)
              have l4 : (w3.alloc (.cells #[.int .i64 5, .int .i64 (hold), .bool false, .bool false, .int .u32 (4294967294)] 31)).cell? ⟨X, 4, none⟩ = some (.int .i64 op) := (HBL3.out.alloc _).cell 4 (by simp)
              have l5 : (w3.alloc (.cells #[.int .i64 5, .int .i64 (hold), .bool false, .bool false, .int .u32 (4294967294)] 31)).cell? ⟨X, 5, none⟩ = some (.int .i64 r) := (HBL3.out.alloc _).cell 5 (by simp)
              go_wp2_with fail
              refine (HE3.out _).mono ?_
              rintro e w4 ⟨d3, g3, cap3, rfl, hc3, ha3, hb4⟩
              have hk := kB hb4
              have HBL4 := Lib.hid (HBL3.out.next hk)
              have HZ4 := Lib.hid (HZ3.out.trans (hk.mono HZ3.out.size))
              have HA1 := Lib.hid (HA1.out.next hk)
              have HA2 := Lib.hid (HA2.out.next hk)
              have HBS1 := Lib.hid (HBS1.out.next hk)
              have HBS2 := Lib.hid ((Blk.new w3 31 [.int .i64 5, .int .i64 (hold), .bool false, .bool false, .int .u32 (4294967294)]).next hb4)
              obtain ⟨S2, hS2⟩ : ∃ A, w3.heap.size = A := ⟨_, rfl⟩
              rw [hS2] at HBS2 ⊢
              have HA3 := Lib.hid ha3
              have HC3 := Lib.hid hc3
              clear hk hb4 hS2 ha3 hc3 l0 l1 l2 l3 l4 l5
              have l1 : (w4.alloc (.cells #[.int .i64 2, .int .i64 0, .bool false, .bool false, .int .u32 0] 31)).cell? ⟨X, 1, none⟩ = some (.int .i64 oh) := (HBL4.out.alloc _).cell 1 (by simp)
              have hlt := HLT.out
              go_wp2_with fail
              clear hlt
              clear l1
              refine (lives_any _).mono ?_
              rintro e w5 ⟨rfl, hb5⟩
              have hk := kB hb5
              have HZ5 := Lib.hid (HZ4.out.trans (hk.mono HZ4.out.size))
              have HA1 := Lib.hid (HA1.out.next hk)
              have HA2 := Lib.hid (HA2.out.next hk)
              have HA3 := Lib.hid (HA3.out.next hk)
              have HBS1 := Lib.hid (HBS1.out.next hk)
              have HBS2 := Lib.hid (HBS2.out.next hk)
              have HBS3 := Lib.hid ((Blk.new w4 31 [.int .i64 2, .int .i64 0, .bool false, .bool false, .int .u32 0]).next hb5)
              obtain ⟨S3, hS3⟩ : ∃ A, w4.heap.size = A := ⟨_, rfl⟩
              rw [hS3] at HBS3 ⊢
              clear hk hb5 hS3
              have b1 : w5.cell? ⟨S1, 1, none⟩ = some (.int .i64 (hold)) := HBS1.out.cell 1 (by simp)
              have b2 : w5.cell? ⟨S2, 0, none⟩ = some (.int .i64 5) := HBS2.out.cell 0 (by simp)
              have b3 : w5.cell? ⟨S3, 0, none⟩ = some (.int .i64 2) := HBS3.out.cell 0 (by simp)
              have a1 : w5.cell? ⟨g1, 6, none⟩ = some (.int .i64 (wrap64 (hold.tdiv 3))) := (HA1.out.2 6 (by omega)).trans rfl
              have a2 : w5.cell? ⟨g1, 11, none⟩ = some (.int .i64 (hold)) := (HA1.out.2 11 (by omega)).trans rfl
              have a3 : w5.cell? ⟨g2, 1, none⟩ = some (.int .i64 (hold)) := (HA2.out.2 1 (by omega)).trans rfl
              have a4 : w5.cell? ⟨g3, 2, none⟩ = some (.int .i64 4) := (HA3.out.2 2 (by omega)).trans rfl
              have a5 : w5.cell? ⟨g3, 3, none⟩ = some (.int .i64 0) := (HA3.out.2 3 (by omega)).trans rfl
              have a6 : w5.cell? ⟨g3, 25, none⟩ = some (.int .i64 10) := (HA3.out.2 25 (by omega)).trans rfl
              go_wp2_with fail
              go_ret
              exact ⟨rfl, HZ5.out⟩
            · have ho1 : oi + 1 ≤ 4294967295 := by omega
              have ho2 : (oi + 1 == 0) = false := by have : oi + 1 ≠ 0 := by omega
                                                     simpa using this
              clear hid
              have HE1 := Lib.hid (fun (U : World) => step_lit U ⟨oa, oh, oi, of, op⟩ r (Ph.at 3) 5 ⟨oa, hold, oi + 1, false, 0⟩ 0 0 ⟨4, hold, false, false, oi + 1⟩ (fun _ => [ac 3 0, ac 7 (wrap64 ((hold : Int).tdiv 3)), ac 6 (hold)]) 3 (fun d => holds1 ⟨oa, oh, oi, of, op⟩ r (hold) (oi + 1) (hold) d HOK.out (by dsimp only; omega) HM.out) (fun d => rfl) (by omega))
              have HE2 := Lib.hid (fun (U : World) => step_lit U ⟨oa, oh, oi, of, op⟩ r ⟨4, hold, false, false, oi + 1⟩ 6 Op.zero 0 0 ⟨5, hold, false, false, oi + 1⟩ (fun _ => [ac 6 (hold), ac 9 0]) 2 (fun d => holds2 ⟨oa, oh, oi, of, op⟩ r (oi + 1) (hold) d HOK.out) (fun d => rfl) (by omega))
              have HE3 := Lib.hid (fun (U : World) => step_lit U ⟨oa, oh, oi, of, op⟩ r ⟨5, hold, false, false, oi + 1⟩ 10 Op.zero 0 0 (Ph.at 2) (fun d => [noteAc 4 0 d, ac 5 0, ac 6 0, ac 7 0, ac 8 r, ac 10 0]) 6 (fun d => holds3 ⟨oa, oh, oi, of, op⟩ r (oi + 1) (hold) d HOK.out) (fun d => rfl) (by omega))
              unfold StepL loV Ph.v evA at HE1 HE2 HE3
              unfold Ph.at at HE1 HE3
              dsimp only at HE1 HE2 HE3
              clear hoh
              have HBL := Lib.hid (Blk.new w 26 [.int .i64 oa, .int .i64 oh, .int .u32 oi, .bool of, .int .i64 op, .int .i64 r])
              have HA := Lib.hid (newB w (.cells #[.int .i64 oa, .int .i64 oh, .int .u32 oi, .bool of, .int .i64 op, .int .i64 r] 26))
              go_enter Try.func4, Try.ntmps4
              go_wp2_with fail
              refine (HCK.out _).mono ?_
              rintro e w1 ⟨rfl, hb1⟩
              have HBL1 := Lib.hid (HBL.out.next hb1)
              have HZ1 := Lib.hid (HA.out.trans (hb1.mono HA.out.size))
              clear hb1
              obtain ⟨X, hX⟩ : ∃ X, w.heap.size = X := ⟨_, rfl⟩
              have HX := Lib.hid hX
              rw [hX] at HBL1
              rw [hX]
              clear hX
              have l0 : w1.cell? ⟨X, 0, none⟩ = some (.int .i64 oa) := HBL1.out.cell 0 (by simp)
              have l1 : w1.cell? ⟨X, 1, none⟩ = some (.int .i64 oh) := HBL1.out.cell 1 (by simp)
              have l2 : w1.cell? ⟨X, 2, none⟩ = some (.int .u32 oi) := HBL1.out.cell 2 (by simp)
              have l3 : w1.cell? ⟨X, 3, none⟩ = some (.bool of) := HBL1.out.cell 3 (by simp)
              have l4 : w1.cell? ⟨X, 4, none⟩ = some (.int .i64 op) := HBL1.out.cell 4 (by simp)
              have l5 : w1.cell? ⟨X, 5, none⟩ = some (.int .i64 r) := HBL1.out.cell 5 (by simp)
              have HRR := Lib.hid (newB w1 (.cells #[.int .i64 oa, .int .i64 (hold), .int .u32 (oi + 1), .bool false, .int .i64 0] 24))
              have m0 : (w1.alloc (.cells #[.int .i64 oa, .int .i64 (hold), .int .u32 (oi + 1), .bool false, .int .i64 0] 24)).cell? ⟨X, 0, none⟩ = some (.int .i64 oa) := (HBL1.out.next HRR.out).cell 0 (by simp)
              have m1 : (w1.alloc (.cells #[.int .i64 oa, .int .i64 (hold), .int .u32 (oi + 1), .bool false, .int .i64 0] 24)).cell? ⟨X, 1, none⟩ = some (.int .i64 oh) := (HBL1.out.next HRR.out).cell 1 (by simp)
              have m2 : (w1.alloc (.cells #[.int .i64 oa, .int .i64 (hold), .int .u32 (oi + 1), .bool false, .int .i64 0] 24)).cell? ⟨X, 2, none⟩ = some (.int .u32 oi) := (HBL1.out.next HRR.out).cell 2 (by simp)
              have m3 : (w1.alloc (.cells #[.int .i64 oa, .int .i64 (hold), .int .u32 (oi + 1), .bool false, .int .i64 0] 24)).cell? ⟨X, 3, none⟩ = some (.bool of) := (HBL1.out.next HRR.out).cell 3 (by simp)
              have m4 : (w1.alloc (.cells #[.int .i64 oa, .int .i64 (hold), .int .u32 (oi + 1), .bool false, .int .i64 0] 24)).cell? ⟨X, 4, none⟩ = some (.int .i64 op) := (HBL1.out.next HRR.out).cell 4 (by simp)
              have m5 : (w1.alloc (.cells #[.int .i64 oa, .int .i64 (hold), .int .u32 (oi + 1), .bool false, .int .i64 0] 24)).cell? ⟨X, 5, none⟩ = some (.int .i64 r) := (HBL1.out.next HRR.out).cell 5 (by simp)
              go_wp2_with fail
              refine (HE1.out _).mono ?_
              rintro e w2 ⟨d1, g1, cap1, rfl, hc1, ha1, hb2⟩
              have hk := HRR.out.trans (hb2.mono HRR.out.size)
              have HBL2 := Lib.hid (HBL1.out.next hk)
              have HZ2 := Lib.hid (HZ1.out.trans (hk.mono HZ1.out.size))
              have HA1 := Lib.hid ha1
              have HC1 := Lib.hid hc1
              clear hk hb2 ha1 hc1 l0 l1 l2 l3 l4 l5 m0 m1 m2 m3 m4 m5 ho1 ho2 hi0 hi1 h0' h3' h6'
              have l0 : (w2.alloc (.cells #[.int .i64 4, .int .i64 (hold), .bool false, .bool false, .int .u32 (oi + 1)] 31)).cell? ⟨X, 0, none⟩ = some (.int .i64 oa) := (HBL2.out.alloc _).cell 0 (by simp)
              have l1 : (w2.alloc (.cells #[.int .i64 4, .int .i64 (hold), .bool false, .bool false, .int .u32 (oi + 1)] 31)).cell? ⟨X, 1, none⟩ = some (.int .i64 oh) := (HBL2.out.alloc _).cell 1 (by simp)
              have l2 : (w2.alloc (.cells #[.int .i64 4, .int .i64 (hold), .bool false, .bool false, .int .u32 (oi + 1)] 31)).cell? ⟨X, 2, none⟩ = some (.int .u32 oi) := (HBL2.out.alloc _).cell 2 (by simp)
              have l3 : (w2.alloc (.cells #[.int .i64 4, .int .i64 (hold), .bool false, .bool false, .int .u32 (oi + 1)] 31)).cell? ⟨X, 3, none⟩ = some (.bool of) := (HBL2.out.alloc _).cell 3 (by simp)
              have l4 : (w2.alloc (.cells #[.int .i64 4, .int .i64 (hold), .bool false, .bool false, .int .u32 (oi + 1)] 31)).cell? ⟨X, 4, none⟩ = some (.int .i64 op) := (HBL2.out.alloc _).cell 4 (by simp)
              have l5 : (w2.alloc (.cells #[.int .i64 4, .int .i64 (hold), .bool false, .bool false, .int .u32 (oi + 1)] 31)).cell? ⟨X, 5, none⟩ = some (.int .i64 r) := (HBL2.out.alloc _).cell 5 (by simp)
              go_wp2_with fail
              refine (HE2.out _).mono ?_
              rintro e w3 ⟨d2, g2, cap2, rfl, hc2, ha2, hb3⟩
              have hk := kB hb3
              have HBL3 := Lib.hid (HBL2.out.next hk)
              have HZ3 := Lib.hid (HZ2.out.trans (hk.mono HZ2.out.size))
              have HA1 := Lib.hid (HA1.out.next hk)
              have HBS1 := Lib.hid ((Blk.new w2 31 [.int .i64 4, .int .i64 (hold), .bool false, .bool false, .int .u32 (oi + 1)]).next hb3)
              obtain ⟨S1, hS1⟩ : ∃ A, w2.heap.size = A := ⟨_, rfl⟩
              rw [hS1] at HBS1 ⊢
              have HA2 := Lib.hid ha2
              have HC2 := Lib.hid hc2
              clear hk hb3 hS1 ha2 hc2 l0 l1 l2 l3 l4 l5
              have l0 : (w3.alloc (.cells #[.int .i64 5, .int .i64 (hold), .bool false, .bool false, .int .u32 (oi + 1)] 31)).cell? ⟨X, 0, none⟩ = some (.int .i64 oa) := (HBL3.out.alloc _).cell 0 (by simp)
              have l1 : (w3.alloc (.cells #[.int .i64 5, .int .i64 (hold), .bool false, .bool false, .int .u32 (oi + 1)] 31)).cell? ⟨X, 1, none⟩ = some (.int .i64 oh) := (HBL3.out.alloc _).cell 1 (by simp)
              have l2 : (w3.alloc (.cells #[.int .i64 5, .int .i64 (hold), .bool false, .bool false, .int .u32 (oi + 1)] 31)).cell? ⟨X, 2, none⟩ = some (.int .u32 oi) := (HBL3.out.alloc _).cell 2 (by simp)
              have l3 : (w3.alloc (.cells #[.int .i64 5, .int .i64 (hold), .bool false, .bool false, .int .u32 (oi + 1)] 31)).cell? ⟨X, 3, none⟩ = some (.bool of) := (HBL3.out.alloc _).cell 3 (by simp)
              have l4 : (w3.alloc (.cells #[.int .i64 5, .int .i64 (hold), .bool false, .bool false, .int .u32 (oi + 1)] 31)).cell? ⟨X, 4, none⟩ = some (.int .i64 op) := (HBL3.out.alloc _).cell 4 (by simp)
              have l5 : (w3.alloc (.cells #[.int .i64 5, .int .i64 (hold), .bool false, .bool false, .int .u32 (oi + 1)] 31)).cell? ⟨X, 5, none⟩ = some (.int .i64 r) := (HBL3.out.alloc _).cell 5 (by simp)
              go_wp2_with fail
              refine (HE3.out _).mono ?_
              rintro e w4 ⟨d3, g3, cap3, rfl, hc3, ha3, hb4⟩
              have hk := kB hb4
              have HBL4 := Lib.hid (HBL3.out.next hk)
              have HZ4 := Lib.hid (HZ3.out.trans (hk.mono HZ3.out.size))
              have HA1 := Lib.hid (HA1.out.next hk)
              have HA2 := Lib.hid (HA2.out.next hk)
              have HBS1 := Lib.hid (HBS1.out.next hk)
              have HBS2 := Lib.hid ((Blk.new w3 31 [.int .i64 5, .int .i64 (hold), .bool false, .bool false, .int .u32 (oi + 1)]).next hb4)
              obtain ⟨S2, hS2⟩ : ∃ A, w3.heap.size = A := ⟨_, rfl⟩
              rw [hS2] at HBS2 ⊢
              have HA3 := Lib.hid ha3
              have HC3 := Lib.hid hc3
              clear hk hb4 hS2 ha3 hc3 l0 l1 l2 l3 l4 l5
              have l1 : (w4.alloc (.cells #[.int .i64 2, .int .i64 0, .bool false, .bool false, .int .u32 0] 31)).cell? ⟨X, 1, none⟩ = some (.int .i64 oh) := (HBL4.out.alloc _).cell 1 (by simp)
              have hlt := HLT.out
              go_wp2_with fail
              clear hlt
              clear l1
              refine (lives_any _).mono ?_
              rintro e w5 ⟨rfl, hb5⟩
              have hk := kB hb5
              have HZ5 := Lib.hid (HZ4.out.trans (hk.mono HZ4.out.size))
              have HA1 := Lib.hid (HA1.out.next hk)
              have HA2 := Lib.hid (HA2.out.next hk)
              have HA3 := Lib.hid (HA3.out.next hk)
              have HBS1 := Lib.hid (HBS1.out.next hk)
              have HBS2 := Lib.hid (HBS2.out.next hk)
              have HBS3 := Lib.hid ((Blk.new w4 31 [.int .i64 2, .int .i64 0, .bool false, .bool false, .int .u32 0]).next hb5)
              obtain ⟨S3, hS3⟩ : ∃ A, w4.heap.size = A := ⟨_, rfl⟩
              rw [hS3] at HBS3 ⊢
              clear hk hb5 hS3
              have b1 : w5.cell? ⟨S1, 1, none⟩ = some (.int .i64 (hold)) := HBS1.out.cell 1 (by simp)
              have b2 : w5.cell? ⟨S2, 0, none⟩ = some (.int .i64 5) := HBS2.out.cell 0 (by simp)
              have b3 : w5.cell? ⟨S3, 0, none⟩ = some (.int .i64 2) := HBS3.out.cell 0 (by simp)
              have a1 : w5.cell? ⟨g1, 6, none⟩ = some (.int .i64 (wrap64 (hold.tdiv 3))) := (HA1.out.2 6 (by omega)).trans rfl
              have a2 : w5.cell? ⟨g1, 11, none⟩ = some (.int .i64 (hold)) := (HA1.out.2 11 (by omega)).trans rfl
              have a3 : w5.cell? ⟨g2, 1, none⟩ = some (.int .i64 (hold)) := (HA2.out.2 1 (by omega)).trans rfl
              have a4 : w5.cell? ⟨g3, 2, none⟩ = some (.int .i64 4) := (HA3.out.2 2 (by omega)).trans rfl
              have a5 : w5.cell? ⟨g3, 3, none⟩ = some (.int .i64 0) := (HA3.out.2 3 (by omega)).trans rfl
              have a6 : w5.cell? ⟨g3, 25, none⟩ = some (.int .i64 10) := (HA3.out.2 25 (by omega)).trans rfl
              go_wp2_with fail
              go_ret
              exact ⟨rfl, HZ5.out⟩
end Go.Proofs.Ytckggjpdonfekaa
