/- fsm: a step whose acts are some; the law's lives. -/
import Derived.Test.YtbacnjijfffobaaHB
import Derived.Laws.OwnMore
namespace Go.Proofs.Ytbacnjijfffobaa
open Go.RowKit

/-- Acts in memory, from a block's first cell on. -/
def ActsAt (w : World) (g n : Nat) (l : List Ac) : Prop := g < w.heap.size ∧ ∀ j, j < n * 5 → w.cell? ⟨g, j, none⟩ = (acells l)[j]?
theorem ActsAt.next {w w' : World} {g n : Nat} {l : List Ac} (h : ActsAt w g n l) (hb : Below w.heap.size w w') : ActsAt w' g n l :=
  ⟨by have := hb.size; have := h.1; omega, fun j hj => (hb.cell (p := ⟨g, j, none⟩) h.1).trans (h.2 j hj)⟩
def StepL (w w' : World) (t : Ph) (l : Dt → List Ac) (n : Nat) (e : Ending) : Prop := ∃ d g cap, e = .returned (.tuple #[t.v, .slice (some ⟨g, 0, none⟩) n cap]) ∧ n ≤ cap ∧ ActsAt w' g n (l d) ∧ Below w.heap.size w w'
theorem step_lit (w : World) (o : Op) (r : Int) (s : Ph) (kind : Int) (x : Op) (code sub : Int) (t : Ph) (l : Dt → List Ac) (n : Nat) (hR : ∀ d, stepV o r s kind x code sub d = (t, l d)) (hn : ∀ d, (l d).length = n) (h0 : 0 < n) :
    Calls Try.prog 8 #[loV o r, s.v, evA kind x code sub none 0 0] w fun e w' => StepL w w' t l n e := by
  refine (fstep_any w o r s kind x code sub none [] 0 0 (BytesAt.nil _ _) rfl (by omega)).mono ?_
  rintro e w' ⟨d, v, he, hr, hb⟩
  dsimp only at he hr
  rw [hR] at he hr
  dsimp only at he hr
  rw [hn] at hr
  rcases hr.2 with ⟨_, h1⟩ | ⟨g, cap, cur, rfl, hB, hh, hc, _⟩
  · omega
  · exact ⟨d, g, cap, he, hc, ⟨(hr.lt g rfl).2, fun j hj => hr.cellAt j hj⟩, hb⟩
theorem kB {a b : World} {o : Obj} (hb : Below (a.alloc o).heap.size (a.alloc o) b) : Below a.heap.size a b := (newB a o).trans (hb.mono (by simp))
theorem lstep1 (w : World) :
    Calls Try.prog 8 #[.agg #[.int .i64 65000, .int .i64 90, .int .u32 1, .bool true, .int .i64 1, .int .i64 30], .agg #[.int .i64 1, .int .i64 0, .bool false, .bool false, .int .u32 0], .agg #[.int .i64 1, .int .i64 0, .int .i64 0, .int .u32 0, .bool false, .int .i64 0, .int .i64 0, .int .i64 0, .slice none 0 0]] w fun e w' => ∃ d g cap, e = .returned (.tuple #[.agg #[.int .i64 2, .int .i64 0, .bool false, .bool false, .int .u32 0], .slice (some ⟨g, 0, none⟩) 2 cap]) ∧ 2 ≤ cap ∧ ActsAt w' g 2 ((fun _ => tryL 30 : Dt → List Ac) d) ∧ Below w.heap.size w w' :=
  step_lit w ⟨65000, 90, 1, true, 1⟩ 30 (Ph.at 1) 1 (Op.zero) 0 0 (Ph.at 2) (fun _ => tryL 30) 2 (fun d => by kernel_rfl) (fun d => rfl) (by omega)
theorem lstep2 (w : World) :
    Calls Try.prog 8 #[.agg #[.int .i64 65000, .int .i64 90, .int .u32 1, .bool true, .int .i64 1, .int .i64 30], .agg #[.int .i64 2, .int .i64 0, .bool false, .bool false, .int .u32 0], .agg #[.int .i64 3, .int .i64 0, .int .i64 0, .int .u32 0, .bool false, .int .i64 0, .int .i64 0, .int .i64 0, .slice none 0 0]] w fun e w' => ∃ d g cap, e = .returned (.tuple #[.agg #[.int .i64 3, .int .i64 0, .bool false, .bool false, .int .u32 0], .slice (some ⟨g, 0, none⟩) 3 cap]) ∧ 3 ≤ cap ∧ ActsAt w' g 3 ((fun _ => [ac 8 0, ac 2 0, ac 6 240] : Dt → List Ac) d) ∧ Below w.heap.size w w' :=
  step_lit w ⟨65000, 90, 1, true, 1⟩ 30 (Ph.at 2) 3 (Op.zero) 0 0 (Ph.at 3) (fun _ => [ac 8 0, ac 2 0, ac 6 240]) 3 (fun d => by kernel_rfl) (fun d => rfl) (by omega)
theorem lstep3 (w : World) :
    Calls Try.prog 8 #[.agg #[.int .i64 65000, .int .i64 90, .int .u32 1, .bool true, .int .i64 1, .int .i64 30], .agg #[.int .i64 3, .int .i64 0, .bool false, .bool false, .int .u32 0], .agg #[.int .i64 5, .int .i64 65000, .int .i64 30, .int .u32 2, .bool true, .int .i64 2, .int .i64 0, .int .i64 0, .slice none 0 0]] w fun e w' => ∃ d g cap, e = .returned (.tuple #[.agg #[.int .i64 4, .int .i64 30, .bool true, .bool true, .int .u32 2], .slice (some ⟨g, 0, none⟩) 3 cap]) ∧ 3 ≤ cap ∧ ActsAt w' g 3 ((fun _ => [ac 3 0, ac 7 10, ac 6 30] : Dt → List Ac) d) ∧ Below w.heap.size w w' :=
  step_lit w ⟨65000, 90, 1, true, 1⟩ 30 (Ph.at 3) 5 (⟨65000, 30, 2, true, 2⟩) 0 0 (⟨4, 30, true, true, 2⟩) (fun _ => [ac 3 0, ac 7 10, ac 6 30]) 3 (fun d => by kernel_rfl) (fun d => rfl) (by omega)
theorem lstep4 (w : World) :
    Calls Try.prog 8 #[.agg #[.int .i64 65000, .int .i64 90, .int .u32 1, .bool true, .int .i64 1, .int .i64 30], .agg #[.int .i64 4, .int .i64 30, .bool true, .bool true, .int .u32 2], .agg #[.int .i64 6, .int .i64 0, .int .i64 0, .int .u32 0, .bool false, .int .i64 0, .int .i64 0, .int .i64 0, .slice none 0 0]] w fun e w' => ∃ d g cap, e = .returned (.tuple #[.agg #[.int .i64 5, .int .i64 30, .bool true, .bool true, .int .u32 2], .slice (some ⟨g, 0, none⟩) 2 cap]) ∧ 2 ≤ cap ∧ ActsAt w' g 2 ((fun _ => [ac 6 30, ac 9 0] : Dt → List Ac) d) ∧ Below w.heap.size w w' :=
  step_lit w ⟨65000, 90, 1, true, 1⟩ 30 (⟨4, 30, true, true, 2⟩) 6 (Op.zero) 0 0 (⟨5, 30, true, true, 2⟩) (fun _ => [ac 6 30, ac 9 0]) 2 (fun d => by kernel_rfl) (fun d => rfl) (by omega)
theorem lstep5 (w : World) :
    Calls Try.prog 8 #[.agg #[.int .i64 65000, .int .i64 90, .int .u32 1, .bool true, .int .i64 1, .int .i64 30], .agg #[.int .i64 5, .int .i64 30, .bool true, .bool true, .int .u32 2], .agg #[.int .i64 10, .int .i64 0, .int .i64 0, .int .u32 0, .bool false, .int .i64 0, .int .i64 0, .int .i64 0, .slice none 0 0]] w fun e w' => ∃ d g cap, e = .returned (.tuple #[.agg #[.int .i64 2, .int .i64 0, .bool false, .bool false, .int .u32 0], .slice (some ⟨g, 0, none⟩) 6 cap]) ∧ 6 ≤ cap ∧ ActsAt w' g 6 ((fun d => [noteAc 4 0 d, ac 5 0, ac 6 0, ac 7 0, ac 8 30, ac 10 0] : Dt → List Ac) d) ∧ Below w.heap.size w w' :=
  step_lit w ⟨65000, 90, 1, true, 1⟩ 30 (⟨5, 30, true, true, 2⟩) 10 (Op.zero) 0 0 (Ph.at 2) (fun d => [noteAc 4 0 d, ac 5 0, ac 6 0, ac 7 0, ac 8 30, ac 10 0]) 6 (fun d => by kernel_rfl) (fun d => rfl) (by omega)
theorem lcheck_any (w : World) : Calls Try.prog 13 #[.agg #[.int .i64 65000, .int .i64 90, .int .u32 1, .bool true, .int .i64 1, .int .i64 30]] w fun e w' => e = .returned (.int .i64 0) ∧ Below w.heap.size w w' := by
  have h := fcheck_any ⟨65000, 90, 1, true, 1⟩ 30 w
  rw [show errL ⟨65000, 90, 1, true, 1⟩ 30 = 0 by kernel_rfl] at h
  exact h
theorem lknown2_any (w : World) : Calls Try.prog 10 #[.agg #[.int .i64 2, .int .i64 0, .bool false, .bool false, .int .u32 0]] w fun e w' => e = .returned (.bool true) ∧ Below w.heap.size w w' := by
  have h := known_any (Ph.at 2) w
  rw [show knownB (Ph.at 2) = true by kernel_rfl] at h
  exact h
theorem lknown0_any (w : World) : Calls Try.prog 10 #[.agg #[.int .i64 0, .int .i64 0, .bool false, .bool false, .int .u32 0]] w fun e w' => e = .returned (.bool false) ∧ Below w.heap.size w w' := by
  have h := known_any (Ph.at 0) w
  rw [show knownB (Ph.at 0) = false by kernel_rfl] at h
  exact h
theorem local_any (w : World) :
    Calls Try.prog 12 #[] w fun e w' => e = .returned (.agg #[.int .i64 65000, .int .i64 90, .int .u32 1, .bool true, .int .i64 1, .int .i64 30]) ∧ Below w.heap.size w w' := by
  go_enter Try.func12, Try.ntmps12
  go_wp2_with fail
  exact bodyPost_ret (v := .agg #[.int .i64 65000, .int .i64 90, .int .u32 1, .bool true, .int .i64 1, .int .i64 30]) (by simp [results, Try.results12, go_sem]) rfl ⟨rfl, newB _ _⟩
set_option maxHeartbeats 8000000 in
theorem lives_any (w : World) :
    Calls Try.prog 7 #[] w fun e w' => e = .returned (.bool true) ∧ Below w.heap.size w w' := by
  obtain ⟨X, hX⟩ : ∃ X, w.heap.size = X := ⟨_, rfl⟩
  have HX := Lib.hid hX
  clear hX
  have hqe := st_eq
  have hqf := st_eq4
  have hge := st_guard
  go_enter Try.func7, Try.ntmps7
  go_wp2_with fail
  refine (local_any _).mono ?_
  rintro e w0 ⟨rfl, hb0⟩
  have HZ := Lib.hid hb0
  clear hb0
  go_wp2_with fail
  refine (lstep1 _).mono ?_
  rintro e w1 ⟨d1, g1, cap1, rfl, hc1, ha1, hb1⟩
  have hk := kB hb1
  have HZ := Lib.hid (HZ.out.trans (hk.mono HZ.out.size))
  have HBL := Lib.hid ((Blk.new w0 26 [.int .i64 65000, .int .i64 90, .int .u32 1, .bool true, .int .i64 1, .int .i64 30]).next hb1)
  obtain ⟨A, hA⟩ : ∃ A, w0.heap.size = A := ⟨_, rfl⟩
  rw [hA] at HBL ⊢
  clear hA
  have HC1 := Lib.hid hc1
  clear hk hb1 ha1 hc1
  have l0 : (w1.alloc (.cells #[.int .i64 2, .int .i64 0, .bool false, .bool false, .int .u32 0] 31)).cell? ⟨A, 0, none⟩ = some (.int .i64 65000) := (HBL.out.alloc _).cell 0 (by simp)
  have l1 : (w1.alloc (.cells #[.int .i64 2, .int .i64 0, .bool false, .bool false, .int .u32 0] 31)).cell? ⟨A, 1, none⟩ = some (.int .i64 90) := (HBL.out.alloc _).cell 1 (by simp)
  have l2 : (w1.alloc (.cells #[.int .i64 2, .int .i64 0, .bool false, .bool false, .int .u32 0] 31)).cell? ⟨A, 2, none⟩ = some (.int .u32 1) := (HBL.out.alloc _).cell 2 (by simp)
  have l3 : (w1.alloc (.cells #[.int .i64 2, .int .i64 0, .bool false, .bool false, .int .u32 0] 31)).cell? ⟨A, 3, none⟩ = some (.bool true) := (HBL.out.alloc _).cell 3 (by simp)
  have l4 : (w1.alloc (.cells #[.int .i64 2, .int .i64 0, .bool false, .bool false, .int .u32 0] 31)).cell? ⟨A, 4, none⟩ = some (.int .i64 1) := (HBL.out.alloc _).cell 4 (by simp)
  have l5 : (w1.alloc (.cells #[.int .i64 2, .int .i64 0, .bool false, .bool false, .int .u32 0] 31)).cell? ⟨A, 5, none⟩ = some (.int .i64 30) := (HBL.out.alloc _).cell 5 (by simp)
  go_wp2_with fail
  refine (lstep2 _).mono ?_
  rintro e w2 ⟨d2, g2, cap2, rfl, hc2, ha2, hb2⟩
  have hk := kB hb2
  have HZ := Lib.hid (HZ.out.trans (hk.mono HZ.out.size))
  clear l0 l1 l2 l3 l4 l5
  have HBL := Lib.hid (HBL.out.next hk)
  have HBS1 := Lib.hid ((Blk.new w1 31 [.int .i64 2, .int .i64 0, .bool false, .bool false, .int .u32 0]).next hb2)
  obtain ⟨S1, hS1⟩ : ∃ A, w1.heap.size = A := ⟨_, rfl⟩
  rw [hS1] at HBS1 ⊢
  clear hS1
  have HC2 := Lib.hid hc2
  clear hk hb2 ha2 hc2
  have l0 : (w2.alloc (.cells #[.int .i64 3, .int .i64 0, .bool false, .bool false, .int .u32 0] 31)).cell? ⟨A, 0, none⟩ = some (.int .i64 65000) := (HBL.out.alloc _).cell 0 (by simp)
  have l1 : (w2.alloc (.cells #[.int .i64 3, .int .i64 0, .bool false, .bool false, .int .u32 0] 31)).cell? ⟨A, 1, none⟩ = some (.int .i64 90) := (HBL.out.alloc _).cell 1 (by simp)
  have l2 : (w2.alloc (.cells #[.int .i64 3, .int .i64 0, .bool false, .bool false, .int .u32 0] 31)).cell? ⟨A, 2, none⟩ = some (.int .u32 1) := (HBL.out.alloc _).cell 2 (by simp)
  have l3 : (w2.alloc (.cells #[.int .i64 3, .int .i64 0, .bool false, .bool false, .int .u32 0] 31)).cell? ⟨A, 3, none⟩ = some (.bool true) := (HBL.out.alloc _).cell 3 (by simp)
  have l4 : (w2.alloc (.cells #[.int .i64 3, .int .i64 0, .bool false, .bool false, .int .u32 0] 31)).cell? ⟨A, 4, none⟩ = some (.int .i64 1) := (HBL.out.alloc _).cell 4 (by simp)
  have l5 : (w2.alloc (.cells #[.int .i64 3, .int .i64 0, .bool false, .bool false, .int .u32 0] 31)).cell? ⟨A, 5, none⟩ = some (.int .i64 30) := (HBL.out.alloc _).cell 5 (by simp)
  go_wp2_with fail
  refine (lstep3 _).mono ?_
  rintro e w3 ⟨d3, g3, cap3, rfl, hc3, ha3, hb3⟩
  have hk := kB hb3
  have HZ := Lib.hid (HZ.out.trans (hk.mono HZ.out.size))
  clear l0 l1 l2 l3 l4 l5
  have HBL := Lib.hid (HBL.out.next hk)
  have HBS2 := Lib.hid ((Blk.new w2 31 [.int .i64 3, .int .i64 0, .bool false, .bool false, .int .u32 0]).next hb3)
  obtain ⟨S2, hS2⟩ : ∃ A, w2.heap.size = A := ⟨_, rfl⟩
  rw [hS2] at HBS2 ⊢
  have HBS1 := Lib.hid (HBS1.out.next hk)
  clear hS2
  have HA3 := Lib.hid ha3
  have HC3 := Lib.hid hc3
  clear hk hb3 ha3 hc3
  have l0 : (w3.alloc (.cells #[.int .i64 4, .int .i64 30, .bool true, .bool true, .int .u32 2] 31)).cell? ⟨A, 0, none⟩ = some (.int .i64 65000) := (HBL.out.alloc _).cell 0 (by simp)
  have l1 : (w3.alloc (.cells #[.int .i64 4, .int .i64 30, .bool true, .bool true, .int .u32 2] 31)).cell? ⟨A, 1, none⟩ = some (.int .i64 90) := (HBL.out.alloc _).cell 1 (by simp)
  have l2 : (w3.alloc (.cells #[.int .i64 4, .int .i64 30, .bool true, .bool true, .int .u32 2] 31)).cell? ⟨A, 2, none⟩ = some (.int .u32 1) := (HBL.out.alloc _).cell 2 (by simp)
  have l3 : (w3.alloc (.cells #[.int .i64 4, .int .i64 30, .bool true, .bool true, .int .u32 2] 31)).cell? ⟨A, 3, none⟩ = some (.bool true) := (HBL.out.alloc _).cell 3 (by simp)
  have l4 : (w3.alloc (.cells #[.int .i64 4, .int .i64 30, .bool true, .bool true, .int .u32 2] 31)).cell? ⟨A, 4, none⟩ = some (.int .i64 1) := (HBL.out.alloc _).cell 4 (by simp)
  have l5 : (w3.alloc (.cells #[.int .i64 4, .int .i64 30, .bool true, .bool true, .int .u32 2] 31)).cell? ⟨A, 5, none⟩ = some (.int .i64 30) := (HBL.out.alloc _).cell 5 (by simp)
  go_wp2_with fail
  refine (lstep4 _).mono ?_
  rintro e w4 ⟨d4, g4, cap4, rfl, hc4, ha4, hb4⟩
  have hk := kB hb4
  have HZ := Lib.hid (HZ.out.trans (hk.mono HZ.out.size))
  clear l0 l1 l2 l3 l4 l5
  have HBL := Lib.hid (HBL.out.next hk)
  have HBS3 := Lib.hid ((Blk.new w3 31 [.int .i64 4, .int .i64 30, .bool true, .bool true, .int .u32 2]).next hb4)
  obtain ⟨S3, hS3⟩ : ∃ A, w3.heap.size = A := ⟨_, rfl⟩
  rw [hS3] at HBS3 ⊢
  have HBS1 := Lib.hid (HBS1.out.next hk)
  have HBS2 := Lib.hid (HBS2.out.next hk)
  have HA3 := Lib.hid (HA3.out.next hk)
  clear hS3
  have HA4 := Lib.hid ha4
  have HC4 := Lib.hid hc4
  clear hk hb4 ha4 hc4
  have l0 : (w4.alloc (.cells #[.int .i64 5, .int .i64 30, .bool true, .bool true, .int .u32 2] 31)).cell? ⟨A, 0, none⟩ = some (.int .i64 65000) := (HBL.out.alloc _).cell 0 (by simp)
  have l1 : (w4.alloc (.cells #[.int .i64 5, .int .i64 30, .bool true, .bool true, .int .u32 2] 31)).cell? ⟨A, 1, none⟩ = some (.int .i64 90) := (HBL.out.alloc _).cell 1 (by simp)
  have l2 : (w4.alloc (.cells #[.int .i64 5, .int .i64 30, .bool true, .bool true, .int .u32 2] 31)).cell? ⟨A, 2, none⟩ = some (.int .u32 1) := (HBL.out.alloc _).cell 2 (by simp)
  have l3 : (w4.alloc (.cells #[.int .i64 5, .int .i64 30, .bool true, .bool true, .int .u32 2] 31)).cell? ⟨A, 3, none⟩ = some (.bool true) := (HBL.out.alloc _).cell 3 (by simp)
  have l4 : (w4.alloc (.cells #[.int .i64 5, .int .i64 30, .bool true, .bool true, .int .u32 2] 31)).cell? ⟨A, 4, none⟩ = some (.int .i64 1) := (HBL.out.alloc _).cell 4 (by simp)
  have l5 : (w4.alloc (.cells #[.int .i64 5, .int .i64 30, .bool true, .bool true, .int .u32 2] 31)).cell? ⟨A, 5, none⟩ = some (.int .i64 30) := (HBL.out.alloc _).cell 5 (by simp)
  go_wp2_with fail
  refine (lstep5 _).mono ?_
  rintro e w5 ⟨d5, g5, cap5, rfl, hc5, ha5, hb5⟩
  have hk := kB hb5
  have HZ := Lib.hid (HZ.out.trans (hk.mono HZ.out.size))
  clear l0 l1 l2 l3 l4 l5
  have HBL := Lib.hid (HBL.out.next hk)
  have HBS4 := Lib.hid ((Blk.new w4 31 [.int .i64 5, .int .i64 30, .bool true, .bool true, .int .u32 2]).next hb5)
  obtain ⟨S4, hS4⟩ : ∃ A, w4.heap.size = A := ⟨_, rfl⟩
  rw [hS4] at HBS4 ⊢
  have HBS1 := Lib.hid (HBS1.out.next hk)
  have HBS2 := Lib.hid (HBS2.out.next hk)
  have HBS3 := Lib.hid (HBS3.out.next hk)
  have HA3 := Lib.hid (HA3.out.next hk)
  have HA4 := Lib.hid (HA4.out.next hk)
  clear hS4
  have HA5 := Lib.hid ha5
  have HC5 := Lib.hid hc5
  clear hk hb5 ha5 hc5
  have l0 : (w5.alloc (.cells #[.int .i64 2, .int .i64 0, .bool false, .bool false, .int .u32 0] 31)).cell? ⟨A, 0, none⟩ = some (.int .i64 65000) := (HBL.out.alloc _).cell 0 (by simp)
  have l1 : (w5.alloc (.cells #[.int .i64 2, .int .i64 0, .bool false, .bool false, .int .u32 0] 31)).cell? ⟨A, 1, none⟩ = some (.int .i64 90) := (HBL.out.alloc _).cell 1 (by simp)
  have l2 : (w5.alloc (.cells #[.int .i64 2, .int .i64 0, .bool false, .bool false, .int .u32 0] 31)).cell? ⟨A, 2, none⟩ = some (.int .u32 1) := (HBL.out.alloc _).cell 2 (by simp)
  have l3 : (w5.alloc (.cells #[.int .i64 2, .int .i64 0, .bool false, .bool false, .int .u32 0] 31)).cell? ⟨A, 3, none⟩ = some (.bool true) := (HBL.out.alloc _).cell 3 (by simp)
  have l4 : (w5.alloc (.cells #[.int .i64 2, .int .i64 0, .bool false, .bool false, .int .u32 0] 31)).cell? ⟨A, 4, none⟩ = some (.int .i64 1) := (HBL.out.alloc _).cell 4 (by simp)
  have l5 : (w5.alloc (.cells #[.int .i64 2, .int .i64 0, .bool false, .bool false, .int .u32 0] 31)).cell? ⟨A, 5, none⟩ = some (.int .i64 30) := (HBL.out.alloc _).cell 5 (by simp)
  have s0 : (w5.alloc (.cells #[.int .i64 2, .int .i64 0, .bool false, .bool false, .int .u32 0] 31)).cell? ⟨S1, 0, none⟩ = some (.int .i64 2) := (HBS1.out.alloc _).cell 0 (by simp)
  have s1 : (w5.alloc (.cells #[.int .i64 2, .int .i64 0, .bool false, .bool false, .int .u32 0] 31)).cell? ⟨S1, 1, none⟩ = some (.int .i64 0) := (HBS1.out.alloc _).cell 1 (by simp)
  have s2 : (w5.alloc (.cells #[.int .i64 2, .int .i64 0, .bool false, .bool false, .int .u32 0] 31)).cell? ⟨S1, 2, none⟩ = some (.bool false) := (HBS1.out.alloc _).cell 2 (by simp)
  have s3 : (w5.alloc (.cells #[.int .i64 2, .int .i64 0, .bool false, .bool false, .int .u32 0] 31)).cell? ⟨S1, 3, none⟩ = some (.bool false) := (HBS1.out.alloc _).cell 3 (by simp)
  have s4 : (w5.alloc (.cells #[.int .i64 2, .int .i64 0, .bool false, .bool false, .int .u32 0] 31)).cell? ⟨S1, 4, none⟩ = some (.int .u32 0) := (HBS1.out.alloc _).cell 4 (by simp)
  have t0 : (w5.alloc (.cells #[.int .i64 2, .int .i64 0, .bool false, .bool false, .int .u32 0] 31)).cell? ⟨S2, 0, none⟩ = some (.int .i64 3) := (HBS2.out.alloc _).cell 0 (by simp)
  have u0 : (w5.alloc (.cells #[.int .i64 2, .int .i64 0, .bool false, .bool false, .int .u32 0] 31)).cell? ⟨S3, 0, none⟩ = some (.int .i64 4) := (HBS3.out.alloc _).cell 0 (by simp)
  have u1 : (w5.alloc (.cells #[.int .i64 2, .int .i64 0, .bool false, .bool false, .int .u32 0] 31)).cell? ⟨S3, 1, none⟩ = some (.int .i64 30) := (HBS3.out.alloc _).cell 1 (by simp)
  have u2 : (w5.alloc (.cells #[.int .i64 2, .int .i64 0, .bool false, .bool false, .int .u32 0] 31)).cell? ⟨S3, 2, none⟩ = some (.bool true) := (HBS3.out.alloc _).cell 2 (by simp)
  have u3 : (w5.alloc (.cells #[.int .i64 2, .int .i64 0, .bool false, .bool false, .int .u32 0] 31)).cell? ⟨S3, 3, none⟩ = some (.bool true) := (HBS3.out.alloc _).cell 3 (by simp)
  have u4 : (w5.alloc (.cells #[.int .i64 2, .int .i64 0, .bool false, .bool false, .int .u32 0] 31)).cell? ⟨S3, 4, none⟩ = some (.int .u32 2) := (HBS3.out.alloc _).cell 4 (by simp)
  have v0 : (w5.alloc (.cells #[.int .i64 2, .int .i64 0, .bool false, .bool false, .int .u32 0] 31)).cell? ⟨S4, 0, none⟩ = some (.int .i64 5) := (HBS4.out.alloc _).cell 0 (by simp)
  have a3 : (w5.alloc (.cells #[.int .i64 2, .int .i64 0, .bool false, .bool false, .int .u32 0] 31)).cell? ⟨g3, 6, none⟩ = some (.int .i64 10) := ((HA3.out.next (newB _ _)).2 6 (by omega)).trans rfl
  have a4 : (w5.alloc (.cells #[.int .i64 2, .int .i64 0, .bool false, .bool false, .int .u32 0] 31)).cell? ⟨g4, 5, none⟩ = some (.int .i64 9) := ((HA4.out.next (newB _ _)).2 5 (by omega)).trans rfl
  have a5 : (w5.alloc (.cells #[.int .i64 2, .int .i64 0, .bool false, .bool false, .int .u32 0] 31)).cell? ⟨g5, 2, none⟩ = some (.int .i64 4) := ((HA5.out.next (newB _ _)).2 2 (by omega)).trans rfl
  have HY := Lib.hid (HZ.out.trans ((newB w5 (.cells #[.int .i64 2, .int .i64 0, .bool false, .bool false, .int .u32 0] 31)).mono HZ.out.size))
  have HBS1 := Lib.hid (HBS1.out.alloc (.cells #[.int .i64 2, .int .i64 0, .bool false, .bool false, .int .u32 0] 31))
  go_wp2_with fail
  refine (lcheck_any _).mono ?_
  rintro e w6 ⟨rfl, hb6⟩
  have HY := Lib.hid (HY.out.trans (hb6.mono HY.out.size))
  have HBS1 := Lib.hid (HBS1.out.next hb6)
  clear hb6 l0 l1 l2 l3 l4 l5 s0 s1 s2 s3 s4 t0 u0 u1 u2 u3 u4 v0 a3 a4 a5
  have s0 : w6.cell? ⟨S1, 0, none⟩ = some (.int .i64 2) := HBS1.out.cell 0 (by simp)
  have s1 : w6.cell? ⟨S1, 1, none⟩ = some (.int .i64 0) := HBS1.out.cell 1 (by simp)
  have s2 : w6.cell? ⟨S1, 2, none⟩ = some (.bool false) := HBS1.out.cell 2 (by simp)
  have s3 : w6.cell? ⟨S1, 3, none⟩ = some (.bool false) := HBS1.out.cell 3 (by simp)
  have s4 : w6.cell? ⟨S1, 4, none⟩ = some (.int .u32 0) := HBS1.out.cell 4 (by simp)
  go_wp2_with fail
  refine (lknown2_any _).mono ?_
  rintro e w7 ⟨rfl, hb7⟩
  have HY := Lib.hid (HY.out.trans (hb7.mono HY.out.size))
  clear hb7 s0 s1 s2 s3 s4
  go_wp2_with fail
  refine (lknown0_any _).mono ?_
  rintro e w8 ⟨rfl, hb8⟩
  have HY := Lib.hid (HY.out.trans (hb8.mono HY.out.size))
  clear hb8
  go_wp2_with fail
  go_ret
  exact ⟨rfl, HY.out⟩
end Go.Proofs.Ytbacnjijfffobaa
