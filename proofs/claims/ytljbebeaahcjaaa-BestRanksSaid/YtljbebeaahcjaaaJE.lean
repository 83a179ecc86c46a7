/- best: left, where all are of one AS. -/
import Derived.Test.YtljbebeaahcjaaaJD
namespace Go.Proofs.Ytljbebeaahcjaaa
open Go.RowKit Go.Maps
set_option linter.unusedVariables false
set_option linter.unusedSimpArgs false
set_option maxRecDepth 100000
theorem run_makeI (n : Nat) (h : n ≤ 1000000) (w : World) : (Instr.makeSlice 31 (.int .i64 (n : Int)) (.int .i64 (n : Int))).run Try.prog w = .ok (.slice (some ⟨w.heap.size, 0, none⟩) n n) (w.alloc (.cells (madeCells #[.int .i64 0] n) 3)) := by
  obtain ⟨i, hi, hz, hs, hb⟩ := info_partsL (t := 3) (z := .int .i64 0) (s := 1) (b := 8) (by kernel_rfl)
  have hr := run_make (P := Try.prog) w 31 3 i (.int .i64 0) Try.underlying31 hi hz .i64 .i64 n n (by omega) (by omega) (by rw [hb]; omega) (by omega)
  simp only [Int.toNat_natCast, hs, Nat.mul_one] at hr
  exact hr
theorem AtBk.made (w : World) (n : Nat) : AtBk (w.alloc (.cells (madeCells #[.int .i64 0] n) 3)) w.heap.size (plc (List.range 0)) n := by
  refine ⟨List.replicate n (.int .i64 0), ?_, List.length_replicate, by simp [plc], by simp [plc]⟩
  unfold Blk
  rw [List.length_replicate]
  refine World.rowIs.congr (World.rowIs_made w (.int .i64 0) n 3) fun i hi => ?_
  simp [List.getD, hi]
theorem AtBk.cellN {w : World} {g N k : Nat} {l : List Int} (h : AtBk w g l N) (hk : k < N) : (∃ v, w.cell? ⟨g, k, none⟩ = some v) ∧ w.frozen? ⟨g, k, none⟩ = false := by
  obtain ⟨vs, hb, hl, _⟩ := h
  exact ⟨⟨_, hb.cell k (by omega)⟩, hb.f k⟩
theorem AtBk.snoc {w : World} {g N k : Nat} {l : List Int} (h : AtBk w g l N) (hl : l.length = k) (hk : k < N) (x : Int) : AtBk (w.setCell ⟨g, k, none⟩ (.int .i64 x)) g (l ++ [x]) N := by
  obtain ⟨vs, hb, hN, ht, _⟩ := h
  refine ⟨_, hb.set k _, by rw [List.length_set, hN], ?_, by simp; omega⟩
  rw [List.length_append, List.length_singleton, List.map_append, ← ht, hl, List.take_add_one, List.take_set_of_le (Nat.le_refl k)]
  congr 1
  simp [show k < vs.length by omega]
theorem plc_range (k : Nat) : plc (List.range (k + 1)) = plc (List.range k) ++ [(k : Int)] := by unfold plc; rw [List.range_succ, List.map_append]; rfl
theorem plc_rlen (k : Nat) : (plc (List.range k)).length = k := by unfold plc; simp
/-- What is looked at of the places, one behind the other. -/
def keysA (l : List Rv) : List (Nat → Int) := [fun i => keyAt 0 l i, fun i => keyAt 1 l i, fun i => keyAt 2 l i]
theorem leastV_ne (f : Nat → Int) {B : List Nat} {m m' : Nat} (hm : B.length = m) (h0 : 0 < m) (h' : (leastV f B).length = m') : 0 < m' ∧ m' ≤ m ∧ ∀ i ∈ leastV f B, i ∈ B := by
  have hne : B ≠ [] := by intro e; rw [e] at hm; simp at hm; omega
  have h1 := sel_ne [f] B hne
  have h2 : leastV f B ≠ [] := h1
  have h3 : (leastV f B).length ≤ B.length := List.length_filter_le _ _
  refine ⟨?_, by omega, fun i hi => (List.mem_filter.1 hi).1⟩
  rcases Nat.eq_zero_or_pos m' with h | h
  · rw [h] at h'; exact absurd (List.length_eq_zero_iff.1 h') h2
  · exact h
end Go.Proofs.Ytljbebeaahcjaaa
