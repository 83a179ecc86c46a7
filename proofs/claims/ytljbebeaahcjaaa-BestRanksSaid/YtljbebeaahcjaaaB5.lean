/- best: rows of standings in memory. -/
import Derived.Test.YtljbebeaahcjaaaB4
import Derived.Test.YtljbebeaahcjaaaS6
namespace Go.Proofs.Ytljbebeaahcjaaa
open Go.RowKit Go.Maps Go.Sort Go.Shelf
set_option linter.unusedVariables false
set_option linter.unusedSimpArgs false
set_option maxRecDepth 100000

theorem rowSt : RowC 53 57 stC (fun _ => True) St.zero (.agg #[.int .i64 0, .int .i64 0, .int .i64 0, .int .i64 0, .int .i64 0, .int .i64 0, .int .i64 0, .int .i64 0, .int .i64 0]) 9 72 where
  len x := rfl
  pos := by omega
  zs := rfl
  byl := by omega
  info := by kernel_rfl
  under := Try.underlying53
  elem := by kernel_rfl
  size w := by kernel_rfl
  one x u hu := by
    simp [stC] at hu
    rcases hu with rfl | rfl | rfl | rfl | rfl | rfl | rfl | rfl | rfl <;> rfl
/-- Standings at R. -/
structure StsAt (w : World) (R : Nat) (L : List St) : Prop where
  intro ::
  lt : R < w.heap.size
  cells : ∀ i, i < L.length → ∀ j v, (stC (L.getD i St.zero))[j]? = some v → w.cell? ⟨R, i * 9 + j, none⟩ = some v ∧ w.frozen? ⟨R, i * 9 + j, none⟩ = false
theorem frozen_same {w w' : World} {g k : Nat} (e : w'.heap[g]? = w.heap[g]?) : w'.frozen? ⟨g, k, none⟩ = w.frozen? ⟨g, k, none⟩ := by
  unfold World.frozen?
  simp only [e]
theorem StsAt.same {w w' : World} {R : Nat} {L : List St} (h : StsAt w R L) (hs : w.heap.size ≤ w'.heap.size) (e : w'.heap[R]? = w.heap[R]?) : StsAt w' R L :=
  ⟨Nat.lt_of_lt_of_le h.lt hs, fun i hi j v hv => ⟨cell_same (h.cells i hi j v hv).1 e, (frozen_same e).trans (h.cells i hi j v hv).2⟩⟩
theorem StsAt.below {w w' : World} {R : Nat} {L : List St} (h : StsAt w R L) (hb : Below w.heap.size w w') : StsAt w' R L := h.same hb.size (hb.block R h.lt)
/-- One of them. -/
theorem StsAt.one {w : World} {R n k : Nat} {L : List St} (h : StsAt w R L) (hn : L.length = n) (hk : k < n) {x : St} (hx : L.getD k St.zero = x) :
    (w.cell? ⟨R, k * 9, none⟩ = some (.int .i64 x.p) ∧ w.cell? ⟨R, k * 9 + 1, none⟩ = some (.int .i64 x.t0) ∧ w.cell? ⟨R, k * 9 + 2, none⟩ = some (.int .i64 x.t1) ∧ w.cell? ⟨R, k * 9 + 3, none⟩ = some (.int .i64 x.t2) ∧ w.cell? ⟨R, k * 9 + 4, none⟩ = some (.int .i64 x.a) ∧ w.cell? ⟨R, k * 9 + 5, none⟩ = some (.int .i64 x.m) ∧ w.cell? ⟨R, k * 9 + 6, none⟩ = some (.int .i64 x.u0) ∧ w.cell? ⟨R, k * 9 + 7, none⟩ = some (.int .i64 x.u1) ∧ w.cell? ⟨R, k * 9 + 8, none⟩ = some (.int .i64 x.u2)) ∧
    (w.frozen? ⟨R, k * 9, none⟩ = false ∧ w.frozen? ⟨R, k * 9 + 1, none⟩ = false ∧ w.frozen? ⟨R, k * 9 + 2, none⟩ = false ∧ w.frozen? ⟨R, k * 9 + 3, none⟩ = false ∧ w.frozen? ⟨R, k * 9 + 4, none⟩ = false ∧ w.frozen? ⟨R, k * 9 + 5, none⟩ = false ∧ w.frozen? ⟨R, k * 9 + 6, none⟩ = false ∧ w.frozen? ⟨R, k * 9 + 7, none⟩ = false ∧ w.frozen? ⟨R, k * 9 + 8, none⟩ = false) := by
  subst hx
  have hc := h.cells k (by omega)
  exact ⟨⟨(hc 0 _ rfl).1, (hc 1 _ rfl).1, (hc 2 _ rfl).1, (hc 3 _ rfl).1, (hc 4 _ rfl).1, (hc 5 _ rfl).1, (hc 6 _ rfl).1, (hc 7 _ rfl).1, (hc 8 _ rfl).1⟩, (hc 0 _ rfl).2, (hc 1 _ rfl).2, (hc 2 _ rfl).2, (hc 3 _ rfl).2, (hc 4 _ rfl).2, (hc 5 _ rfl).2, (hc 6 _ rfl).2, (hc 7 _ rfl).2, (hc 8 _ rfl).2⟩
/-- A world whose row reads so. -/
theorem StsAt.put {w w' : World} {R n k : Nat} {L : List St} (h : StsAt w R L) (hn : L.length = n) (hk : k < n) (x : St) (hs : w.heap.size ≤ w'.heap.size)
    (hin : ∀ j v, (stC x)[j]? = some v → w'.cell? ⟨R, k * 9 + j, none⟩ = some v) (hfr : ∀ t, w'.frozen? ⟨R, t, none⟩ = w.frozen? ⟨R, t, none⟩) (hout : ∀ t, t < k * 9 ∨ k * 9 + 9 ≤ t → w'.cell? ⟨R, t, none⟩ = w.cell? ⟨R, t, none⟩) : StsAt w' R (L.set k x) := by
  refine ⟨Nat.lt_of_lt_of_le h.lt hs, fun i hi j v hv => ?_⟩
  rw [List.length_set] at hi
  have hj : j < 9 := (List.getElem?_eq_some_iff.1 hv).1
  by_cases e : i = k
  · subst e
    have hx : (L.set i x).getD i St.zero = x := by simp [List.getD, hi]
    rw [hx] at hv
    have h0 : ∃ u, (stC (L.getD i St.zero))[j]? = some u := ⟨_, List.getElem?_eq_getElem (by exact hj)⟩
    obtain ⟨u, hu⟩ := h0
    exact ⟨hin j v hv, (hfr _).trans (h.cells i hi j u hu).2⟩
  · have hx : (L.set k x).getD i St.zero = L.getD i St.zero := by simp [List.getD, List.getElem?_set_ne (fun h => e h.symm)]
    rw [hx] at hv
    have h1 := h.cells i hi j v hv
    refine ⟨(hout _ ?_).trans h1.1, (hfr _).trans h1.2⟩
    rcases Nat.lt_or_gt_of_ne e with h2 | h2
    · left; omega
    · right; omega
theorem cell_set_at {w : World} {R k t : Nat} {v u : Value} (h : w.cell? ⟨R, k, none⟩ = some u) : (w.setCell ⟨R, k, none⟩ v).cell? ⟨R, t, none⟩ = if t = k then some v else w.cell? ⟨R, t, none⟩ := by
  by_cases e : t = k
  · subst e
    rw [if_pos rfl]
    exact World.cell?_setCell_same _ _ _ h
  · rw [if_neg e]
    refine World.cell?_setCell_other _ _ _ _ ?_
    intro h; apply e; cases h; rfl
end Go.Proofs.Ytljbebeaahcjaaa
