/- best: what lives comes to, in numbers. -/
import Derived.Test.YtljbebeaahcjaaaBC
namespace Go.Proofs.Ytljbebeaahcjaaa
open Go.RowKit Go.Maps Go.Sort Go.Shelf
set_option linter.unusedVariables false
set_option linter.unusedSimpArgs false
set_option maxRecDepth 100000
/-- What is sorted strictly is the one that is sorted. -/
theorem perm_strict {α : Type} {lt : α → α → Bool} : ∀ {L M : List α}, L.Perm M → M.Pairwise (fun x y => lt y x = false) → L.Pairwise (fun x y => lt x y = true) → M = L
  | [], M, hp, _, _ => (List.nil_perm.1 hp)
  | x :: t, [], hp, _, _ => by have := hp.length_eq; simp at this
  | x :: t, y :: t', hp, hM, hL => by
    have hxy : y = x := by
      have hx : x ∈ y :: t' := (hp.mem_iff (a := x)).1 List.mem_cons_self
      rcases List.mem_cons.1 hx with e | hx
      · exact e.symm
      · have hy : y ∈ x :: t := (hp.mem_iff (a := y)).2 List.mem_cons_self
        rcases List.mem_cons.1 hy with e | hy
        · exact e
        · have h1 := (List.pairwise_cons.1 hM).1 x hx
          have h2 := (List.pairwise_cons.1 hL).1 y hy
          rw [h1] at h2; cases h2
    subst hxy
    rw [perm_strict ((List.perm_cons y).1 hp) (List.pairwise_cons.1 hM).2 (List.pairwise_cons.1 hL).2]
def four (a0 b0 a1 b1 a2 b2 a3 b3 : Nat) : List Rv := [mkR 3 7 a0 b0 5 100, mkR 2 7 a1 b1 9 (-1), mkR 4 8 a2 b2 50 100, mkR 1 7 a3 b3 0 90]
theorem four_stand (a0 b0 a1 b1 a2 b2 a3 b3 : Nat) : standL (four a0 b0 a1 b1 a2 b2 a3 b3) 4 = [⟨0, -100, 1, 0, 7, 5, 3, 0, 0⟩, ⟨1, -100, 1, 0, 7, 9, 2, 0, 1⟩, ⟨2, -100, 1, 0, 8, 50, 4, 0, 2⟩, ⟨3, -90, 1, 0, 7, 0, 1, 0, 3⟩] := by rfl
theorem four_wait : waitL [⟨0, -100, 1, 0, 7, 5, 3, 0, 0⟩, ⟨1, -100, 1, 0, 7, 9, 2, 0, 1⟩, ⟨2, -100, 1, 0, 8, 50, 4, 0, 2⟩, ⟨3, -90, 1, 0, 7, 0, 1, 0, 3⟩] 4 = [⟨0, -100, 1, 0, 7, 5, 3, 0, 0⟩, ⟨1, -100, 1, 0, 7, 9, 3, 0, 0⟩, ⟨2, -100, 1, 0, 8, 50, 4, 0, 2⟩, ⟨3, -90, 1, 0, 7, 0, 1, 0, 3⟩] := by decide
theorem four_rank {a0 b0 a1 b1 a2 b2 a3 b3 : Nat} {B : List Nat} (h : RankB (four a0 b0 a1 b1 a2 b2 a3 b3) 4 B) : B = [0, 1, 2, 3] := by
  obtain ⟨M, N, h1, h2, h3, h4, rfl⟩ := h
  rw [four_stand] at h1
  obtain rfl := perm_strict h1 h2 (by decide)
  rw [four_wait] at h3 h4
  obtain rfl := perm_strict h3 h4 (by decide)
  rfl
theorem four_left (a0 b0 a1 b1 a2 b2 a3 b3 : Nat) : leftV (four a0 b0 a1 b1 a2 b2 a3 b3) 4 = [0, 2] := by kernel_rfl
theorem four_best (a0 b0 a1 b1 a2 b2 a3 b3 : Nat) : bestL (four a0 b0 a1 b1 a2 b2 a3 b3) 4 = [0] := by kernel_rfl
end Go.Proofs.Ytljbebeaahcjaaa
