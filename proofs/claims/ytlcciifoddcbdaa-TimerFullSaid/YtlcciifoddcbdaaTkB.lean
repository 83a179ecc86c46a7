/- timer: Same at one element. -/
import Derived.Test.YtlcciifoddcbdaaTkA
namespace Go.Proofs.Ytlcciifoddcbdaa
open Go.RowKit Go.Maps
theorem same_1 (w : World) (q r : Nat) (c c' : Nat) (x : Tk) (h0 : w.cell? ⟨q, 0, none⟩ = some (.int .i64 x.peer)) (h1 : w.cell? ⟨q, 1, none⟩ = some (.int .i64 x.kind)) (k0 : w.cell? ⟨r, 0, none⟩ = some (.int .i64 x.peer)) (k1 : w.cell? ⟨r, 1, none⟩ = some (.int .i64 x.kind)) :
    Calls Try.prog 13 #[.slice (some ⟨q, 0, none⟩) 1 c, .slice (some ⟨r, 0, none⟩) 1 c'] w fun e w' => e = .returned (.bool true) ∧ Below w.heap.size w w' := by
  have d0 : w.drew.cell? ⟨q, 0, none⟩ = some (.int .i64 x.peer) := h0
  have d1 : w.drew.cell? ⟨q, 1, none⟩ = some (.int .i64 x.kind) := h1
  have d2 : w.drew.cell? ⟨r, 0, none⟩ = some (.int .i64 x.peer) := k0
  have d3 : w.drew.cell? ⟨r, 1, none⟩ = some (.int .i64 x.kind) := k1
  go_enter Try.func13, Try.ntmps13
  go_wp2_with fail
  refine wp_loop_rounds 2 ?_
  rw [rounds_succ]
  go_wp2_with fail
  go_quiet (fail)
  go_wp2_with fail
  rw [rounds_succ]
  go_wp2_with fail
  go_ret
  exact ⟨rfl, ⟨rfl, rfl, rfl, Nat.le_refl _, fun _ _ => rfl⟩⟩
end Go.Proofs.Ytlcciifoddcbdaa
