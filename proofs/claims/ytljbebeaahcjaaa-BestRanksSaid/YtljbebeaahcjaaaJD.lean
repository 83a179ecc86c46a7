/- best: ahead, behind: arrays of functions. -/
import Derived.Test.YtljbebeaahcjaaaJB
namespace Go.Proofs.Ytljbebeaahcjaaa
open Go.RowKit Go.Maps
set_option linter.unusedVariables false
set_option linter.unusedSimpArgs false
set_option maxRecDepth 100000
theorem ahead_any (w : World) :
    Calls Try.prog 27 #[] w fun e w' => e = .returned (.agg #[.func (.func 43) #[] #[], .func (.func 44) #[] #[], .func (.func 46) #[] #[]]) ∧ Below w.heap.size w w' := by
  have hst := fun (u : World) (a : Addr) (f : Nat) (m : Mode) => run_store Try.prog u a (.func (.func f) #[] #[]) m rfl
  go_enter Try.func27, Try.ntmps27
  go_wp2
  ((try simp only [Exit.inBlock, Exit.then]); refine bodyPost_ret (v := .agg #[.func (.func 43) #[] #[], .func (.func 44) #[] #[], .func (.func 46) #[] #[]]) (by simp [results, Try.results27, go_sem]) rfl ⟨rfl, newB w _⟩)
theorem behind_any (w : World) :
    Calls Try.prog 16 #[] w fun e w' => e = .returned (.agg #[.func (.func 29) #[] #[], .func (.func 30) #[] #[]]) ∧ Below w.heap.size w w' := by
  have hst := fun (u : World) (a : Addr) (f : Nat) (m : Mode) => run_store Try.prog u a (.func (.func f) #[] #[]) m rfl
  go_enter Try.func16, Try.ntmps16
  go_wp2
  ((try simp only [Exit.inBlock, Exit.then]); refine bodyPost_ret (v := .agg #[.func (.func 29) #[] #[], .func (.func 30) #[] #[]]) (by simp [results, Try.results16, go_sem]) rfl ⟨rfl, newB w _⟩)
end Go.Proofs.Ytljbebeaahcjaaa
