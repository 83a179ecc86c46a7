/- HopOrders, as its frame takes it. -/
import Derived.Test.YtbblcieafmpfgaaWO
namespace Go.Proofs.Ytbblcieafmpfgaa
open Go.RowKit
set_option linter.unusedVariables false
set_option linter.unusedSimpArgs false
theorem horders_arg (w : World) (x : Option Addr × List Ifc × Nat) (hx : IfsArg w x) (t : Int) (_ : (Lit.int .i64 t).wf = true) (r : Int) (_ : (Lit.int .i64 r).wf = true) (a : Int) (a0 : 0 ≤ a) (a1 : a ≤ 4294967295) :
    Calls Try.prog 4 #[.slice x.1 x.2.1.length x.2.2, .int .i64 t, .int .i64 r, .int .u32 a] w fun e w' => e = .returned (.bool true) ∧ Below w.heap.size w w' :=
  horders_walk w x.1 x.2.1 _ _ hx.at_ rfl hx.le (Nat.le_trans hx.le hx.max) t r a a0 (by omega)
end Go.Proofs.Ytbblcieafmpfgaa
