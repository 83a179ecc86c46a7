/- NlriSorts and NlriJoins, as their frames take them. -/
import Derived.Test.YtgmcjejgginpjaaCdT
import Derived.Test.YtgmcjejgginpjaaNlF
import Derived.Test.YtgmcjejgginpjaaNlG
namespace Go.Proofs.Ytgmcjejgginpjaa
open Go.RowKit
theorem sorts06_arg (w : World) (x : Option Addr × List Nl × Nat) (hx : NlsArg w x) :
    Calls Try.prog 7 #[.slice x.1 x.2.1.length x.2.2] w fun e w' => e = .returned (.bool true) ∧ Below w.heap.size w w' := sorts06_walk w x hx.at_ hx.ok
theorem joins06_arg (w : World) (x : Option Addr × List Nl × Nat) (hx : NlsArg w x) (y : Option Addr × List Nl × Nat) (hy : NlsArg w y) (paths : Bool) :
    Calls Try.prog 6 #[.slice x.1 x.2.1.length x.2.2, .slice y.1 y.2.1.length y.2.2, .bool paths] w fun e w' => e = .returned (.bool true) ∧ Below w.heap.size w w' :=
  joins06_walk w x y hx.at_ hy.at_ (Nat.le_trans hx.le hx.max) (Nat.le_trans hy.le hy.max) paths
end Go.Proofs.Ytgmcjejgginpjaa
