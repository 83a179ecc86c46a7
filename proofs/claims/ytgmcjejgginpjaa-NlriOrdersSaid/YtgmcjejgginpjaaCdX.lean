/- NlriOrders, as its frame takes it. -/
import Derived.Test.YtgmcjejgginpjaaCdT
import Derived.Test.YtgmcjejgginpjaaNlK
namespace Go.Proofs.Ytgmcjejgginpjaa
open Go.RowKit
theorem orders06_arg (w : World) (z : Option Addr × List Nl × Nat) (hz : NlsArg w z) (x : Nl) (hx : okN x) (y : Nl) (hy : okN y) (paths : Bool) :
    Calls Try.prog 5 #[.slice z.1 z.2.1.length z.2.2, .agg #[.int .i64 x.id, .int .u32 x.addr, .int .i64 x.len], .agg #[.int .i64 y.id, .int .u32 y.addr, .int .i64 y.len], .bool paths] w fun e w' => e = .returned (.bool true) ∧ Below w.heap.size w w' :=
  orders06_any _ _ _ _ x y paths w hz.at_ hz.ok rfl (okN_addr hx) (okN_addr hy)
end Go.Proofs.Ytgmcjejgginpjaa
