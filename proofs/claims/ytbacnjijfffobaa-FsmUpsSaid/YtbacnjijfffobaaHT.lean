/- fsm: FsmUps's walk, of its arguments as they come. -/
import Derived.Test.YtbacnjijfffobaaHS
import Derived.Test.YtbacnjijfffobaaCdF
namespace Go.Proofs.Ytbacnjijfffobaa
open Go.RowKit

theorem ups_frame (W : World) (x : Op × Int) (_ : 0 ≤ x.1.id ∧ x.1.id ≤ 4294967295) (y : Option Addr × List Ev × Nat) (h : EvsAt W y.1 y.2.1) :
    Calls Try.prog 3 #[.agg #[.int .i64 x.1.asn, .int .i64 x.1.hold, .int .u32 x.1.id, .bool x.1.four, .int .i64 x.1.paths, .int .i64 x.2], .slice y.1 y.2.1.length y.2.2] W fun e w' => e = .returned (.bool true) ∧ Below W.heap.size W w' :=
  ups_walk W x.1 x.2 y.1 y.2.1 y.2.1.length y.2.2 h rfl
end Go.Proofs.Ytbacnjijfffobaa
