/- fsm: FsmHolds's walk, of its arguments as they come. -/
import Derived.Test.YtckggjpdonfekaaHG
import Derived.Test.YtckggjpdonfekaaCdF
namespace Go.Proofs.Ytckggjpdonfekaa
open Go.RowKit

theorem holds_frame (W : World) (x : Op × Int) (g : 0 ≤ x.1.id ∧ x.1.id ≤ 4294967295) (hold : Int) {P1 : Prop} (_ : P1) :
    Calls Try.prog 4 #[.agg #[.int .i64 x.1.asn, .int .i64 x.1.hold, .int .u32 x.1.id, .bool x.1.four, .int .i64 x.1.paths, .int .i64 x.2], .int .i64 hold] W fun e w' => e = .returned (.bool true) ∧ Below W.heap.size W w' :=
  holds_walk W x.1 x.2 hold g.1 g.2
end Go.Proofs.Ytckggjpdonfekaa
