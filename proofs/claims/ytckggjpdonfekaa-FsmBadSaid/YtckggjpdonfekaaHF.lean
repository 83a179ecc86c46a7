/- fsm: FsmBad's walk, of its arguments as they come. -/
import Derived.Test.YtckggjpdonfekaaHE
import Derived.Test.YtckggjpdonfekaaCdF
namespace Go.Proofs.Ytckggjpdonfekaa
open Go.RowKit

theorem bad_frame (W : World) (x : Op × Int) {P1 P2 P3 P4 : Prop} (_ : P1) (s : Ph) (_ : P2) (code : Int) (_ : P3) (sub : Int) (_ : P4) :
    Calls Try.prog 5 #[.agg #[.int .i64 x.1.asn, .int .i64 x.1.hold, .int .u32 x.1.id, .bool x.1.four, .int .i64 x.1.paths, .int .i64 x.2], .agg #[.int .i64 s.phase, .int .i64 s.hold, .bool s.four, .bool s.paths, .int .u32 s.id], .int .i64 code, .int .i64 sub] W fun e w' => e = .returned (.bool true) ∧ Below W.heap.size W w' :=
  bad_walk W x.1 x.2 s code sub
end Go.Proofs.Ytckggjpdonfekaa
