/- trie: TrieWithin's walk, of its arguments as they come. -/
import Derived.Test.YtpamkckhhffgdaaTX
import Derived.Test.YtpamkckhhffgdaaCdY
namespace Go.Proofs.Ytpamkckhhffgdaa
open Go.RowKit

theorem within_frame (W : World) (x : Option Addr × List (Int × Int) × Nat) (g : PfsArg W x) (pa pn : Int) (p0 : 0 ≤ pa) (p1 : pa ≤ 4294967295) :
    Calls Try.prog 7 #[.slice x.1 x.2.1.length x.2.2, .agg #[.int .u32 pa, .int .i64 pn]] W fun e w' => e = .returned (.bool true) ∧ Below W.heap.size W w' :=
  within_walk W x g.at_ g.ok pa pn p0 p1
end Go.Proofs.Ytpamkckhhffgdaa
