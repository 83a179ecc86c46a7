/- trie: TrieOrders's walk, of its arguments as they come. -/
import Derived.Test.YtpamkckhhffgdaaTU
import Derived.Test.YtpamkckhhffgdaaCdY
namespace Go.Proofs.Ytpamkckhhffgdaa
open Go.RowKit

theorem orders_frame (W : World) (x : Option Addr × List (Int × Int) × Nat) (g : PfsArg W x) (tn : Int) (wt : (Lit.int .i64 tn).wf = true) (a : Int) (a0 : 0 ≤ a) (a1 : a ≤ 4294967295) :
    Calls Try.prog 4 #[.slice x.1 x.2.1.length x.2.2, .int .i64 tn, .int .u32 a] W fun e w' => e = .returned (.bool true) ∧ Below W.heap.size W w' := by
  have h : IntKind.i64.min ≤ tn ∧ tn ≤ IntKind.i64.max := by simpa [Lit.wf] using wt
  rw [show IntKind.i64.min = -9223372036854775808 from rfl, show IntKind.i64.max = 9223372036854775807 from rfl] at h
  exact orders_walk W x g.at_ g.ok tn h.1 h.2 a a0 a1
end Go.Proofs.Ytpamkckhhffgdaa
