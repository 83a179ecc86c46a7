/- trie: TrieGone's walk, of its arguments as they come. -/
import Derived.Test.YtipecocalmmmbaaTGb
import Derived.Test.YtipecocalmmmbaaCdY
namespace Go.Proofs.Ytipecocalmmmbaa
open Go.RowKit

theorem gone_frame (W : World) (x : Option Addr × List (Int × Int) × Nat) (g : PfsArg W x) (y : Option Addr × List (Int × Int) × Nat) (h : PfsArg W y) :
    Calls Try.prog 5 #[.slice x.1 x.2.1.length x.2.2, .slice y.1 y.2.1.length y.2.2] W fun e w' => e = .returned (.bool true) ∧ Below W.heap.size W w' :=
  gone_walk W x y g.at_ g.ok h.at_ h.ok
end Go.Proofs.Ytipecocalmmmbaa
