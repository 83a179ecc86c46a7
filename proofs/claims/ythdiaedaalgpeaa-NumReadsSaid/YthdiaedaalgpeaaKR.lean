/- The document's own Put of a number. -/
import Derived.Test.YthdiaedaalgpeaaK0
namespace Go.Proofs.Ythdiaedaalgpeaa
open Go.RowKit
def RPutRel (n : Int) (wide : Nat) (w : World) (rest i : Value) (wr : World) : Prop :=
  ∃ k : Nat, k ≤ wide ∧ i = .int .i64 ((k : Int) - 1) ∧ rest = .int .i64 (n / 256 ^ (wide - k)) ∧ Below w.heap.size w wr ∧ w.heap.size < wr.heap.size ∧ ∃ f, wr.rowIs w.heap.size 5 wide f ∧ ∀ j, k ≤ j → j < wide → f j = .int .u8 (byteOf n wide j)end Go.Proofs.Ythdiaedaalgpeaa
