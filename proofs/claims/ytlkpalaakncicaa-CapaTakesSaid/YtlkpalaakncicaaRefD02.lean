/- The document's own Within, Compare, Bit. -/
import Derived.Test.YtlkpalaakncicaaRefC02
namespace Go.Proofs.Ytlkpalaakncicaa
open Go.RowKit

theorem within_no1 {a n b m : Int} (h0 : 0 ≤ b) (h1 : b < 4294967296) (h : okP a n = false) : withinP a n b m = false := by
  unfold withinP; rw [holds_no h0 h1 h]; simp
/-- What stands of two prefixes' boxes. -/
def Two (w W : World) (a n b m : Int) : Prop := Box W w.heap.size (.int .u32 a) (.int .i64 n) ∧ Box W (w.heap.size + 1) (.int .u32 b) (.int .i64 m) ∧ Below w.heap.size w W
theorem Two.below {w W W' : World} {a n b m : Int} (h : Two w W a n b m) (hb : Below W.heap.size W W') : Two w W' a n b m := ⟨h.1.below hb, h.2.1.below hb, h.2.2.trans (hb.mono h.2.2.size)⟩
theorem two_new (w : World) (a n b m : Int) : Two w ((w.alloc (.cells #[.int .u32 a, .int .i64 n] 32)).alloc (.cells #[.int .u32 b, .int .i64 m] 32)) a n b m :=
  ⟨(Box.two w _ _ _ _).1, (Box.two w _ _ _ _).2, below_two w _ _⟩
end Go.Proofs.Ytlkpalaakncicaa
