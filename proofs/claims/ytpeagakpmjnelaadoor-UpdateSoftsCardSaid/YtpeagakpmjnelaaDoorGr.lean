/- A list of bytes that grows beside a block that stands. -/
import Derived.Test.YtpeagakpmjnelaaDoorByA
namespace Go.Proofs.YtpeagakpmjnelaaDoor.Ax
open Go.RowKit
set_option maxRecDepth 100000

/-- What is kept between the steps of a list of bytes that grows. -/
structure GrowSt (W : World) (B g : Nat) (t : TypeId) (vs : List Value) (w : World) (q : Option Addr) (cap : Nat) (xs : List Int) : Prop where
  own : Own w B q cap xs
  blk : Blk w g t vs
  bel : Below B W w
  hg : g < B
  hB : B ≤ w.heap.size
theorem GrowSt.next {W w w' : World} {B g : Nat} {t : TypeId} {vs : List Value} {q : Option Addr} {cap : Nat} {xs : List Int} (h : GrowSt W B g t vs w q cap xs) (hb : Below w.heap.size w w') : GrowSt W B g t vs w' q cap xs :=
  ⟨h.own.below hb, h.blk.next hb, h.bel.trans (hb.mono h.hB), h.hg, Nat.le_trans h.hB hb.size⟩
theorem GrowSt.app {W w w' : World} {B g : Nat} {t : TypeId} {vs : List Value} {q q' : Option Addr} {cap cap' : Nat} {xs ys : List Int} (h : GrowSt W B g t vs w q cap xs) (hO : Own w' B q' cap' ys) (hb : Below B w w') : GrowSt W B g t vs w' q' cap' ys :=
  ⟨hO, h.blk.below hb h.hg, h.bel.trans hb, h.hg, Nat.le_trans h.hB hb.size⟩
theorem GrowSt.drew {W w : World} {B g : Nat} {t : TypeId} {vs : List Value} {q : Option Addr} {cap : Nat} {xs : List Int} (h : GrowSt W B g t vs w q cap xs) : GrowSt W B g t vs w.drew q cap xs :=
  h.next (Below.refl _ _).drew
end Go.Proofs.YtpeagakpmjnelaaDoor.Ax
