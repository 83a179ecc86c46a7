/- AttrTwice's walk, as its frame takes it. -/
import Derived.Test.YtcabiodgmhcdlaaDoorAW
import Derived.Test.YtcabiodgmhcdlaaDoorCd6
namespace Go.Proofs.YtcabiodgmhcdlaaDoor
open Go.ChangeShapes Go.WideShapes Go.ChangeAt Go.RowKit Go.Joins Go.Deep

theorem twice_walk (w : World) (ht : Tab w) (x : At × Loc) (ha : AtAt w x.1 x.2) (y : At × Loc) (hc : AtAt w y.1 y.2) (K : Int) (_ : (Lit.int .i64 K).wf = true) (q : Option Addr) (ys : List Int) (c : Nat) (hb : BytesAt w q ys) (_ : ys.length ≤ c) (_ : c ≤ maxLen) (four : Bool) :
    Calls Tryd.prog 5 #[.agg (atL x.1 x.2).toArray, .agg (atL y.1 y.2).toArray, .int .i64 K, .slice q ys.length c, .bool four] w fun e w' => e = .returned (.bool true) ∧ Below w.heap.size w w' :=
  attrTwice_any x.1 y.1 x.2 y.2 K q ys ys.length c four w ht ha hc hb rfl
end Go.Proofs.YtcabiodgmhcdlaaDoor
