/- update: UpdateShort, as its frame takes it. -/
import Derived.Test.YtpeagakpmjnelaaDoorUqG
import Derived.Test.YtpeagakpmjnelaaDoorUpY
namespace Go.Proofs.YtpeagakpmjnelaaDoor
open Go.RowKit
theorem short_arg (w : World) (ht : Ax.Tab w) (x : Ax.Upd × Ax.ULoc) (hx : Ax.UpAt w x.1 x.2 ∧ 0 ≤ x.1.a.next ∧ x.1.a.next ≤ 4294967295) (four paths : Bool) (n : Int) (_ : (Lit.int .i64 n).wf = true) :
    Calls Tryd.prog 6 #[.agg (Ax.updL x.1 x.2).toArray, .bool four, .bool paths, .int .i64 n] w fun e w' => e = .returned (.bool true) ∧ Below w.heap.size w w' :=
  Ax.short_walk x.1 x.2 four paths n w ht hx.1
end Go.Proofs.YtpeagakpmjnelaaDoor
