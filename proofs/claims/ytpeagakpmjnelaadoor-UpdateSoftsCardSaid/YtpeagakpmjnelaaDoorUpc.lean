/- update: UpdateSofts, as its frame takes it. -/
import Derived.Test.YtpeagakpmjnelaaDoorUqG
import Derived.Test.YtpeagakpmjnelaaDoorUpa
namespace Go.Proofs.YtpeagakpmjnelaaDoor
open Go.RowKit
theorem softs_arg (w : World) (ht : Ax.Tab w) (x : Option Addr × List Nl × Nat) (hx : NlsArg w x) (y : Option Addr × List Nl × Nat) (hy : NlsArg w y) (s : Option Addr) (z : List Int) (c : Nat) (hb : BytesAt w s z) (hle : z.length ≤ c) (hm : c ≤ maxLen) (four paths : Bool) :
    Calls Tryd.prog 4 #[.slice x.1 x.2.1.length x.2.2, .slice y.1 y.2.1.length y.2.2, .slice s z.length c, .bool four, .bool paths] w fun e w' => e = .returned (.bool true) ∧ Below w.heap.size w w' :=
  Ax.softs_any _ _ _ _ _ _ _ _ _ _ _ _ four paths w ht hx.at_ hy.at_ hb rfl rfl rfl (Nat.le_trans hx.le hx.max) (Nat.le_trans hy.le hy.max) (Nat.le_trans hle hm)
end Go.Proofs.YtpeagakpmjnelaaDoor
