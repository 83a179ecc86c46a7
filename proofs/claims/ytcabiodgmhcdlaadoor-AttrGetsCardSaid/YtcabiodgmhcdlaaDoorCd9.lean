/- AttrGets's walk, as its frame takes it. -/
import Derived.Test.YtcabiodgmhcdlaaDoorBg
import Derived.Test.YtcabiodgmhcdlaaDoorCdQ
import Derived.Test.YtcabiodgmhcdlaaDoorCards
import Derived.Test.YtcabiodgmhcdlaaDoorTie
import Derived.Lib.LaidTab
namespace Go.Proofs.YtcabiodgmhcdlaaDoor
open Go.ChangeShapes Go.WideShapes Go.ChangeAt Go.RowKit Go.Joins Go.Deep

theorem tab_named : Tryd.prog.globalNamed "bypath/attr.ownFlags" = some 0 := by kernel_rfl
theorem tab_type : (Tryd.prog.globals[0]?).map (·.type) = some 77 := by kernel_rfl
theorem tab_cells : Tryd.prog.cellsOf 77 = 9 := by kernel_rfl
theorem int_cells : Tryd.prog.cellsOf 3 = 1 := by kernel_rfl
theorem table {W : World} (h : laidMetH Tryd.prog Rows.attrGetsRow.laid W) : Tab W := fun i hi => by
  have ht := Lib.tabIs_of_head (rest := []) (k := .i64) (zs := [0, 64, 64, 64, 128, 64, 0, 0, 192]) tab_named tab_type Tryd.underlying77 Tryd.underlying3 int_cells tab_cells h
  have hc := ht.cell tab_named i hi
  exact hc
def litCells : DataW Unit → Array Value
  | .agg l => (l.map fun d => match d with | .lit (.int k n) => Value.int k n | _ => undef).toArray
  | _ => #[]
def holdAt (h : Array Obj) (g : Nat) (cs : Array Value) : Array Obj := h.modify g fun
  | .cells _ t frozen => .cells cs t frozen
  | o => o
noncomputable def laidWorld (os : Os) : World :=
  { World.holding Tryd.prog os ⟨#[], #[], []⟩ with heap := holdAt (World.holding Tryd.prog os ⟨#[], #[], []⟩).heap 0 (litCells Rows.laid_bypath_attr_ownFlags) }
theorem gets_walk (w : World) (ht : Tab w) (q : Option Addr) (ys : List Int) (c : Nat) (hb : BytesAt w q ys) (_ : ys.length ≤ c) (_ : c ≤ maxLen) (four : Bool) :
    Calls Tryd.prog 4 #[.slice q ys.length c, .bool four] w fun e w' => e = .returned (.bool true) ∧ Below w.heap.size w w' :=
  attrGets_any q ys ys.length c four w ht hb rfl
end Go.Proofs.YtcabiodgmhcdlaaDoor
