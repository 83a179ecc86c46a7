/- What the frame of 'OpenPuts' wants: the table, a world for the witness. -/
import Derived.Test.YthpadbeilecpeaaDoorOG
import Derived.Test.YthpadbeilecpeaaDoorCdO
import Derived.Test.YthpadbeilecpeaaDoorCards
import Derived.Test.YthpadbeilecpeaaDoorTie
import Derived.Lib.LaidTab
namespace Go.Proofs.YthpadbeilecpeaaDoor
open Go.ChangeShapes Go.WideShapes Go.ChangeAt Go.RowKit Go.Joins Go.Deep

theorem tab_named : Tryd.prog.globalNamed "bypath/frame.least" = some 0 := by kernel_rfl
theorem tab_type : (Tryd.prog.globals[0]?).map (·.type) = some 65 := by kernel_rfl
theorem tab_cells : Tryd.prog.cellsOf 65 = 5 := by kernel_rfl
theorem int_cells : Tryd.prog.cellsOf 3 = 1 := by kernel_rfl
theorem table {W : World} (h : laidMetH Tryd.prog Rows.openPutsRow.laid W) : Tab W := fun i hi => by
  have ht := Lib.tabIs_of_head (rest := []) (k := .i64) (zs := [0, 10, 4, 2, 0]) tab_named tab_type Tryd.underlying65 Tryd.underlying3 int_cells tab_cells h
  have hc := ht.cell tab_named i hi
  exact hc
def litCells : DataW Unit → Array Value
  | .agg l => (l.map fun d => match d with | .lit (.int k n) => Value.int k n | _ => undef).toArray
  | _ => #[]
def holdAt (h : Array Obj) (g : Nat) (cs : Array Value) : Array Obj := h.modify g fun
  | .cells _ t frozen => .cells cs t frozen
  | o => o
noncomputable def laidWorld (os : Os) : World :=
  { World.holding Tryd.prog os ⟨#[], #[], []⟩ with heap := holdAt (World.holding Tryd.prog os ⟨#[], #[], []⟩).heap 0 (litCells Rows.laid_bypath_frame_least) }
end Go.Proofs.YthpadbeilecpeaaDoor
