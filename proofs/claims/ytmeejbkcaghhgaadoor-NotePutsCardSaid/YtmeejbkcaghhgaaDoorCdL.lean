/- What the frame of 'NotePuts' wants beside: its tables, a world for the witness. -/
import Derived.Test.YtmeejbkcaghhgaaDoorNtB
import Derived.Test.YtmeejbkcaghhgaaDoorCdK
namespace Go.Proofs.YtmeejbkcaghhgaaDoor
open Go.ChangeShapes Go.WideShapes Go.ChangeAt Go.RowKit Go.Joins Go.Deep

theorem lst_named : Tryd.prog.globalNamed "bypath/frame.least" = some 1 := by kernel_rfl
theorem lst_type : (Tryd.prog.globals[1]?).map (·.type) = some 49 := by kernel_rfl
theorem lst_under : Tryd.prog.underlying 49 = some (.array 5 3) := by kernel_rfl
theorem lst_elem : Tryd.prog.underlying 3 = some (.int .i64) := by kernel_rfl
theorem lst_cells : Tryd.prog.cellsOf 49 = 5 := by kernel_rfl
theorem lst_cell : Tryd.prog.cellsOf 3 = 1 := by kernel_rfl
theorem tabL_of {W : World} {cs : Array Value} {fuel : Nat} {p : List MemPlace} (hv : W.var? Tryd.prog "bypath/frame.least" = some cs)
    (hd : DataW.trod (fun _ => ()) Tryd.prog W 0 (fun _ => true) false fuel 49 cs.toList = some (Lib.tabData .i64 [0, 10, 4, 2, 0], p)) : Tab W := fun i hi => by
  have ht : Lib.TabIs Tryd.prog W "bypath/frame.least" .i64 [0, 10, 4, 2, 0] := by
    unfold Lib.TabIs
    rw [hv, ← Lib.cells_of_tab lst_under lst_elem lst_cell lst_cells hd]
  exact ht.cell lst_named i hi
theorem tableP {W : World} (h : laidMetH Tryd.prog Rows.notePutsRow.laid W) : Tabs W ∧ Tab W := by
  have h : laidMet Tryd.prog Rows.notePutsRow.laid W := h
  obtain ⟨ps, ⟨_, _, _, _, _, _, _, _, _, _, ⟨_, _, _, _, _, _, _, _, _, _, ⟨g, t, cs, fuel, p, q, hg, ht, hv, hd, ⟨g1, t1, cs1, fuel1, p1, q1, hg1, ht1, hv1, hd1, ⟨g2, t2, cs2, fuel2, p2, q2, hg2, ht2, hv2, hd2, _, _⟩, _⟩, _⟩, _⟩, _⟩, _⟩ := h
  obtain rfl := Option.some.inj (tabI_named.symm.trans hg)
  obtain rfl := Option.some.inj (pow_type.symm.trans ht)
  obtain rfl := Option.some.inj (lst_named.symm.trans hg1)
  obtain rfl := Option.some.inj (lst_type.symm.trans ht1)
  obtain rfl := Option.some.inj (nam_named.symm.trans hg2)
  obtain rfl := Option.some.inj (nam_type.symm.trans ht2)
  exact ⟨⟨tabI_of hv hd, tabN_of hv2 hd2⟩, tabL_of hv1 hd1⟩
noncomputable def laidWorldP (os : Os) : World :=
  { World.holding Tryd.prog os ⟨#[], #[], []⟩ with heap := holdAt (holdAt (holdAt (holdAt (holdAt (World.holding Tryd.prog os ⟨#[], #[], []⟩).heap
      3 (litCells Rows.laid_math_bits_deBruijn32tab)) 4 (litCells Rows.laid_math_bits_deBruijn64tab)) 2 (litCells Rows.laid_internal_strconv_uint64pow10)) 0 (litCells Rows.laid_bypath_note_names)) 1 (litCells Rows.laid_bypath_frame_least) }
theorem puts_walk (w : World) (ht : Tabs w ∧ Tab w) (x : Int × Int × List Int × Option Addr × Nat) (hx : NoteAt w x) :
    Calls Tryd.prog 3 #[noteX x] w fun e w' => e = .returned (.bool true) ∧ Below w.heap.size w w' :=
  puts_go w ht.1 ht.2 x.1 x.2.1 x.2.2.2.1 x.2.2.1 x.2.2.2.2 hx.1 hx.2.1
end Go.Proofs.YtmeejbkcaghhgaaDoor
