/- What the frames of frame's laws have in common: the table, a world for the witness, a message that comes by value. -/
import Derived.Test.YtondoljehdhocaaDoorF10
import Derived.Test.YtondoljehdhocaaDoorCards
import Derived.Test.YtondoljehdhocaaDoorTie
import Derived.ProofKit
import Derived.OpenShut
import Derived.ShutString
import Derived.ChangeOld
import Derived.Deep.DeepHandedRow
import Derived.Lib.LaidTab
import Derived.Lib.SmallJoins
import Derived.Below
namespace Go.Proofs.YtondoljehdhocaaDoor
open Go.ChangeShapes Go.WideShapes Go.ChangeAt Go.RowKit Go.Joins Go.Deep

theorem ownKnobs : ownKnob Tryd.prog.godebug = none := by kernel_rfl
theorem laidOut : laidOutB Tryd.prog = true := by kernel_rfl
theorem tab_named : Tryd.prog.globalNamed "bypath/frame.least" = some 0 := by kernel_rfl
theorem tab_type : (Tryd.prog.globals[0]?).map (·.type) = some 61 := by kernel_rfl
theorem tab_cells : Tryd.prog.cellsOf 61 = 5 := by kernel_rfl
theorem int_cells : Tryd.prog.cellsOf 3 = 1 := by kernel_rfl
theorem table {W : World} (h : laidMetH Tryd.prog Rows.framePutsRow.laid W) : Tab W := fun i hi => by
  have ht := Lib.tabIs_of_head (rest := []) (k := .i64) (zs := [0, 10, 4, 2, 0]) tab_named tab_type Tryd.underlying61 Tryd.underlying3 int_cells tab_cells h
  have hc := ht.cell tab_named i hi
  exact hc
def litCells : DataW Unit → Array Value
  | .agg l => (l.map fun d => match d with | .lit (.int k n) => Value.int k n | _ => undef).toArray
  | _ => #[]
def holdAt (h : Array Obj) (g : Nat) (cs : Array Value) : Array Obj := h.modify g fun
  | .cells _ t frozen => .cells cs t frozen
  | o => o
noncomputable def laidWorld (os : Os) : World :=
  { World.holding Tryd.prog os ⟨#[], #[], []⟩ with heap := holdAt (World.holding Tryd.prog os ⟨#[], #[], []⟩).heap 0 (litCells Rows.laid_bypath_frame_least) }

theorem bytes_of_trod {H : Type} {enc : TypeId × Value → H} {w : World} {base : Nat} {spare : Nat → Bool} {held : Bool} {fuel : Nat} {v : Value} {x : DataW H × List MemPlace} (h : DataW.trod enc Tryd.prog w base spare held fuel 22 [v] = some x) :
    ∃ q n c ys, v = .slice q n c ∧ BytesAt w q ys ∧ ys.length = n ∧ n ≤ c ∧ c ≤ maxLen := by
  rcases open_ints Tryd.underlying22 Tryd.underlying5 (by kernel_rfl) h with ⟨hcs, _⟩ | ⟨a, l, c, zs, hcs, _, hl, hm, hz, _, hcell, hwz⟩
  · obtain rfl : v = .slice none 0 0 := by simpa using hcs
    exact ⟨none, 0, 0, [], rfl, BytesAt.nil _ _, rfl, Nat.le_refl _, by unfold maxLen; omega⟩
  · obtain rfl : v = .slice (some a) l c := by simpa using hcs
    have hlz : l ≤ zs.length := by rw [hz]; split <;> omega
    obtain ⟨ys, hy1, hy2⟩ := bytesOfArg (c := zs.length) hlz rfl hcell hwz
    exact ⟨some a, l, c, ys, rfl, hy2, hy1.symm, hl, hm⟩

theorem msg_under : Tryd.prog.underlying 24 = some (.struct (Tryd.prog.fieldsOf 24)) := by kernel_rfl
theorem msg_one : oneCellFields Tryd.prog (Tryd.prog.fieldsOf 24) = true := by kernel_rfl
theorem msg_size : Tryd.prog.cellsOf 24 = 2 := by kernel_rfl
theorem msg_types : (Tryd.prog.fieldsOf 24).toList.map (·.type) = [3, 22] := by kernel_rfl
theorem open_msg {H : Type} {enc : TypeId × Value → H} {w : World} {base b0 : Nat} {spare : Nat → Bool} {held : Bool} {r : Reach} {v : Value} {d : DataW H} {p : List MemPlace} (hv : Value.okWide Tryd.prog w r b0 24 v) (h : DataW.Trod enc Tryd.prog w base spare held 24 v d p) :
    ∃ (k : Int) (q : Option Addr) (ys : List Int) (n c : Nat), v = .agg #[.int .i64 k, .slice q n c] ∧ (Lit.int .i64 k).wf = true ∧ BytesAt w q ys ∧ ys.length = n ∧ n ≤ c ∧ c ≤ maxLen := by
  have hu := msg_under
  have h1 := msg_one
  have ht := msg_types
  obtain ⟨f0, f1, hf⟩ := array2 (cs := Tryd.prog.fieldsOf 24) (by simpa using congrArg List.length ht)
  rw [hf] at hu h1 ht
  obtain ⟨t0, t1⟩ : f0.type = 3 ∧ f1.type = 22 := by simpa using ht
  obtain ⟨v0, v1, y0, y1, n, rfl, _, _, h0, h1⟩ := open_agg2 hu h1 msg_size hv h
  rw [t0] at h0
  rw [t1] at h1
  obtain ⟨a, e0, _, w0⟩ := DataW.trod_int Tryd.underlying3 h0
  obtain ⟨q, n, c, ys, rfl, hb, hn, hc, hm⟩ := bytes_of_trod h1
  cases e0
  exact ⟨a, q, ys, n, c, rfl, w0, hb, hn, hc, hm⟩

theorem tells_walk (w : World) (ht : Tab w) (k : Int) (q : Option Addr) (ys : List Int) (n c : Nat) (hb : BytesAt w q ys) (hn : ys.length = n) (hc : n ≤ c) (hm : c ≤ maxLen) :
    Calls Tryd.prog 7 #[.agg #[.int .i64 k, .slice q n c]] w fun e w' => e = .returned (.bool true) ∧ Below w.heap.size w w' :=
  tells_law k q ys n c w ht hb hn (by unfold maxLen at hm; omega)
end Go.Proofs.YtondoljehdhocaaDoor
