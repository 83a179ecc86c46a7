/- What the frames of addr's laws have in common: the table out of a row's list, a world for the witness, a prefix that comes by value. -/
import Derived.Test.YtpmdmkemlbpnjaaDoorPs7
import Derived.Test.YtpmdmkemlbpnjaaDoorCards
import Derived.Test.YtpmdmkemlbpnjaaDoorTie
import Derived.WalkKit
import Derived.ProofKit
import Derived.OpenShut
import Derived.ShutString
import Derived.ChangeOld
import Derived.OpenShut
import Derived.Deep.DeepHandedRow
import Derived.Lib.LaidTab
import Derived.Lib.SmallJoins
import Derived.Below
namespace Go.Proofs.YtpmdmkemlbpnjaaDoor
open Go.ChangeShapes Go.WideShapes Go.ChangeAt Go.RowKit Go.Joins Go.Deep

theorem ownKnobs : ownKnob Tryd.prog.godebug = none := by kernel_rfl
theorem laidOut : laidOutB Tryd.prog = true := by kernel_rfl
theorem pow_type : (Tryd.prog.globals[1]?).map (·.type) = some 81 := by kernel_rfl
theorem pow_under : Tryd.prog.underlying 81 = some (.array 20 73) := by kernel_rfl
theorem pow_elem : Tryd.prog.underlying 73 = some (.int .u64) := by kernel_rfl
theorem pow_cells : Tryd.prog.cellsOf 81 = 20 := by kernel_rfl
theorem pow_cell : Tryd.prog.cellsOf 73 = 1 := by kernel_rfl

/-- What the rows' list gives: the table that texts of numbers read. -/
theorem table {W : World} (h : laidMetH Tryd.prog Rows.addrParsesRow.laid W) : Tab W := by
  have h : laidMet Tryd.prog Rows.addrParsesRow.laid W := h
  obtain ⟨ps, ⟨_, _, _, _, _, _, _, _, _, _, ⟨_, _, _, _, _, _, _, _, _, _, ⟨g, t, cs, fuel, p, q, hg, ht, hv, hd, _, _⟩, _⟩, _⟩, _⟩ := h
  obtain rfl := Option.some.inj (tab_named.symm.trans hg)
  obtain rfl := Option.some.inj (pow_type.symm.trans ht)
  unfold Tab Lib.TabIs
  have hd' : DataW.trod (fun _ => ()) Tryd.prog W 0 (fun _ => true) false fuel 81 cs.toList = some (Lib.tabData .u64 Lib.pow10Tab, p) := hd
  rw [hv, ← Lib.cells_of_tab pow_under pow_elem pow_cell pow_cells hd']

/-- The cells of a table as a row lists it. -/
def litCells : DataW Unit → Array Value
  | .agg l => (l.map fun d => match d with | .lit (.int k n) => Value.int k n | _ => undef).toArray
  | _ => #[]
def holdAt (h : Array Obj) (g : Nat) (cs : Array Value) : Array Obj := h.modify g fun
  | .cells _ t frozen => .cells cs t frozen
  | o => o
/-- A world for the witness: the settled one, the three tables holding what their initialisers lay. -/
noncomputable def laidWorld (os : Os) : World :=
  { World.holding Tryd.prog os ⟨#[], #[], []⟩ with heap := holdAt (holdAt (holdAt (World.holding Tryd.prog os ⟨#[], #[], []⟩).heap
      2 (litCells Rows.laid_math_bits_deBruijn32tab)) 3 (litCells Rows.laid_math_bits_deBruijn64tab)) 1 (litCells Rows.laid_internal_strconv_uint64pow10) }

theorem pfx_one : oneCellFields Tryd.prog (Tryd.prog.fieldsOf 25) = true := by kernel_rfl
theorem pfx_size : Tryd.prog.cellsOf 25 = 2 := by kernel_rfl
theorem pfx_types : (Tryd.prog.fieldsOf 25).toList.map (·.type) = [23, 3] := by kernel_rfl

/-- A prefix that comes by value: its address and its length. -/
theorem open_pfx {H : Type} {enc : TypeId × Value → H} {w : World} {base b0 : Nat} {spare : Nat → Bool} {held : Bool} {r : Reach} {v : Value} {d : DataW H} {p : List MemPlace} (hv : Value.okWide Tryd.prog w r b0 25 v) (h : DataW.Trod enc Tryd.prog w base spare held 25 v d p) :
    ∃ a n : Int, v = .agg #[.int .u32 a, .int .i64 n] ∧ (Lit.int .u32 a).wf = true ∧ (Lit.int .i64 n).wf = true := by
  have hu := pfx_under
  have h1 := pfx_one
  have ht := pfx_types
  obtain ⟨f0, f1, hf⟩ := array2 (cs := Tryd.prog.fieldsOf 25) (by simpa using congrArg List.length ht)
  rw [hf] at hu h1 ht
  obtain ⟨t0, t1⟩ : f0.type = 23 ∧ f1.type = 3 := by simpa using ht
  obtain ⟨v0, v1, y0, y1, n, rfl, _, _, h0, h1⟩ := open_agg2 hu h1 pfx_size hv h
  rw [t0] at h0
  rw [t1] at h1
  obtain ⟨a, e0, _, w0⟩ := DataW.trod_int Tryd.underlying23 h0
  obtain ⟨b, e1, _, w1⟩ := DataW.trod_int Tryd.underlying3 h1
  cases e0; cases e1
  exact ⟨a, b, rfl, w0, w1⟩

theorem u32_range {a : Int} (h : (Lit.int .u32 a).wf = true) : 0 ≤ a ∧ a < 4294967296 := by
  have h : IntKind.u32.min ≤ a ∧ a ≤ IntKind.u32.max := by simpa [Lit.wf] using h
  rw [show IntKind.u32.min = 0 from rfl, show IntKind.u32.max = 4294967295 from rfl] at h
  omega

end Go.Proofs.YtpmdmkemlbpnjaaDoor
