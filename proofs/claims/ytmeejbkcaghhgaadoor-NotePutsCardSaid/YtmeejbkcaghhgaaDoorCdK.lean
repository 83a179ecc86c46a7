/- What the frames of note's laws have in common: the tables, a world for the witness, a note that comes by value. -/
import Derived.Test.YtmeejbkcaghhgaaDoorNtA
import Derived.Test.YtmeejbkcaghhgaaDoorCards
import Derived.Test.YtmeejbkcaghhgaaDoorTie
import Derived.WalkKit
import Derived.ProofKit
import Derived.OpenShut
import Derived.ShutString
import Derived.ChangeOld
import Derived.Deep.DeepHandedRow
import Derived.Lib.LaidTab
import Derived.Lib.SmallJoins
import Derived.Below
namespace Go.Proofs.YtmeejbkcaghhgaaDoor
open Go.ChangeShapes Go.WideShapes Go.ChangeAt Go.RowKit Go.Joins Go.Deep

theorem ownKnobs : ownKnob Tryd.prog.godebug = none := by kernel_rfl
theorem laidOut : laidOutB Tryd.prog = true := by kernel_rfl
theorem pow_type : (Tryd.prog.globals[2]?).map (·.type) = some 59 := by kernel_rfl
theorem pow_under : Tryd.prog.underlying 59 = some (.array 20 52) := by kernel_rfl
theorem pow_elem : Tryd.prog.underlying 52 = some (.int .u64) := by kernel_rfl
theorem pow_cells : Tryd.prog.cellsOf 59 = 20 := by kernel_rfl
theorem pow_cell : Tryd.prog.cellsOf 52 = 1 := by kernel_rfl
theorem nam_named : Tryd.prog.globalNamed "bypath/note.names" = some 0 := by kernel_rfl
theorem nam_type : (Tryd.prog.globals[0]?).map (·.type) = some 42 := by kernel_rfl
theorem nam_under : Tryd.prog.underlying 42 = some (.array 7 9) := by kernel_rfl
theorem nam_elem : Tryd.prog.underlying 9 = some .string := by kernel_rfl
theorem nam_cells : Tryd.prog.cellsOf 42 = 7 := by kernel_rfl
theorem nam_cell : Tryd.prog.cellsOf 9 = 1 := by kernel_rfl

def strData {H : Type} (l : List (List UInt8)) : DataW H := .agg (l.map fun s => .lit (.string s))
/-- An array of texts that reads as the table holds the table's texts, cell for cell. -/
theorem cells_of_strs {H : Type} {enc : TypeId × Value → H} {P : Program} {w : World} {base : Nat} {sp : Nat → Bool} {held : Bool} {fuel : Nat} {t e : TypeId} {n : Nat} {cs : List Value} {zs : List (List UInt8)} {p : List MemPlace}
    (ht : P.underlying t = some (.array n e)) (he : P.underlying e = some .string) (hce : P.cellsOf e = 1) (hct : P.cellsOf t = n)
    (h : DataW.trod enc P w base sp held fuel t cs = some (strData zs, p)) : cs = zs.map fun z => Value.string ⟨z.toArray⟩ := by
  cases fuel with
  | zero => simp [DataW.trod] at h
  | succ fuel =>
    simp only [DataW.trod, ht, hce, hct, Nat.mul_one] at h
    split at h
    · rename_i hl
      obtain ⟨xs, hm, hx⟩ := Option.map_eq_some_iff.1 h
      have hxs : xs.map (·.1) = zs.map fun z => (DataW.lit (.string z) : DataW H) := by
        have := congrArg Prod.fst hx
        simpa [strData] using this
      have hxl : xs.length = n := by simpa using Lib.mapM_length hm
      have hzl : zs.length = n := by
        have := congrArg List.length hxs
        simp at this
        omega
      apply List.ext_getElem?
      intro i
      by_cases hi : i < n
      · obtain ⟨b, hb, hf⟩ := Lib.mapM_at hm i i (by simp [hi])
        obtain ⟨z, hc, rfl, _⟩ := DataW.trod_string he hf
        have h1 : cs[i]? = some (.string z) := by
          have := congrArg (·[0]?) hc
          simpa [List.getElem?_take, List.getElem?_drop] using this
        have h2 : (xs.map (·.1))[i]? = some (DataW.lit (.string z.data.toList) : DataW H) := by simp [hb]
        rw [hxs] at h2
        simp only [List.getElem?_map, Option.map_eq_some_iff, DataW.lit.injEq, Lit.string.injEq] at h2
        obtain ⟨z', hz', e⟩ := h2
        rw [h1, List.getElem?_map, hz']
        simp [e]
      · rw [List.getElem?_eq_none (by omega), List.getElem?_eq_none (by simp; omega)]
    · cases h

theorem tabN_of {W : World} {cs : Array Value} {fuel : Nat} {p : List MemPlace} (hv : W.var? Tryd.prog "bypath/note.names" = some cs)
    (hd : DataW.trod (fun _ => ()) Tryd.prog W 0 (fun _ => true) false fuel 42 cs.toList = some (strData nameL, p)) : TabN W := fun i hi => by
  have e := cells_of_strs nam_under nam_elem nam_cell nam_cells hd
  have hc := World.var?_cell nam_named hv i
  rw [hc, ← Array.getElem?_toList, e]
  have : i < nameL.length := hi
  simp [List.getD, List.getElem?_eq_getElem this]
theorem tabI_of {W : World} {cs : Array Value} {fuel : Nat} {p : List MemPlace} (hv : W.var? Tryd.prog "internal/strconv.uint64pow10" = some cs)
    (hd : DataW.trod (fun _ => ()) Tryd.prog W 0 (fun _ => true) false fuel 59 cs.toList = some (Lib.tabData .u64 Lib.pow10Tab, p)) : TabI W := by
  unfold TabI Lib.TabIs
  rw [hv, ← Lib.cells_of_tab pow_under pow_elem pow_cell pow_cells hd]

theorem tableG {W : World} (h : laidMetH Tryd.prog Rows.noteGetsRow.laid W) : Tabs W := by
  have h : laidMet Tryd.prog Rows.noteGetsRow.laid W := h
  obtain ⟨ps, ⟨_, _, _, _, _, _, _, _, _, _, ⟨_, _, _, _, _, _, _, _, _, _, ⟨g, t, cs, fuel, p, q, hg, ht, hv, hd, ⟨g2, t2, cs2, fuel2, p2, q2, hg2, ht2, hv2, hd2, _, _⟩, _⟩, _⟩, _⟩, _⟩ := h
  obtain rfl := Option.some.inj (tabI_named.symm.trans hg)
  obtain rfl := Option.some.inj (pow_type.symm.trans ht)
  obtain rfl := Option.some.inj (nam_named.symm.trans hg2)
  obtain rfl := Option.some.inj (nam_type.symm.trans ht2)
  exact ⟨tabI_of hv hd, tabN_of hv2 hd2⟩

def litCells : DataW Unit → Array Value
  | .agg l => (l.map fun d => match d with | .lit (.int k n) => Value.int k n | .lit (.string s) => Value.string ⟨s.toArray⟩ | _ => undef).toArray
  | _ => #[]
def holdAt (h : Array Obj) (g : Nat) (cs : Array Value) : Array Obj := h.modify g fun
  | .cells _ t frozen => .cells cs t frozen
  | o => o
noncomputable def laidWorld (os : Os) : World :=
  { World.holding Tryd.prog os ⟨#[], #[], []⟩ with heap := holdAt (holdAt (holdAt (holdAt (World.holding Tryd.prog os ⟨#[], #[], []⟩).heap
      3 (litCells Rows.laid_math_bits_deBruijn32tab)) 4 (litCells Rows.laid_math_bits_deBruijn64tab)) 2 (litCells Rows.laid_internal_strconv_uint64pow10)) 0 (litCells Rows.laid_bypath_note_names) }

theorem bytes_of_trod {H : Type} {enc : TypeId × Value → H} {w : World} {base : Nat} {spare : Nat → Bool} {held : Bool} {fuel : Nat} {v : Value} {x : DataW H × List MemPlace} (h : DataW.trod enc Tryd.prog w base spare held fuel 22 [v] = some x) :
    ∃ q n c ys, v = .slice q n c ∧ BytesAt w q ys ∧ ys.length = n ∧ n ≤ c ∧ c ≤ maxLen := by
  rcases open_ints Tryd.underlying22 Tryd.underlying5 (by kernel_rfl) h with ⟨hcs, _⟩ | ⟨a, l, c, zs, hcs, _, hl, hm, hz, _, hcell, hwz⟩
  · obtain rfl : v = .slice none 0 0 := by simpa using hcs
    exact ⟨none, 0, 0, [], rfl, BytesAt.nil _ _, rfl, Nat.le_refl _, by unfold maxLen; omega⟩
  · obtain rfl : v = .slice (some a) l c := by simpa using hcs
    have hlz : l ≤ zs.length := by rw [hz]; split <;> omega
    obtain ⟨ys, hy1, hy2⟩ := bytesOfArg (c := zs.length) hlz rfl hcell hwz
    exact ⟨some a, l, c, ys, rfl, hy2, hy1.symm, hl, hm⟩
theorem open_bytes {H : Type} {enc : TypeId × Value → H} {w : World} {base b0 : Nat} {spare : Nat → Bool} {held : Bool} {r : Reach} {v : Value} {d : DataW H} {p : List MemPlace} (hv : Value.okWide Tryd.prog w r b0 22 v) (h : DataW.Trod enc Tryd.prog w base spare held 22 v d p) :
    ∃ (q : Option Addr) (ys : List Int) (c : Nat), v = .slice q ys.length c ∧ BytesAt w q ys ∧ ys.length ≤ c ∧ c ≤ maxLen := by
  obtain ⟨a0, len0, cap0, rfl⟩ := okWide_slice Tryd.underlying22 hv
  obtain ⟨fuel, hf⟩ := h
  rcases open_ints Tryd.underlying22 Tryd.underlying5 (by kernel_rfl) hf with ⟨hcs, _⟩ | ⟨a, l, c, zs, hcs, _, hl, hm, hz, _, hcell, hwz⟩
  · simp [Value.cells] at hcs
    obtain ⟨rfl, rfl, rfl⟩ := hcs
    exact ⟨none, [], 0, rfl, BytesAt.nil _ _, Nat.le_refl _, by unfold maxLen; omega⟩
  · simp [Value.cells] at hcs
    obtain ⟨rfl, rfl, rfl⟩ := hcs
    have hlz : len0 ≤ zs.length := by rw [hz]; split <;> omega
    obtain ⟨ys, hy1, hy2⟩ := bytesOfArg (c := zs.length) hlz rfl hcell hwz
    exact ⟨some a, ys, cap0, by rw [hy1], hy2, by omega, hm⟩

theorem note_under : Tryd.prog.underlying 24 = some (.struct (Tryd.prog.fieldsOf 24)) := by kernel_rfl
theorem note_one : oneCellFields Tryd.prog (Tryd.prog.fieldsOf 24) = true := by kernel_rfl
theorem note_size : Tryd.prog.cellsOf 24 = 3 := by kernel_rfl
theorem note_types : (Tryd.prog.fieldsOf 24).toList.map (·.type) = [3, 3, 22] := by kernel_rfl
theorem arr_three {α : Type} {cs : Array α} (h : cs.size = 3) : ∃ a b c, cs = #[a, b, c] := by
  obtain ⟨l⟩ := cs
  match l, h with
  | [a, b, c], _ => exact ⟨a, b, c, rfl⟩
/-- A note, as an argument. -/
def NoteAt (w : World) (x : Int × Int × List Int × Option Addr × Nat) : Prop := BytesAt w x.2.2.2.1 x.2.2.1 ∧ x.2.2.1.length ≤ x.2.2.2.2 ∧ x.2.2.2.2 ≤ maxLen
def noteX (x : Int × Int × List Int × Option Addr × Nat) : Value := .agg #[.int .i64 x.1, .int .i64 x.2.1, .slice x.2.2.2.1 x.2.2.1.length x.2.2.2.2]
theorem open_note {H : Type} {enc : TypeId × Value → H} {w : World} {base b0 : Nat} {spare : Nat → Bool} {held : Bool} {r : Reach} {v : Value} {d : DataW H} {p : List MemPlace} (hv : Value.okWide Tryd.prog w r b0 24 v) (h : DataW.Trod enc Tryd.prog w base spare held 24 v d p) :
    ∃ x, v = noteX x ∧ NoteAt w x := by
  have hu := note_under
  have h1 := note_one
  have ht := note_types
  obtain ⟨f0, f1, f2, hf⟩ := arr_three (cs := Tryd.prog.fieldsOf 24) (by simpa using congrArg List.length ht)
  rw [hf] at hu h1 ht
  obtain ⟨t0, t1, t2⟩ : f0.type = 3 ∧ f1.type = 3 ∧ f2.type = 22 := by simpa using ht
  obtain ⟨v0, v1, v2, y0, y1, y2, n, rfl, _, _, h0, h1, h2⟩ := open_agg3 hu h1 note_size hv h
  rw [t0] at h0
  rw [t1] at h1
  rw [t2] at h2
  obtain ⟨a, e0, _, w0⟩ := DataW.trod_int Tryd.underlying3 h0
  obtain ⟨b, e1, _, w1⟩ := DataW.trod_int Tryd.underlying3 h1
  obtain ⟨q, n, c, ys, rfl, hb, rfl, hc, hm⟩ := bytes_of_trod h2
  cases e0; cases e1
  exact ⟨(a, b, ys, q, c), rfl, hb, hc, hm⟩
theorem sames_walk (w : World) (ht : Tabs w) (x : Int × Int × List Int × Option Addr × Nat) (hx : NoteAt w x) (y : Int × Int × List Int × Option Addr × Nat) (hy : NoteAt w y) :
    Calls Tryd.prog 5 #[noteX x, noteX y] w fun e w' => e = .returned (.bool true) ∧ Below w.heap.size w w' :=
  sames_go w ht x.1 x.2.1 x.2.2.2.1 x.2.2.1 x.2.2.2.2 y.1 y.2.1 y.2.2.2.1 y.2.2.1 y.2.2.2.2 hx.1 hy.1
end Go.Proofs.YtmeejbkcaghhgaaDoor
