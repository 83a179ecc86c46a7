/- What a router says, as an argument. -/
import Derived.Test.YthpadbeilecpeaaDoorCdP
import Derived.Test.YthpadbeilecpeaaDoorOm
namespace Go.Proofs.YthpadbeilecpeaaDoor
open Go.ChangeShapes Go.WideShapes Go.ChangeAt Go.RowKit Go.Joins Go.Deep

theorem openT_under : Tryd.prog.underlying 24 = some (.struct (Tryd.prog.fieldsOf 24)) := by kernel_rfl
theorem openT_one : oneCellFields Tryd.prog (Tryd.prog.fieldsOf 24) = true := by kernel_rfl
theorem openT_size : Tryd.prog.cellsOf 24 = (Tryd.prog.fieldsOf 24).size := by kernel_rfl
theorem openT_types : (Tryd.prog.fieldsOf 24).map (·.type) = #[3, 3, 22, 4, 3] := by kernel_rfl
theorem openT_field (j : Nat) (t : TypeId) (h : #[3, 3, 22, 4, 3][j]? = some t) : ∃ f, (Tryd.prog.fieldsOf 24)[j]? = some f ∧ f.type = t := by
  rw [← openT_types, Array.getElem?_map] at h
  obtain ⟨f, hf, e⟩ := Option.map_eq_some_iff.1 h
  exact ⟨f, hf, e⟩
theorem open_open {H : Type} {enc : TypeId × Value → H} {w : World} {base b0 : Nat} {spare : Nat → Bool} {held : Bool} {r : Reach} {v : Value} {d : DataW H} {p : List MemPlace} (hv : Value.okWide Tryd.prog w r b0 24 v) (h : DataW.Trod enc Tryd.prog w base spare held 24 v d p) :
    ∃ o : Op, v = .agg #[.int .i64 o.asn, .int .i64 o.hold, .int .u32 o.id, .bool o.four, .int .i64 o.paths] ∧ 0 ≤ o.id ∧ o.id ≤ 4294967295 := by
  obtain ⟨cs, n, rfl, hsz, hf⟩ := open_struct openT_under openT_one openT_size hv h
  have h5 : cs.size = 5 := by
    have := congrArg Array.size openT_types
    simp at this
    omega
  obtain ⟨f0, g0, t0⟩ := openT_field 0 _ rfl
  obtain ⟨f1, g1, t1⟩ := openT_field 1 _ rfl
  obtain ⟨f2, g2, t2⟩ := openT_field 2 _ rfl
  obtain ⟨f3, g3, t3⟩ := openT_field 3 _ rfl
  obtain ⟨f4, g4, t4⟩ := openT_field 4 _ rfl
  obtain ⟨y0, h0⟩ := hf 0 f0 g0
  obtain ⟨y1, h1⟩ := hf 1 f1 g1
  obtain ⟨y2, h2⟩ := hf 2 f2 g2
  obtain ⟨y3, h3⟩ := hf 3 f3 g3
  obtain ⟨y4, h4⟩ := hf 4 f4 g4
  rw [t0] at h0
  rw [t1] at h1
  rw [t2] at h2
  rw [t3] at h3
  rw [t4] at h4
  obtain ⟨a0, e0, _, _⟩ := DataW.trod_int Tryd.underlying3 h0
  obtain ⟨a1, e1, _, _⟩ := DataW.trod_int Tryd.underlying3 h1
  obtain ⟨a2, e2, _, w2⟩ := DataW.trod_int Tryd.underlying22 h2
  obtain ⟨a3, e3, _⟩ := DataW.trod_bool Tryd.underlying4 h3
  obtain ⟨a4, e4, _, _⟩ := DataW.trod_int Tryd.underlying3 h4
  simp only [List.cons.injEq, and_true] at e0 e1 e2 e3 e4
  have := u32_lits w2
  refine ⟨⟨a0, a1, a2, a3, a4⟩, ?_, this.1, this.2⟩
  rw [arr_five h5, e0, e1, e2, e3, e4]
end Go.Proofs.YthpadbeilecpeaaDoor
