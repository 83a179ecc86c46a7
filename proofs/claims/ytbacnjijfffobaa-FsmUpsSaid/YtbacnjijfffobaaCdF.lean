/- fsm: what we say, a state, as arguments. -/
import Derived.Test.YtbacnjijfffobaaCdP
import Derived.Test.YtbacnjijfffobaaH1
namespace Go.Proofs.Ytbacnjijfffobaa
open Go.ChangeShapes Go.WideShapes Go.ChangeAt Go.RowKit Go.Joins Go.Deep

/-- A struct of one-cell fields, by its cells: each field reads by itself. -/
theorem struct_trod {H : Type} {enc : TypeId × Value → H} {P : Program} {w : World} {base : Nat} {spare : Nat → Bool} {held : Bool} {fuel : Nat} {t : TypeId} {fs : Array Field} {L : List Value} {x : DataW H × List MemPlace}
    (hs : P.underlying t = some (.struct fs)) (hone : oneCellFields P fs = true) (hl : L.length = fs.size) (h : DataW.trod enc P w base spare held fuel t L = some x) :
    ∃ n : Nat, ∀ (j : Nat) (f : Field), fs[j]? = some f → ∃ y, DataW.trod enc P w base spare held n f.type [L.getD j undef] = some y := by
  obtain ⟨xs, n, _, _, _, hlen, hg⟩ := DataW.trod_struct hs h
  refine ⟨n, fun j f hj => ?_⟩
  obtain ⟨ho, hk⟩ := hone_of hone j f hj
  have hjl : j < fs.size := (Array.getElem?_eq_some_iff.1 hj).1
  have h1 := hg j f hj
  rw [ho, hk] at h1
  have e : List.take 1 (List.drop j L) = [L.getD j undef] := by
    rw [List.drop_eq_getElem_cons (show j < L.length by omega), List.take_succ_cons, List.take_zero]
    simp [List.getElem?_eq_getElem (show j < L.length by omega)]
  rw [e] at h1
  have hx : xs[j]? = some (xs[j]'(by omega)) := List.getElem?_eq_getElem (by omega)
  exact ⟨_, h1.trans hx⟩
theorem opT_under : Try.prog.underlying 24 = some (.struct (Try.prog.fieldsOf 24)) := by kernel_rfl
theorem opT_one : oneCellFields Try.prog (Try.prog.fieldsOf 24) = true := by kernel_rfl
theorem opT_size : Try.prog.cellsOf 24 = (Try.prog.fieldsOf 24).size := by kernel_rfl
theorem opT_types : (Try.prog.fieldsOf 24).map (·.type) = #[3, 3, 22, 4, 3] := by kernel_rfl
theorem opT_field (j : Nat) (t : TypeId) (h : #[3, 3, 22, 4, 3][j]? = some t) : ∃ f, (Try.prog.fieldsOf 24)[j]? = some f ∧ f.type = t := by
  rw [← opT_types, Array.getElem?_map] at h
  obtain ⟨f, hf, e⟩ := Option.map_eq_some_iff.1 h
  exact ⟨f, hf, e⟩
theorem stT_under : Try.prog.underlying 31 = some (.struct (Try.prog.fieldsOf 31)) := by kernel_rfl
theorem stT_one : oneCellFields Try.prog (Try.prog.fieldsOf 31) = true := by kernel_rfl
theorem stT_size : Try.prog.cellsOf 31 = (Try.prog.fieldsOf 31).size := by kernel_rfl
theorem stT_types : (Try.prog.fieldsOf 31).map (·.type) = #[3, 3, 4, 4, 22] := by kernel_rfl
theorem stT_field (j : Nat) (t : TypeId) (h : #[3, 3, 4, 4, 22][j]? = some t) : ∃ f, (Try.prog.fieldsOf 31)[j]? = some f ∧ f.type = t := by
  rw [← stT_types, Array.getElem?_map] at h
  obtain ⟨f, hf, e⟩ := Option.map_eq_some_iff.1 h
  exact ⟨f, hf, e⟩
theorem opT_trod {H : Type} {enc : TypeId × Value → H} {w : World} {base : Nat} {spare : Nat → Bool} {held : Bool} {fuel : Nat} {c0 c1 c2 c3 c4 : Value} {x : DataW H × List MemPlace}
    (h : DataW.trod enc Try.prog w base spare held fuel 24 [c0, c1, c2, c3, c4] = some x) : ∃ o : Op, [c0, c1, c2, c3, c4] = [.int .i64 o.asn, .int .i64 o.hold, .int .u32 o.id, .bool o.four, .int .i64 o.paths] ∧ 0 ≤ o.id ∧ o.id ≤ 4294967295 := by
  obtain ⟨n, hf⟩ := struct_trod opT_under opT_one (by rw [← opT_size]; kernel_rfl) h
  obtain ⟨f0, g0, t0⟩ := opT_field 0 _ rfl
  obtain ⟨y0, h0⟩ := hf 0 f0 g0
  rw [t0] at h0
  obtain ⟨f1, g1, t1⟩ := opT_field 1 _ rfl
  obtain ⟨y1, h1⟩ := hf 1 f1 g1
  rw [t1] at h1
  obtain ⟨f2, g2, t2⟩ := opT_field 2 _ rfl
  obtain ⟨y2, h2⟩ := hf 2 f2 g2
  rw [t2] at h2
  obtain ⟨f3, g3, t3⟩ := opT_field 3 _ rfl
  obtain ⟨y3, h3⟩ := hf 3 f3 g3
  rw [t3] at h3
  obtain ⟨f4, g4, t4⟩ := opT_field 4 _ rfl
  obtain ⟨y4, h4⟩ := hf 4 f4 g4
  rw [t4] at h4
  obtain ⟨a0, e0, _, w0⟩ := DataW.trod_int Try.underlying3 h0
  obtain ⟨a1, e1, _, w1⟩ := DataW.trod_int Try.underlying3 h1
  obtain ⟨a2, e2, _, w2⟩ := DataW.trod_int Try.underlying22 h2
  obtain ⟨a3, e3, _⟩ := DataW.trod_bool Try.underlying4 h3
  obtain ⟨a4, e4, _, w4⟩ := DataW.trod_int Try.underlying3 h4
  simp only [List.getD_cons_zero, List.getD_cons_succ, List.cons.injEq, and_true] at e0 e1 e2 e3 e4
  have hu := u32_lits w2
  exact ⟨⟨a0, a1, a2, a3, a4⟩, by rw [e0, e1, e2, e3, e4], hu.1, hu.2⟩
theorem stT_trod {H : Type} {enc : TypeId × Value → H} {w : World} {base : Nat} {spare : Nat → Bool} {held : Bool} {fuel : Nat} {c0 c1 c2 c3 c4 : Value} {x : DataW H × List MemPlace}
    (h : DataW.trod enc Try.prog w base spare held fuel 31 [c0, c1, c2, c3, c4] = some x) : ∃ o : Ph, [c0, c1, c2, c3, c4] = [.int .i64 o.phase, .int .i64 o.hold, .bool o.four, .bool o.paths, .int .u32 o.id] ∧ 0 ≤ o.id ∧ o.id ≤ 4294967295 := by
  obtain ⟨n, hf⟩ := struct_trod stT_under stT_one (by rw [← stT_size]; kernel_rfl) h
  obtain ⟨f0, g0, t0⟩ := stT_field 0 _ rfl
  obtain ⟨y0, h0⟩ := hf 0 f0 g0
  rw [t0] at h0
  obtain ⟨f1, g1, t1⟩ := stT_field 1 _ rfl
  obtain ⟨y1, h1⟩ := hf 1 f1 g1
  rw [t1] at h1
  obtain ⟨f2, g2, t2⟩ := stT_field 2 _ rfl
  obtain ⟨y2, h2⟩ := hf 2 f2 g2
  rw [t2] at h2
  obtain ⟨f3, g3, t3⟩ := stT_field 3 _ rfl
  obtain ⟨y3, h3⟩ := hf 3 f3 g3
  rw [t3] at h3
  obtain ⟨f4, g4, t4⟩ := stT_field 4 _ rfl
  obtain ⟨y4, h4⟩ := hf 4 f4 g4
  rw [t4] at h4
  obtain ⟨a0, e0, _, w0⟩ := DataW.trod_int Try.underlying3 h0
  obtain ⟨a1, e1, _, w1⟩ := DataW.trod_int Try.underlying3 h1
  obtain ⟨a2, e2, _⟩ := DataW.trod_bool Try.underlying4 h2
  obtain ⟨a3, e3, _⟩ := DataW.trod_bool Try.underlying4 h3
  obtain ⟨a4, e4, _, w4⟩ := DataW.trod_int Try.underlying22 h4
  simp only [List.getD_cons_zero, List.getD_cons_succ, List.cons.injEq, and_true] at e0 e1 e2 e3 e4
  have hu := u32_lits w4
  exact ⟨⟨a0, a1, a2, a3, a4⟩, by rw [e0, e1, e2, e3, e4], hu.1, hu.2⟩
theorem open_state {H : Type} {enc : TypeId × Value → H} {w : World} {base b0 : Nat} {spare : Nat → Bool} {held : Bool} {r : Reach} {v : Value} {d : DataW H} {p : List MemPlace} (hv : Value.okWide Try.prog w r b0 31 v) (h : DataW.Trod enc Try.prog w base spare held 31 v d p) :
    ∃ s : Ph, v = .agg #[.int .i64 s.phase, .int .i64 s.hold, .bool s.four, .bool s.paths, .int .u32 s.id] ∧ True := by
  obtain ⟨cs, rfl, hsz⟩ := okWide_struct stT_under hv
  have h5 : cs.size = 5 := by rw [hsz]; kernel_rfl
  obtain ⟨fuel, hf⟩ := h
  rw [arr_five h5] at hf ⊢
  obtain ⟨s, e, _⟩ := stT_trod (show DataW.trod enc Try.prog w base spare held fuel 31 [cs.getD 0 undef, cs.getD 1 undef, cs.getD 2 undef, cs.getD 3 undef, cs.getD 4 undef] = some (d, p) from hf)
  simp only [List.cons.injEq, and_true] at e
  obtain ⟨e0, e1, e2, e3, e4⟩ := e
  exact ⟨s, by rw [e0, e1, e2, e3, e4], trivial⟩
theorem arr_six {cs : Array Value} (h : cs.size = 6) : cs = #[cs.getD 0 undef, cs.getD 1 undef, cs.getD 2 undef, cs.getD 3 undef, cs.getD 4 undef, cs.getD 5 undef] := by
  obtain ⟨l⟩ := cs
  match l, h with
  | [a, b, c, d, e, f], _ => rfl
theorem loT_under : Try.prog.underlying 26 = some (.struct (Try.prog.fieldsOf 26)) := by kernel_rfl
theorem loT_flds : (Try.prog.fieldsOf 26).map (fun f => (f.type, f.offset)) = #[(24, 0), (3, 5)] := by kernel_rfl
theorem loT_field (j : Nat) (t : TypeId × Nat) (h : #[(24, 0), (3, 5)][j]? = some t) : ∃ f, (Try.prog.fieldsOf 26)[j]? = some f ∧ f.type = t.1 ∧ f.offset = t.2 := by
  rw [← loT_flds, Array.getElem?_map] at h
  obtain ⟨f, hf, e⟩ := Option.map_eq_some_iff.1 h
  exact ⟨f, hf, by rw [← e], by rw [← e]⟩
theorem open_local {H : Type} {enc : TypeId × Value → H} {w : World} {base b0 : Nat} {spare : Nat → Bool} {held : Bool} {r : Reach} {v : Value} {d : DataW H} {p : List MemPlace} (hv : Value.okWide Try.prog w r b0 26 v) (h : DataW.Trod enc Try.prog w base spare held 26 v d p) :
    ∃ x : Op × Int, v = .agg #[.int .i64 x.1.asn, .int .i64 x.1.hold, .int .u32 x.1.id, .bool x.1.four, .int .i64 x.1.paths, .int .i64 x.2] ∧ 0 ≤ x.1.id ∧ x.1.id ≤ 4294967295 := by
  obtain ⟨cs, rfl, hsz⟩ := okWide_struct loT_under hv
  have h6 : cs.size = 6 := by rw [hsz]; kernel_rfl
  obtain ⟨fuel, hf⟩ := h
  rw [arr_six h6] at hf ⊢
  obtain ⟨xs, n, _, _, _, hlen, hg⟩ := DataW.trod_struct loT_under (show DataW.trod enc Try.prog w base spare held fuel 26 [cs.getD 0 undef, cs.getD 1 undef, cs.getD 2 undef, cs.getD 3 undef, cs.getD 4 undef, cs.getD 5 undef] = some (d, p) from hf)
  obtain ⟨f0, g0, t0, o0⟩ := loT_field 0 (24, 0) rfl
  obtain ⟨f1, g1, t1, o1⟩ := loT_field 1 (3, 5) rfl
  dsimp only at t0 o0 t1 o1
  have h0 := hg 0 f0 g0
  have h1 := hg 1 f1 g1
  rw [t0, o0, show Try.prog.cellsOf 24 = 5 by kernel_rfl] at h0
  rw [t1, o1, show Try.prog.cellsOf 3 = 1 by kernel_rfl] at h1
  have hl : xs.length = 2 := by rw [hlen]; kernel_rfl
  rw [List.getElem?_eq_getElem (by omega)] at h0 h1
  simp only [List.drop_zero, List.drop_succ_cons, List.take_succ_cons, List.take_zero] at h0 h1
  obtain ⟨o, e, i0, i1⟩ := opT_trod h0
  obtain ⟨a5, e5, _, w5⟩ := DataW.trod_int Try.underlying3 h1
  simp only [List.cons.injEq, and_true] at e e5
  obtain ⟨e0, e1, e2, e3, e4⟩ := e
  exact ⟨(o, a5), by rw [e0, e1, e2, e3, e4, e5], i0, i1⟩
end Go.Proofs.Ytbacnjijfffobaa
