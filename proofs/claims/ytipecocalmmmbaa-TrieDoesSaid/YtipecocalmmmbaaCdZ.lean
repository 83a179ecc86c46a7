/- A list of a trie's calls that comes as an argument. -/
import Derived.Test.YtipecocalmmmbaaCdY
namespace Go.Proofs.Ytipecocalmmmbaa
open Go.ChangeShapes Go.WideShapes Go.ChangeAt Go.RowKit Go.Joins Go.Deep
set_option linter.unusedVariables false
set_option linter.unusedSimpArgs false

/-- One call of a trie: which, a prefix, a thing. -/
structure Opt where
  intro ::
  k : Int
  a : Int
  n : Int
  x : Int
theorem opt_cells : Try.prog.cellsOf 34 = 4 := by kernel_rfl
theorem opt_flds : (Try.prog.fieldsOf 34).toList.map (fun f => (f.type, f.offset, f.name != "_")) = [(3, 0, true), (32, 1, true), (3, 3, true)] := by kernel_rfl
theorem opt_und : Try.prog.underlying 34 = some (.struct (Try.prog.fieldsOf 34)) := by kernel_rfl
def OptsAt (W : World) (q : Option Addr) (l : List Opt) : Prop :=
  l = [] ∨ ∃ b off, q = some ⟨b, off, none⟩ ∧ ∀ (i : Nat) (m : Opt), l[i]? = some m → W.cell? ⟨b, off + i * 4, none⟩ = some (.int .i64 m.k) ∧ W.cell? ⟨b, off + i * 4 + 1, none⟩ = some (.int .u32 m.a) ∧ W.cell? ⟨b, off + i * 4 + 2, none⟩ = some (.int .i64 m.n) ∧ W.cell? ⟨b, off + i * 4 + 3, none⟩ = some (.int .i64 m.x)
set_option maxRecDepth 100000 in
theorem opt_trod {H : Type} {enc : TypeId × Value → H} {w : World} {base : Nat} {spare : Nat → Bool} {held : Bool} {fuel : Nat} {c0 c1 c2 c3 : Value} {x : DataW H × List MemPlace}
    (h : DataW.trod enc Try.prog w base spare held fuel 34 [c0, c1, c2, c3] = some x) : ∃ m : Opt, c0 = .int .i64 m.k ∧ c1 = .int .u32 m.a ∧ c2 = .int .i64 m.n ∧ c3 = .int .i64 m.x ∧ (Lit.int .u32 m.a).wf = true ∧ (Lit.int .i64 m.n).wf = true ∧ (Lit.int .i64 m.x).wf = true := by
  have hu := opt_und
  have hf := opt_flds
  obtain ⟨f0, f1, f2, hkk⟩ := array3 (cs := Try.prog.fieldsOf 34) (by simpa using congrArg List.length hf)
  rw [hkk] at hf hu
  simp only [List.map_cons, List.map_nil, List.cons.injEq, Prod.mk.injEq, and_true] at hf
  obtain ⟨⟨t0, o0, _⟩, ⟨t1, o1, _⟩, t2, o2, _⟩ := hf
  obtain ⟨y0, y1, y2, n, _, _, g0, g1, g2⟩ := trod_struct3 hu h
  rw [t0, o0, int_cells] at g0
  rw [t1, o1, pf_cells] at g1
  rw [t2, o2, int_cells] at g2
  simp only [List.drop_zero, List.drop_succ_cons, List.take_succ_cons, List.take_zero] at g0 g1 g2
  obtain ⟨k, e0, _, _⟩ := DataW.trod_int Try.underlying3 g0
  obtain ⟨a, m, e1, e2, w1, w2⟩ := pf_trod g1
  obtain ⟨v, e3, _, w3⟩ := DataW.trod_int Try.underlying3 g2
  simp only [List.cons.injEq, and_true] at e0 e3
  exact ⟨⟨k, a, m, v⟩, e0, e1, e2, e3, w1, w2, w3⟩
/-- A list of them, as it comes. -/
structure OptsArg (w : World) (x : Option Addr × List Opt × Nat) : Prop where
  at_ : OptsAt w x.1 x.2.1
  ok : ∀ m ∈ x.2.1, (0 ≤ m.a ∧ m.a ≤ 4294967295) ∧ (-9223372036854775808 ≤ m.x ∧ m.x ≤ 9223372036854775807)
theorem i64_range {a : Int} (h : (Lit.int .i64 a).wf = true) : -9223372036854775808 ≤ a ∧ a ≤ 9223372036854775807 := by
  have h : IntKind.i64.min ≤ a ∧ a ≤ IntKind.i64.max := by simpa [Lit.wf] using h
  rw [show IntKind.i64.min = -9223372036854775808 from rfl, show IntKind.i64.max = 9223372036854775807 from rfl] at h
  omega
set_option maxRecDepth 100000 in
theorem open_opts {H : Type} {enc : TypeId × Value → H} {w : World} {base b0 : Nat} {spare : Nat → Bool} {held : Bool} {r : Reach} {v : Value} {d : DataW H} {p : List MemPlace} (hv : Value.okWide Try.prog w r b0 22 v) (h : DataW.Trod enc Try.prog w base spare held 22 v d p) :
    ∃ x : Option Addr × List Opt × Nat, v = .slice x.1 x.2.1.length x.2.2 ∧ OptsArg w x := by
  obtain ⟨a0, len0, cap0, rfl⟩ := okWide_slice Try.underlying22 hv
  obtain ⟨fuel, hf⟩ := h
  rcases open_slice Try.underlying22 hf with ⟨hcs, _⟩ | ⟨a, l, c, m, n, D, Pl, hcs, _, hl, hm, hmm, _, hi⟩
  · simp [Value.cells] at hcs
    obtain ⟨rfl, rfl, rfl⟩ := hcs
    exact ⟨(none, [], 0), rfl, .inl rfl, fun m h => by simp at h⟩
  · simp [Value.cells] at hcs
    obtain ⟨rfl, rfl, rfl⟩ := hcs
    have hlm : len0 ≤ m := by rw [hmm]; split <;> omega
    obtain ⟨ms, hml, hmp⟩ := choose_list (fun i (x : Opt) => ((0 ≤ x.a ∧ x.a ≤ 4294967295) ∧ (-9223372036854775808 ≤ x.x ∧ x.x ≤ 9223372036854775807)) ∧ w.cell? ((a.add (i * 4)).add 0) = some (.int .i64 x.k) ∧ w.cell? ((a.add (i * 4)).add 1) = some (.int .u32 x.a) ∧ w.cell? ((a.add (i * 4)).add 2) = some (.int .i64 x.n) ∧ w.cell? ((a.add (i * 4)).add 3) = some (.int .i64 x.x)) len0 (fun i hil => by
      obtain ⟨cs', hc', ht'⟩ := hi i (by omega)
      rw [opt_cells] at hc'
      obtain ⟨_, hlen, hat⟩ := World.cells?_some hc'
      obtain ⟨c0, c1, c2, c3, rfl⟩ : ∃ c0 c1 c2 c3, cs' = [c0, c1, c2, c3] := by
        match cs', hlen with
        | [c0, c1, c2, c3], _ => exact ⟨c0, c1, c2, c3, rfl⟩
      obtain ⟨x, rfl, rfl, rfl, rfl, w1, _, w3⟩ := opt_trod ht'
      exact ⟨x, ⟨u32_range w1, i64_range w3⟩, hat 0 (by omega), hat 1 (by omega), hat 2 (by omega), hat 3 (by omega)⟩)
    have hokm : ∀ x ∈ ms, (0 ≤ x.a ∧ x.a ≤ 4294967295) ∧ (-9223372036854775808 ≤ x.x ∧ x.x ≤ 9223372036854775807) := fun x hx => by
      obtain ⟨i, hi', he⟩ := List.getElem_of_mem hx
      exact (hmp i x (by rw [List.getElem?_eq_getElem hi', he])).1
    refine ⟨(some a, ms, cap0), by rw [hml], ?_, hokm⟩
    rcases ms with _ | ⟨m0, t⟩
    · exact .inl rfl
    · right
      obtain ⟨b, off, spot⟩ := a
      have h0 := (hmp 0 m0 rfl).2.1
      have hspot : spot = none := by
        have := World.cell?_spot h0
        simpa [Addr.add] using this
      subst hspot
      refine ⟨b, off, rfl, fun i x hx => ?_⟩
      have hx := hmp i x hx
      rw [add_litP, add_litP, add_litP, add_litP, add_litP] at hx
      exact hx.2
end Go.Proofs.Ytipecocalmmmbaa
