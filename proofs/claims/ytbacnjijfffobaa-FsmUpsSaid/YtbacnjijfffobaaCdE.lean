/- fsm: events that come as an argument. -/
import Derived.Test.YtbacnjijfffobaaCdF
namespace Go.Proofs.Ytbacnjijfffobaa
open Go.ChangeShapes Go.WideShapes Go.ChangeAt Go.RowKit Go.Joins Go.Deep

/-- An event as it comes: its note's bytes lie somewhere. -/
structure Ev where
  kind : Int
  x : Op
  code : Int
  sub : Int
  q : Option Addr
  ys : List Int
  c : Nat
/-- Events in memory. -/
def EvsAt (w : World) (p : Option Addr) (l : List Ev) : Prop := (∀ (i : Nat) (m : Ev), l[i]? = some m → BytesAt w m.q m.ys ∧ m.ys.length ≤ m.c ∧ m.c ≤ maxLen) ∧ (l = [] ∨ ∃ b off, p = some ⟨b, off, none⟩ ∧ ∀ (i : Nat) (m : Ev), l[i]? = some m → w.cell? ⟨b, off + i * 9 + 0, none⟩ = some (.int .i64 m.kind) ∧ w.cell? ⟨b, off + i * 9 + 1, none⟩ = some (.int .i64 m.x.asn) ∧ w.cell? ⟨b, off + i * 9 + 2, none⟩ = some (.int .i64 m.x.hold) ∧ w.cell? ⟨b, off + i * 9 + 3, none⟩ = some (.int .u32 m.x.id) ∧ w.cell? ⟨b, off + i * 9 + 4, none⟩ = some (.bool m.x.four) ∧ w.cell? ⟨b, off + i * 9 + 5, none⟩ = some (.int .i64 m.x.paths) ∧ w.cell? ⟨b, off + i * 9 + 6, none⟩ = some (.int .i64 m.code) ∧ w.cell? ⟨b, off + i * 9 + 7, none⟩ = some (.int .i64 m.sub) ∧ w.cell? ⟨b, off + i * 9 + 8, none⟩ = some (.slice m.q m.ys.length m.c))
theorem choose_l {α : Type} (P : Nat → α → Prop) : ∀ (n : Nat), (∀ i, i < n → ∃ m, P i m) → ∃ ms : List α, ms.length = n ∧ ∀ (i : Nat) (m : α), ms[i]? = some m → P i m
  | 0, _ => ⟨[], rfl, fun i m h => by simp at h⟩
  | n + 1, h => by
    obtain ⟨ms, hl, hp⟩ := choose_l P n (fun i hi => h i (by omega))
    obtain ⟨m, hm⟩ := h n (by omega)
    refine ⟨ms ++ [m], by simp [hl], fun i x hx => ?_⟩
    rcases Nat.lt_or_ge i n with hi | hi
    · rw [List.getElem?_append_left (by omega)] at hx
      exact hp i x hx
    · rw [List.getElem?_append_right (by omega), hl] at hx
      have : i = n := by
        have := (List.getElem?_eq_some_iff.1 hx).1
        simp at this; omega
      subst this
      simp at hx
      exact hx ▸ hm
theorem noT_under : Try.prog.underlying 34 = some (.struct (Try.prog.fieldsOf 34)) := by kernel_rfl
theorem noT_one : oneCellFields Try.prog (Try.prog.fieldsOf 34) = true := by kernel_rfl
theorem noT_size : Try.prog.cellsOf 34 = (Try.prog.fieldsOf 34).size := by kernel_rfl
theorem noT_types : (Try.prog.fieldsOf 34).map (·.type) = #[3, 3, 32] := by kernel_rfl
theorem noT_field (j : Nat) (t : TypeId) (h : #[3, 3, 32][j]? = some t) : ∃ f, (Try.prog.fieldsOf 34)[j]? = some f ∧ f.type = t := by
  rw [← noT_types, Array.getElem?_map] at h
  obtain ⟨f, hf, e⟩ := Option.map_eq_some_iff.1 h
  exact ⟨f, hf, e⟩
theorem noT_trod {H : Type} {enc : TypeId × Value → H} {w : World} {base : Nat} {spare : Nat → Bool} {held : Bool} {fuel : Nat} {c0 c1 c2 : Value} {x : DataW H × List MemPlace}
    (h : DataW.trod enc Try.prog w base spare held fuel 34 [c0, c1, c2] = some x) : ∃ (code sub : Int) (q : Option Addr) (ys : List Int) (c : Nat), c0 = .int .i64 code ∧ c1 = .int .i64 sub ∧ c2 = .slice q ys.length c ∧ BytesAt w q ys ∧ ys.length ≤ c ∧ c ≤ maxLen := by
  obtain ⟨n, hf⟩ := struct_trod noT_under noT_one (by rw [← noT_size]; kernel_rfl) h
  obtain ⟨f0, g0, t0⟩ := noT_field 0 _ rfl
  obtain ⟨y0, h0⟩ := hf 0 f0 g0
  rw [t0] at h0
  obtain ⟨f1, g1, t1⟩ := noT_field 1 _ rfl
  obtain ⟨y1, h1⟩ := hf 1 f1 g1
  rw [t1] at h1
  obtain ⟨f2, g2, t2⟩ := noT_field 2 _ rfl
  obtain ⟨y2, h2⟩ := hf 2 f2 g2
  rw [t2] at h2
  obtain ⟨a0, e0, _, w0⟩ := DataW.trod_int Try.underlying3 h0
  obtain ⟨a1, e1, _, w1⟩ := DataW.trod_int Try.underlying3 h1
  simp only [List.getD_cons_zero, List.getD_cons_succ, List.cons.injEq, and_true] at e0 e1 h2
  obtain ⟨q, l, c, ys, e2, hb, hn, hcl, hm⟩ := bytes_of_trod h2
  subst hn
  exact ⟨a0, a1, q, ys, c, e0, e1, e2, hb, hcl, hm⟩
theorem evT_under : Try.prog.underlying 36 = some (.struct (Try.prog.fieldsOf 36)) := by kernel_rfl
theorem evT_size : Try.prog.cellsOf 36 = 9 := by kernel_rfl
theorem evT_flds : (Try.prog.fieldsOf 36).map (fun f => (f.type, f.offset)) = #[(3, 0), (24, 1), (34, 6)] := by kernel_rfl
theorem evT_field (j : Nat) (t : TypeId × Nat) (h : #[(3, 0), (24, 1), (34, 6)][j]? = some t) : ∃ f, (Try.prog.fieldsOf 36)[j]? = some f ∧ f.type = t.1 ∧ f.offset = t.2 := by
  rw [← evT_flds, Array.getElem?_map] at h
  obtain ⟨f, hf, e⟩ := Option.map_eq_some_iff.1 h
  exact ⟨f, hf, by rw [← e], by rw [← e]⟩
/-- One event in memory, read as such. -/
theorem ev_at {H : Type} {enc : TypeId × Value → H} {w : World} {base : Nat} {spare : Nat → Bool} {held : Bool} {fuel : Nat} {a : Addr} {cs : List Value} {x : DataW H × List MemPlace}
    (hc : w.cells? base a 9 = some cs) (h : DataW.trod enc Try.prog w base spare held fuel 36 cs = some x) :
    ∃ m : Ev, (w.cell? (a.add 0) = some (.int .i64 m.kind) ∧ w.cell? (a.add 1) = some (.int .i64 m.x.asn) ∧ w.cell? (a.add 2) = some (.int .i64 m.x.hold) ∧ w.cell? (a.add 3) = some (.int .u32 m.x.id) ∧ w.cell? (a.add 4) = some (.bool m.x.four) ∧ w.cell? (a.add 5) = some (.int .i64 m.x.paths) ∧ w.cell? (a.add 6) = some (.int .i64 m.code) ∧ w.cell? (a.add 7) = some (.int .i64 m.sub) ∧ w.cell? (a.add 8) = some (.slice m.q m.ys.length m.c)) ∧ BytesAt w m.q m.ys ∧ m.ys.length ≤ m.c ∧ m.c ≤ maxLen := by
  obtain ⟨_, hlen, hat⟩ := World.cells?_some hc
  obtain ⟨c0, c1, c2, c3, c4, c5, c6, c7, c8, rfl⟩ : ∃ c0 c1 c2 c3 c4 c5 c6 c7 c8, cs = [c0, c1, c2, c3, c4, c5, c6, c7, c8] := by
    match cs, hlen with
    | [c0, c1, c2, c3, c4, c5, c6, c7, c8], _ => exact ⟨c0, c1, c2, c3, c4, c5, c6, c7, c8, rfl⟩
  obtain ⟨xs, n, _, _, _, hl0, hg⟩ := DataW.trod_struct evT_under h
  have hl : xs.length = 3 := by rw [hl0]; kernel_rfl
  obtain ⟨f0, g0, t0, o0⟩ := evT_field 0 (3, 0) rfl
  obtain ⟨f1, g1, t1, o1⟩ := evT_field 1 (24, 1) rfl
  obtain ⟨f2, g2, t2, o2⟩ := evT_field 2 (34, 6) rfl
  dsimp only at t0 o0 t1 o1 t2 o2
  have h0 := hg 0 f0 g0
  have h1 := hg 1 f1 g1
  have h2 := hg 2 f2 g2
  rw [t0, o0, show Try.prog.cellsOf 3 = 1 by kernel_rfl] at h0
  rw [t1, o1, show Try.prog.cellsOf 24 = 5 by kernel_rfl] at h1
  rw [t2, o2, show Try.prog.cellsOf 34 = 3 by kernel_rfl] at h2
  rw [List.getElem?_eq_getElem (by omega)] at h0 h1 h2
  simp only [List.drop_zero, List.drop_succ_cons, List.take_succ_cons, List.take_zero] at h0 h1 h2
  obtain ⟨k, e0, _, w0⟩ := DataW.trod_int Try.underlying3 h0
  obtain ⟨o, e, i0, i1⟩ := opT_trod h1
  obtain ⟨code, sub, q, ys, c, e6, e7, e8, hb, hcl, hm⟩ := noT_trod h2
  simp only [List.cons.injEq, and_true] at e0 e
  obtain ⟨e1, e2, e3, e4, e5⟩ := e
  subst e0 e1 e2 e3 e4 e5 e6 e7 e8
  exact ⟨⟨k, o, code, sub, q, ys, c⟩, ⟨hat 0 (by omega), hat 1 (by omega), hat 2 (by omega), hat 3 (by omega), hat 4 (by omega), hat 5 (by omega), hat 6 (by omega), hat 7 (by omega), hat 8 (by omega)⟩, hb, hcl, hm⟩
theorem open_evs {H : Type} {enc : TypeId × Value → H} {w : World} {base b0 : Nat} {spare : Nat → Bool} {held : Bool} {r : Reach} {v : Value} {d : DataW H} {p : List MemPlace} (hv : Value.okWide Try.prog w r b0 27 v) (h : DataW.Trod enc Try.prog w base spare held 27 v d p) :
    ∃ x : Option Addr × List Ev × Nat, v = .slice x.1 x.2.1.length x.2.2 ∧ EvsAt w x.1 x.2.1 := by
  obtain ⟨a0, len0, cap0, rfl⟩ := okWide_slice Try.underlying27 hv
  obtain ⟨fuel, hf⟩ := h
  rcases open_slice Try.underlying27 hf with ⟨hcs, _⟩ | ⟨a, l, c, m, n, D, Pl, hcs, _, hl, hm, hmm, _, hi⟩
  · simp [Value.cells] at hcs
    obtain ⟨rfl, rfl, rfl⟩ := hcs
    exact ⟨(none, [], 0), rfl, fun i m h => by simp at h, .inl rfl⟩
  · simp [Value.cells] at hcs
    obtain ⟨rfl, rfl, rfl⟩ := hcs
    have hlm : len0 ≤ m := by rw [hmm]; split <;> omega
    obtain ⟨ms, hml, hmp⟩ := choose_l (fun i (m : Ev) => (w.cell? ((a.add (i * 9)).add 0) = some (.int .i64 m.kind) ∧ w.cell? ((a.add (i * 9)).add 1) = some (.int .i64 m.x.asn) ∧ w.cell? ((a.add (i * 9)).add 2) = some (.int .i64 m.x.hold) ∧ w.cell? ((a.add (i * 9)).add 3) = some (.int .u32 m.x.id) ∧ w.cell? ((a.add (i * 9)).add 4) = some (.bool m.x.four) ∧ w.cell? ((a.add (i * 9)).add 5) = some (.int .i64 m.x.paths) ∧ w.cell? ((a.add (i * 9)).add 6) = some (.int .i64 m.code) ∧ w.cell? ((a.add (i * 9)).add 7) = some (.int .i64 m.sub) ∧ w.cell? ((a.add (i * 9)).add 8) = some (.slice m.q m.ys.length m.c)) ∧ BytesAt w m.q m.ys ∧ m.ys.length ≤ m.c ∧ m.c ≤ maxLen) len0 (fun i hi0 => by
      obtain ⟨cs', hc', ht'⟩ := hi i (by omega)
      rw [evT_size] at hc'
      exact ev_at hc' ht')
    refine ⟨(some a, ms, cap0), by rw [hml], fun i x hx => (hmp i x hx).2, ?_⟩
    rcases ms with _ | ⟨m0, t⟩
    · exact .inl rfl
    · right
      obtain ⟨b, off, spot⟩ := a
      have h0 := (hmp 0 m0 rfl).1.1
      have hspot : spot = none := by
        have := World.cell?_spot h0
        simpa [Addr.add] using this
      subst hspot
      refine ⟨b, off, rfl, fun i x hx => ?_⟩
      have hx := (hmp i x hx).1
      simp only [add_lit'] at hx
      exact hx
end Go.Proofs.Ytbacnjijfffobaa
