/- update: an update as an argument; UpdatePuts, as its frame takes it. -/
import Derived.Test.YtdeimfcefbbclaaDoorUqG
import Derived.Test.YtdeimfcefbbclaaDoorUpW
namespace Go.Proofs.YtdeimfcefbbclaaDoor
open Go.ChangeShapes Go.WideShapes Go.ChangeAt Go.RowKit Go.Joins Go.Deep
set_option linter.unusedVariables false
set_option linter.unusedSimpArgs false
set_option maxRecDepth 100000

theorem nls_of_trod {H : Type} {enc : TypeId × Value → H} {w : World} {base : Nat} {spare : Nat → Bool} {held : Bool} {fuel : Nat} {v : Value} {y : DataW H × List MemPlace} (hf : DataW.trod enc Tryd.prog w base spare held fuel 22 [v] = some y) :
    ∃ x : Option Addr × List Nl × Nat, v = .slice x.1 x.2.1.length x.2.2 ∧ NlsArg w x := by
  rcases open_slice Tryd.underlying22 hf with ⟨hcs, _⟩ | ⟨a, l, c, m, n, D, Pl, hcs, _, hl, hm, hmm, _, hi⟩
  · obtain rfl : v = .slice none 0 0 := by simpa using hcs
    exact ⟨(none, [], 0), rfl, NlsAt.nil _ _, fun m h => by simp at h, Nat.le_refl _, Nat.zero_le _⟩
  · obtain rfl : v = .slice (some a) l c := by simpa using hcs
    have hlm : l ≤ m := by rw [hmm]; split <;> omega
    obtain ⟨ms, hml, hmp⟩ := choose_list (fun i (x : Nl) => okN x ∧ w.cell? ((a.add (i * 3)).add 0) = some (.int .i64 x.id) ∧ w.cell? ((a.add (i * 3)).add 1) = some (.int .u32 x.addr) ∧ w.cell? ((a.add (i * 3)).add 2) = some (.int .i64 x.len)) l (fun i hil => by
      obtain ⟨cs', hc', ht'⟩ := hi i (by omega)
      rw [nl_cells] at hc'
      obtain ⟨_, hlen, hat⟩ := World.cells?_some hc'
      obtain ⟨c0, c1, c2, rfl⟩ : ∃ c0 c1 c2, cs' = [c0, c1, c2] := by
        match cs', hlen with
        | [c0, c1, c2], _ => exact ⟨c0, c1, c2, rfl⟩
      obtain ⟨x, hx, rfl, rfl, rfl⟩ := nl_trod ht'
      exact ⟨x, hx, hat 0 (by omega), hat 1 (by omega), hat 2 (by omega)⟩)
    have hokm : ∀ x ∈ ms, okN x := fun x hx => by
      obtain ⟨i, hi', he⟩ := List.getElem_of_mem hx
      exact (hmp i x (by rw [List.getElem?_eq_getElem hi', he])).1
    refine ⟨(some a, ms, c), by rw [hml], ⟨⟨fun i hi' => ?_, ?_⟩, hokm, by simpa [hml] using hl, hm⟩⟩
    · exact okN_addr (hokm _ (by simp [List.getD, show i < ms.length from hi']))
    · rcases ms with _ | ⟨m0, t⟩
      · exact .inl rfl
      · right
        obtain ⟨b, off, spot⟩ := a
        have h0 := (hmp 0 m0 rfl).2.1
        have hspot : spot = none := by
          have := World.cell?_spot h0
          simpa [Addr.add] using this
        subst hspot
        refine ⟨b, off, rfl, fun i hi' => ?_⟩
        have hx := hmp i ((m0 :: t).getD i Nl.none) (by simp only [List.getD]; rw [List.getElem?_eq_getElem hi']; rfl)
        rw [add_litN, add_litN, add_litN, add_litN] at hx
        exact hx.2
open Ax in
theorem attrs_of_trod {H : Type} {enc : TypeId × Value → H} {w : World} {base : Nat} {spare : Nat → Bool} {held : Bool} {fuel : Nat} {c0 c1 c2 c3 c4 c5 : Value} {y : DataW H × List MemPlace} (h : DataW.trod enc Tryd.prog w base spare held fuel 27 [c0, c1, c2, c3, c4, c5] = some y) :
    ∃ x : Ax.At × Ax.Loc, [c0, c1, c2, c3, c4, c5] = Ax.atL x.1 x.2 ∧ Ax.AtAt w x.1 x.2 := by
  obtain ⟨xs, n, _, _, _, hlen, hg⟩ := DataW.trod_struct atT_under h
  have hf : ∀ (j : Nat) (f : Field), (Tryd.prog.fieldsOf 27)[j]? = some f → ∀ (c : Value), [c0, c1, c2, c3, c4, c5][j]? = some c → ∃ y, DataW.trod enc Tryd.prog w base spare held n f.type [c] = some y := fun j f hj c hc => by
    obtain ⟨ho, hk⟩ := hone_of atT_one j f hj
    have h1 := hg j f hj
    rw [ho, hk] at h1
    have hjl := (Array.getElem?_eq_some_iff.1 hj).1
    have e : List.take 1 (List.drop j [c0, c1, c2, c3, c4, c5]) = [c] := by
      obtain ⟨hl, he⟩ := List.getElem?_eq_some_iff.1 hc
      rw [List.drop_eq_getElem_cons hl, List.take_succ_cons, List.take_zero, he]
    rw [e] at h1
    have hx : xs[j]? = some (xs[j]'(by omega)) := List.getElem?_eq_getElem (by omega)
    exact ⟨_, h1.trans hx⟩
  obtain ⟨f0, g0, t0⟩ := atT_field 0 _ rfl
  obtain ⟨f1, g1, t1⟩ := atT_field 1 _ rfl
  obtain ⟨f2, g2, t2⟩ := atT_field 2 _ rfl
  obtain ⟨f3, g3, t3⟩ := atT_field 3 _ rfl
  obtain ⟨f4, g4, t4⟩ := atT_field 4 _ rfl
  obtain ⟨f5, g5, t5⟩ := atT_field 5 _ rfl
  obtain ⟨y0, h0⟩ := hf 0 f0 g0 c0 rfl
  obtain ⟨y1, h1⟩ := hf 1 f1 g1 c1 rfl
  obtain ⟨y2, h2⟩ := hf 2 f2 g2 c2 rfl
  obtain ⟨y3, h3⟩ := hf 3 f3 g3 c3 rfl
  obtain ⟨y4, h4⟩ := hf 4 f4 g4 c4 rfl
  obtain ⟨y5, h5⟩ := hf 5 f5 g5 c5 rfl
  rw [t0] at h0
  rw [t1] at h1
  rw [t2] at h2
  rw [t3] at h3
  rw [t4] at h4
  rw [t5] at h5
  obtain ⟨a0, e0, _, _⟩ := DataW.trod_int Tryd.underlying3 h0
  obtain ⟨pp, pn, pc, path, e1, hp, hpn, hpc, hpm⟩ := segs_of_trod h1
  obtain ⟨a2, e2, _, w2⟩ := DataW.trod_int Tryd.underlying24 h2
  obtain ⟨a3, e3, _, _⟩ := DataW.trod_int Tryd.underlying3 h3
  obtain ⟨a4, e4, _, _⟩ := DataW.trod_int Tryd.underlying3 h4
  obtain ⟨cp, cn, cc, comms, e5, hc, hcn, hcc, hcm⟩ := ints_of_trod h5
  simp only [List.cons.injEq, and_true] at e0 e2 e3 e4
  have := u32_lits w2
  refine ⟨(⟨a0, path, a2, a3, a4, comms⟩, ⟨pp, pn, pc, cp, cn, cc⟩), ?_, hp, hpn, hpc, hpm, hc, hcn, hcc, hcm, this.1, this.2⟩
  rw [e0, e1, e2, e3, e4, e5]
  rfl
theorem upT_und : Tryd.prog.underlying 29 = some (.struct (Tryd.prog.fieldsOf 29)) := by kernel_rfl
theorem upT_flds : (Tryd.prog.fieldsOf 29).toList.map (fun f => (f.type, f.offset)) = [(22, 0), (22, 1), (27, 2), (4, 8)] := by kernel_rfl
theorem upT_cells : Tryd.prog.cellsOf 29 = 9 := by kernel_rfl
theorem nlsT_cells : Tryd.prog.cellsOf 22 = 1 := by kernel_rfl
theorem atT_cells : Tryd.prog.cellsOf 27 = 6 := by kernel_rfl
theorem boolT_cells : Tryd.prog.cellsOf 4 = 1 := by kernel_rfl
theorem open_upd {H : Type} {enc : TypeId × Value → H} {w : World} {base b0 : Nat} {spare : Nat → Bool} {held : Bool} {r : Reach} {v : Value} {d : DataW H} {p : List MemPlace} (hv : Value.okWide Tryd.prog w r b0 29 v) (h : DataW.Trod enc Tryd.prog w base spare held 29 v d p) :
    ∃ x : Ax.Upd × Ax.ULoc, v = .agg (Ax.updL x.1 x.2).toArray ∧ Ax.UpAt w x.1 x.2 ∧ 0 ≤ x.1.a.next ∧ x.1.a.next ≤ 4294967295 := by
  obtain ⟨cs, rfl, hsz⟩ := okWide_struct upT_und hv
  rw [upT_cells] at hsz
  obtain ⟨fuel, hf⟩ := h
  obtain ⟨c0, c1, c2, c3, c4, c5, c6, c7, c8, rfl⟩ : ∃ c0 c1 c2 c3 c4 c5 c6 c7 c8, cs = #[c0, c1, c2, c3, c4, c5, c6, c7, c8] := by
    obtain ⟨l⟩ := cs
    match l, hsz with
    | [c0, c1, c2, c3, c4, c5, c6, c7, c8], _ => exact ⟨c0, c1, c2, c3, c4, c5, c6, c7, c8, rfl⟩
  have hft := upT_flds
  have hu := upT_und
  obtain ⟨f0, f1, f2, f3, hff⟩ : ∃ f0 f1 f2 f3, Tryd.prog.fieldsOf 29 = #[f0, f1, f2, f3] := by
    have hl := congrArg List.length hft
    generalize Tryd.prog.fieldsOf 29 = fs at hl
    obtain ⟨l⟩ := fs
    match l, hl with
    | [f0, f1, f2, f3], _ => exact ⟨f0, f1, f2, f3, rfl⟩
  rw [hff] at hft hu
  simp only [List.map_cons, List.map_nil, List.cons.injEq, Prod.mk.injEq, and_true] at hft
  obtain ⟨⟨t0, o0⟩, ⟨t1, o1⟩, ⟨t2, o2⟩, t3, o3⟩ := hft
  obtain ⟨y0, y1, y2, y3, n, _, _, g0, g1, g2, g3⟩ := Go.Joins.trod_struct4 hu (show DataW.trod enc Tryd.prog w base spare held fuel 29 [c0, c1, c2, c3, c4, c5, c6, c7, c8] = some (d, p) from hf)
  rw [t0, o0, nlsT_cells] at g0
  rw [t1, o1, nlsT_cells] at g1
  rw [t2, o2, atT_cells] at g2
  rw [t3, o3, boolT_cells] at g3
  simp only [List.drop_zero, List.drop_succ_cons, List.take_succ_cons, List.take_zero] at g0 g1 g2 g3
  obtain ⟨x0, rfl, h0⟩ := nls_of_trod g0
  obtain ⟨x1, rfl, h1⟩ := nls_of_trod g1
  obtain ⟨⟨a, al⟩, e2, h2⟩ := attrs_of_trod g2
  obtain ⟨k, e3, _⟩ := DataW.trod_bool Tryd.underlying4 g3
  simp only [List.cons.injEq, and_true] at e3
  subst e3
  refine ⟨(⟨x0.2.1, x1.2.1, a, k⟩, ⟨x0.1, x0.2.1.length, x0.2.2, x1.1, x1.2.1.length, x1.2.2, al⟩), ?_, ⟨h0.at_, rfl, h0.le, h0.max, h1.at_, rfl, h1.le, h1.max, h2⟩, h2.n0, h2.n1⟩
  simp only [Ax.updL, ← e2]
  rfl
theorem puts_arg (w : World) (ht : Ax.Tab w) (x : Ax.Upd × Ax.ULoc) (hx : Ax.UpAt w x.1 x.2 ∧ 0 ≤ x.1.a.next ∧ x.1.a.next ≤ 4294967295) (four paths : Bool) :
    Calls Tryd.prog 3 #[.agg (Ax.updL x.1 x.2).toArray, .bool four, .bool paths] w fun e w' => e = .returned (.bool true) ∧ Below w.heap.size w w' :=
  Ax.puts_walk x.1 x.2 four paths w ht hx.1 hx.2.1 hx.2.2
end Go.Proofs.YtdeimfcefbbclaaDoor
