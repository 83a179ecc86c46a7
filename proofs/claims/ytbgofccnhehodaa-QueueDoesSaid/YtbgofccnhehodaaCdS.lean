/- A list of a queue's calls that comes as an argument. -/
import Derived.Test.YtbgofccnhehodaaCdR
import Derived.Test.YtbgofccnhehodaaQB
import Derived.Deep.Strs
namespace Go.Proofs.Ytbgofccnhehodaa
open Go.ChangeShapes Go.WideShapes Go.ChangeAt Go.RowKit Go.Joins Go.Deep

theorem opq_under : Try.prog.underlying 32 = some (.struct (Try.prog.fieldsOf 32)) := by kernel_rfl
theorem opq_one : oneCellFields Try.prog (Try.prog.fieldsOf 32) = true := by kernel_rfl
theorem opq_size : Try.prog.cellsOf 32 = 3 := by kernel_rfl
theorem opq_types : (Try.prog.fieldsOf 32).toList.map (·.type) = [3, 3, 30] := by kernel_rfl
/-- One call in memory, read as such. -/
theorem opq_at {H : Type} {enc : TypeId × Value → H} {w : World} {base : Nat} {spare : Nat → Bool} {held : Bool} {fuel : Nat} {a : Addr} {cs : List Value} {x : DataW H × List MemPlace}
    (hc : w.cells? base a 3 = some cs) (h : DataW.trod enc Try.prog w base spare held fuel 32 cs = some x) :
    ∃ m : Opq, w.cell? (a.add 0) = some (.int .i64 m.k) ∧ w.cell? (a.add 1) = some (.int .i64 m.n) ∧ w.cell? (a.add 2) = some (.slice m.q m.ys.length m.c) ∧ BytesAt w m.q m.ys ∧ m.ys.length ≤ m.c ∧ m.c ≤ maxLen := by
  obtain ⟨_, hlen, hat⟩ := World.cells?_some hc
  obtain ⟨c0, c1, c2, rfl⟩ : ∃ c0 c1 c2, cs = [c0, c1, c2] := by
    match cs, hlen with
    | [c0, c1, c2], _ => exact ⟨c0, c1, c2, rfl⟩
  have hu := opq_under
  have h1 := opq_one
  have ht := opq_types
  obtain ⟨f0, f1, f2, hf⟩ := array3 (cs := Try.prog.fieldsOf 32) (by simpa using congrArg List.length ht)
  rw [hf] at hu h1 ht
  obtain ⟨t0, t1, t2⟩ : f0.type = 3 ∧ f1.type = 3 ∧ f2.type = 30 := by simpa using ht
  obtain ⟨o0, k0⟩ := hone_of h1 0 f0 rfl
  obtain ⟨o1, k1⟩ := hone_of h1 1 f1 rfl
  obtain ⟨o2, k2⟩ := hone_of h1 2 f2 rfl
  obtain ⟨y0, y1, y2, n, _, _, g0, g1, g2⟩ := trod_struct3 hu h
  rw [o0, k0, t0] at g0
  rw [o1, k1, t1] at g1
  rw [o2, k2, t2] at g2
  simp only [List.drop_zero, List.drop_succ_cons, List.take_succ_cons, List.take_zero] at g0 g1 g2
  obtain ⟨k, e0, _, _⟩ := DataW.trod_int Try.underlying3 g0
  obtain ⟨k', e1, _, _⟩ := DataW.trod_int Try.underlying3 g1
  obtain ⟨q, l, c, ys, rfl, hb, hn, hcl, hm⟩ := bytes_of_trod g2
  subst hn
  simp only [List.cons.injEq, and_true] at e0 e1
  subst e0
  subst e1
  exact ⟨⟨k, k', q, ys, c⟩, hat 0 (by omega), hat 1 (by omega), hat 2 (by omega), hb, hcl, hm⟩
theorem open_opq {H : Type} {enc : TypeId × Value → H} {w : World} {base b0 : Nat} {spare : Nat → Bool} {held : Bool} {r : Reach} {v : Value} {d : DataW H} {p : List MemPlace} (hv : Value.okWide Try.prog w r b0 22 v) (h : DataW.Trod enc Try.prog w base spare held 22 v d p) :
    ∃ x : Option Addr × List Opq × Nat, v = .slice x.1 x.2.1.length x.2.2 ∧ OpsAt w x.1 x.2.1 := by
  obtain ⟨a0, len0, cap0, rfl⟩ := okWide_slice Try.underlying22 hv
  obtain ⟨fuel, hf⟩ := h
  rcases open_slice Try.underlying22 hf with ⟨hcs, _⟩ | ⟨a, l, c, m, n, D, Pl, hcs, _, hl, hm, hmm, _, hi⟩
  · simp [Value.cells] at hcs
    obtain ⟨rfl, rfl, rfl⟩ := hcs
    exact ⟨(none, [], 0), rfl, fun i m h => by simp at h, .inl rfl⟩
  · simp [Value.cells] at hcs
    obtain ⟨rfl, rfl, rfl⟩ := hcs
    have hlm : len0 ≤ m := by rw [hmm]; split <;> omega
    obtain ⟨ms, hml, hmp⟩ := choose_list (fun i (x : Opq) => w.cell? ((a.add (i * 3)).add 0) = some (.int .i64 x.k) ∧ w.cell? ((a.add (i * 3)).add 1) = some (.int .i64 x.n) ∧ w.cell? ((a.add (i * 3)).add 2) = some (.slice x.q x.ys.length x.c) ∧ BytesAt w x.q x.ys ∧ x.ys.length ≤ x.c ∧ x.c ≤ maxLen) len0 (fun i hil => by
      obtain ⟨cs', hc', ht'⟩ := hi i (by omega)
      rw [opq_size] at hc'
      exact opq_at hc' ht')
    refine ⟨(some a, ms, cap0), by rw [hml], fun i x hx => (hmp i x hx).2.2.2, ?_⟩
    rcases ms with _ | ⟨m0, t⟩
    · exact .inl rfl
    · right
      obtain ⟨b, off, spot⟩ := a
      have h0 := (hmp 0 m0 rfl).1
      have hspot : spot = none := by
        have := World.cell?_spot h0
        simpa [Addr.add] using this
      subst hspot
      refine ⟨b, off, rfl, fun i x hx => ?_⟩
      have hx := hmp i x hx
      rw [add_lit', add_lit', add_lit', add_lit'] at hx
      exact ⟨hx.1, hx.2.1, hx.2.2.1⟩
theorem qdoes_walk (w : World) (r : Int) (_ : (Lit.int .i64 r).wf = true) (x : Option Addr × List Opq × Nat) (hx : OpsAt w x.1 x.2.1) :
    Calls Try.prog 3 #[.int .i64 r, .slice x.1 x.2.1.length x.2.2] w fun e w' => e = .returned (.bool true) ∧ Below w.heap.size w w' := by
  by_cases h : r < 0 ∨ 65536 < r
  · exact qdoes_out w r _ _ _ h
  · obtain ⟨m, rfl⟩ := Int.eq_ofNat_of_zero_le (show 0 ≤ r by omega)
    exact qdoes_in w m _ _ _ _ hx rfl (by omega)
end Go.Proofs.Ytbgofccnhehodaa
