/- A list of slices of bytes that comes as an argument. -/
import Derived.Test.YtbgofccnhehodaaCdP
import Derived.Test.YtbgofccnhehodaaQ9
namespace Go.Proofs.Ytbgofccnhehodaa
open Go.ChangeShapes Go.WideShapes Go.ChangeAt Go.RowKit Go.Joins Go.Deep

theorem choose_list {α : Type} (P : Nat → α → Prop) : ∀ (n : Nat), (∀ i, i < n → ∃ m, P i m) → ∃ ms : List α, ms.length = n ∧ ∀ (i : Nat) (m : α), ms[i]? = some m → P i m
  | 0, _ => ⟨[], rfl, fun i m h => by simp at h⟩
  | n + 1, h => by
    obtain ⟨ms, hl, hp⟩ := choose_list P n (fun i hi => h i (by omega))
    obtain ⟨m, hm⟩ := h n (by omega)
    refine ⟨ms ++ [m], by simp [hl], fun i x hx => ?_⟩
    rcases Nat.lt_or_ge i n with hi | hi
    · rw [List.getElem?_append_left (by omega)] at hx
      exact hp i x hx
    · rw [List.getElem?_append_right (by omega), hl] at hx
      have : i = n := by
        have := (List.getElem?_eq_some_iff.1 hx).1
        simp at this; omega
      subst this
      simp at hx
      exact hx ▸ hm
theorem bs_size : Try.prog.cellsOf 30 = 1 := by kernel_rfl
/-- One slice of bytes in memory, read as such. -/
theorem bs_at {H : Type} {enc : TypeId × Value → H} {w : World} {base : Nat} {spare : Nat → Bool} {held : Bool} {fuel : Nat} {a : Addr} {cs : List Value} {x : DataW H × List MemPlace}
    (hc : w.cells? base a 1 = some cs) (h : DataW.trod enc Try.prog w base spare held fuel 30 cs = some x) :
    ∃ m : Bs, w.cell? (a.add 0) = some (.slice m.q m.ys.length m.c) ∧ BytesAt w m.q m.ys ∧ m.ys.length ≤ m.c ∧ m.c ≤ maxLen := by
  obtain ⟨_, hlen, hat⟩ := World.cells?_some hc
  obtain ⟨c0, rfl⟩ : ∃ c0, cs = [c0] := by
    match cs, hlen with
    | [c0], _ => exact ⟨c0, rfl⟩
  obtain ⟨q, l, c, ys, rfl, hb, hn, hcl, hm⟩ := bytes_of_trod h
  subst hn
  exact ⟨⟨q, ys, c⟩, hat 0 (by omega), hb, hcl, hm⟩
theorem open_bss {H : Type} {enc : TypeId × Value → H} {w : World} {base b0 : Nat} {spare : Nat → Bool} {held : Bool} {r : Reach} {v : Value} {d : DataW H} {p : List MemPlace} (hv : Value.okWide Try.prog w r b0 40 v) (h : DataW.Trod enc Try.prog w base spare held 40 v d p) :
    ∃ x : Option Addr × List Bs × Nat, v = .slice x.1 x.2.1.length x.2.2 ∧ BssAt w x.1 x.2.1 := by
  obtain ⟨a0, len0, cap0, rfl⟩ := okWide_slice Try.underlying40 hv
  obtain ⟨fuel, hf⟩ := h
  rcases open_slice Try.underlying40 hf with ⟨hcs, _⟩ | ⟨a, l, c, m, n, D, Pl, hcs, _, hl, hm, hmm, _, hi⟩
  · simp [Value.cells] at hcs
    obtain ⟨rfl, rfl, rfl⟩ := hcs
    exact ⟨(none, [], 0), rfl, fun i m h => by simp at h, .inl rfl⟩
  · simp [Value.cells] at hcs
    obtain ⟨rfl, rfl, rfl⟩ := hcs
    have hlm : len0 ≤ m := by rw [hmm]; split <;> omega
    obtain ⟨ms, hml, hmp⟩ := choose_list (fun i (x : Bs) => w.cell? ((a.add (i * 1)).add 0) = some (.slice x.q x.ys.length x.c) ∧ BytesAt w x.q x.ys ∧ x.ys.length ≤ x.c ∧ x.c ≤ maxLen) len0 (fun i hil => by
      obtain ⟨cs', hc', ht'⟩ := hi i (by omega)
      rw [bs_size] at hc'
      exact bs_at hc' ht')
    refine ⟨(some a, ms, cap0), by rw [hml], fun i x hx => (hmp i x hx).2, ?_⟩
    rcases ms with _ | ⟨m0, t⟩
    · exact .inl rfl
    · right
      obtain ⟨b, off, spot⟩ := a
      have h0 := (hmp 0 m0 rfl).1
      have hspot : spot = none := by
        have := World.cell?_spot h0
        simpa [Addr.add] using this
      subst hspot
      refine ⟨b, off, rfl, fun i x hx => ?_⟩
      have hx := hmp i x hx
      rw [add_lit', add_lit'] at hx
      simpa using hx.1
end Go.Proofs.Ytbgofccnhehodaa
