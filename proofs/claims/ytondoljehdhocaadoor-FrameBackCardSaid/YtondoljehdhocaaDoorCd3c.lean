/- A list of messages that comes as an argument; the walk of 'FrameBack' as its frame takes it. -/
import Derived.Test.YtondoljehdhocaaDoorCd3
import Derived.Test.YtondoljehdhocaaDoorFB2
import Derived.Deep.Slices
import Derived.Deep.Fields
namespace Go.Proofs.YtondoljehdhocaaDoor
open Go.ChangeShapes Go.WideShapes Go.ChangeAt Go.RowKit Go.Joins Go.Deep

theorem choose_list {α : Type} (P : Nat → α → Prop) : ∀ (n : Nat), (∀ i, i < n → ∃ m, P i m) → ∃ ms : List α, ms.length = n ∧ ∀ (i : Nat) (m : α), ms[i]? = some m → P i m
  | 0, _ => ⟨[], rfl, fun i m h => by simp at h⟩
  | n + 1, h => by
    obtain ⟨ms, hl, hp⟩ := choose_list P n (fun i hi => h i (by omega))
    obtain ⟨m, hm⟩ := h n (by omega)
    refine ⟨ms ++ [m], by simp [hl], fun i x hx => ?_⟩
    rcases Nat.lt_or_ge i n with hi | hi
    · rw [List.getElem?_append_left (by omega)] at hx
      exact hp i x hx
    · rw [List.getElem?_append_right (by omega), hl] at hx
      have : i = n := by
        have := (List.getElem?_eq_some_iff.1 hx).1
        simp at this; omega
      subst this
      simp at hx
      exact hx ▸ hm

/-- One message in memory, read as such. -/
theorem msg_at {H : Type} {enc : TypeId × Value → H} {w : World} {base : Nat} {spare : Nat → Bool} {held : Bool} {fuel : Nat} {a : Addr} {cs : List Value} {x : DataW H × List MemPlace}
    (hc : w.cells? base a 2 = some cs) (h : DataW.trod enc Tryd.prog w base spare held fuel 24 cs = some x) :
    ∃ m : Msg, w.cell? (a.add 0) = some (.int .i64 m.k) ∧ w.cell? (a.add 1) = some (.slice m.q m.ys.length m.c) ∧ BytesAt w m.q m.ys ∧ m.ys.length ≤ m.c ∧ m.c ≤ maxLen := by
  obtain ⟨_, hlen, hat⟩ := World.cells?_some hc
  obtain ⟨c0, c1, rfl⟩ : ∃ c0 c1, cs = [c0, c1] := by
    match cs, hlen with
    | [c0, c1], _ => exact ⟨c0, c1, rfl⟩
  have hu := msg_under
  have h1 := msg_one
  have ht := msg_types
  obtain ⟨f0, f1, hf⟩ := array2 (cs := Tryd.prog.fieldsOf 24) (by simpa using congrArg List.length ht)
  rw [hf] at hu h1 ht
  obtain ⟨t0, t1⟩ : f0.type = 3 ∧ f1.type = 22 := by simpa using ht
  obtain ⟨o0, k0⟩ := hone_of h1 0 f0 rfl
  obtain ⟨o1, k1⟩ := hone_of h1 1 f1 rfl
  obtain ⟨y0, y1, n, _, _, g0, g1⟩ := trod_struct2 hu h
  rw [o0, k0, t0] at g0
  rw [o1, k1, t1] at g1
  simp only [List.drop_zero, List.drop_succ_cons, List.take_succ_cons, List.take_zero] at g0 g1
  obtain ⟨k, e0, _, _⟩ := DataW.trod_int Tryd.underlying3 g0
  obtain ⟨q, l, c, ys, rfl, hb, hn, hcl, hm⟩ := bytes_of_trod g1
  subst hn
  simp only [List.cons.injEq, and_true] at e0
  subst e0
  exact ⟨⟨k, q, ys, c⟩, hat 0 (by omega), hat 1 (by omega), hb, hcl, hm⟩

theorem open_msgs {H : Type} {enc : TypeId × Value → H} {w : World} {base b0 : Nat} {spare : Nat → Bool} {held : Bool} {r : Reach} {v : Value} {d : DataW H} {p : List MemPlace} (hv : Value.okWide Tryd.prog w r b0 38 v) (h : DataW.Trod enc Tryd.prog w base spare held 38 v d p) :
    ∃ x : Option Addr × List Msg × Nat, v = .slice x.1 x.2.1.length x.2.2 ∧ MsgsAt w x.1 x.2.1 := by
  obtain ⟨a0, len0, cap0, rfl⟩ := okWide_slice Tryd.underlying38 hv
  obtain ⟨fuel, hf⟩ := h
  rcases open_slice Tryd.underlying38 hf with ⟨hcs, _⟩ | ⟨a, l, c, m, n, D, Pl, hcs, _, hl, hm, hmm, _, hi⟩
  · simp [Value.cells] at hcs
    obtain ⟨rfl, rfl, rfl⟩ := hcs
    exact ⟨(none, [], 0), rfl, fun i m h => by simp at h, .inl rfl⟩
  · simp [Value.cells] at hcs
    obtain ⟨rfl, rfl, rfl⟩ := hcs
    have hlm : len0 ≤ m := by rw [hmm]; split <;> omega
    obtain ⟨ms, hml, hmp⟩ := choose_list (fun i (x : Msg) => w.cell? ((a.add (i * 2)).add 0) = some (.int .i64 x.k) ∧ w.cell? ((a.add (i * 2)).add 1) = some (.slice x.q x.ys.length x.c) ∧ BytesAt w x.q x.ys ∧ x.ys.length ≤ x.c ∧ x.c ≤ maxLen) len0 (fun i hilt => by
      obtain ⟨cs', hc', ht'⟩ := hi i (by omega)
      rw [msg_size] at hc'
      exact msg_at hc' ht')
    refine ⟨(some a, ms, cap0), by rw [hml], fun i x hx => (hmp i x hx).2.2, ?_⟩
    rcases ms with _ | ⟨m0, t⟩
    · exact .inl rfl
    · right
      obtain ⟨b, off, spot⟩ := a
      have h0 := (hmp 0 m0 rfl).1
      have hspot : spot = none := by
        have := World.cell?_spot h0
        simpa [Addr.add] using this
      subst hspot
      refine ⟨b, off, rfl, fun i x hx => ?_⟩
      have hx := hmp i x hx
      rw [add_lit', add_lit', add_lit'] at hx
      exact ⟨hx.1, hx.2.1⟩

theorem back_walk (w : World) (ht : Tab w) (x : Option Addr × List Msg × Nat) (hm : MsgsAt w x.1 x.2.1) (P : Int) (wf : (Lit.int .i64 P).wf = true) :
    Calls Tryd.prog 5 #[.slice x.1 x.2.1.length x.2.2, .int .i64 P] w fun e w' => e = .returned (.bool true) ∧ Below w.heap.size w w' := by
  by_cases h : 12 < x.2.1.length ∨ P < 1
  · exact back_out _ _ _ P w ht h
  · have hr : IntKind.i64.min ≤ P ∧ P ≤ IntKind.i64.max := by simpa [Lit.wf] using wf
    rw [show IntKind.i64.max = 9223372036854775807 from rfl] at hr
    obtain ⟨N, rfl⟩ := Int.eq_ofNat_of_zero_le (show 0 ≤ P by omega)
    exact back_in x.1 x.2.1 _ x.2.2 N w ht hm rfl (by omega) (by omega) (by omega)
end Go.Proofs.YtondoljehdhocaaDoor
