/- Prefixes with their IDs that come as arguments. -/
import Derived.Test.YtgmcjejgginpjaaCdU
import Derived.Test.YtgmcjejgginpjaaMk8
import Derived.Test.YtgmcjejgginpjaaNlE
namespace Go.Proofs.Ytgmcjejgginpjaa
open Go.ChangeShapes Go.WideShapes Go.ChangeAt Go.RowKit Go.Joins Go.Deep

theorem nl_trod {H : Type} {enc : TypeId × Value → H} {w : World} {base : Nat} {spare : Nat → Bool} {held : Bool} {fuel : Nat} {c0 c1 c2 : Value} {x : DataW H × List MemPlace}
    (h : DataW.trod enc Try.prog w base spare held fuel 41 [c0, c1, c2] = some x) : ∃ m : Nl, okN m ∧ c0 = .int .i64 m.id ∧ c1 = .int .u32 m.addr ∧ c2 = .int .i64 m.len := by
  have hu := nl_und
  have hf := nl_flds
  obtain ⟨f0, f1, hff⟩ := array2 (cs := Try.prog.fieldsOf 41) (by simpa using congrArg List.length hf)
  rw [hff] at hf hu
  simp only [List.map_cons, List.map_nil, List.cons.injEq, Prod.mk.injEq, and_true] at hf
  obtain ⟨⟨t0, o0, _⟩, t1, o1, _⟩ := hf
  obtain ⟨y0, y1, n, _, _, g0, g1⟩ := trod_struct2 hu h
  rw [t0, o0, int_cells] at g0
  rw [t1, o1, pf_cells] at g1
  simp only [List.drop_zero, List.drop_succ_cons, List.take_succ_cons, List.take_zero] at g0 g1
  have hu2 := pf_und
  have hf2 := pf_flds
  obtain ⟨k0, k1, hkk⟩ := array2 (cs := Try.prog.fieldsOf 39) (by simpa using congrArg List.length hf2)
  rw [hkk] at hf2 hu2
  simp only [List.map_cons, List.map_nil, List.cons.injEq, Prod.mk.injEq, and_true] at hf2
  obtain ⟨⟨t2, o2, _⟩, t3, o3, _⟩ := hf2
  obtain ⟨z0, z1, n2, _, _, r0, r1⟩ := trod_struct2 hu2 g1
  rw [t2, o2, u32_cells] at r0
  rw [t3, o3, int_cells] at r1
  simp only [List.drop_zero, List.drop_succ_cons, List.take_succ_cons, List.take_zero] at r0 r1
  obtain ⟨i, e0, _, w0⟩ := DataW.trod_int Try.underlying3 g0
  obtain ⟨a, e1, _, w1⟩ := DataW.trod_int Try.underlying37 r0
  obtain ⟨m, e2, _, w2⟩ := DataW.trod_int Try.underlying3 r1
  simp only [List.cons.injEq, and_true] at e0 e1 e2
  exact ⟨⟨i, a, m⟩, ⟨w0, w1, w2⟩, e0, e1, e2⟩
theorem choose_list {α : Type} (P : Nat → α → Prop) : ∀ (n : Nat), (∀ i, i < n → ∃ m, P i m) → ∃ ms : List α, ms.length = n ∧ ∀ (i : Nat) (m : α), ms[i]? = some m → P i m
  | 0, _ => ⟨[], rfl, fun i m h => by simp at h⟩
  | n + 1, h => by
    obtain ⟨ms, hl, hp⟩ := choose_list P n (fun i hi => h i (by omega))
    obtain ⟨m, hm⟩ := h n (by omega)
    refine ⟨ms ++ [m], by simp [hl], fun i x hx => ?_⟩
    rcases Nat.lt_or_ge i n with hi | hi
    · rw [List.getElem?_append_left (by omega)] at hx
      exact hp i x hx
    · rw [List.getElem?_append_right (by omega), hl] at hx
      have : i = n := by
        have := (List.getElem?_eq_some_iff.1 hx).1
        simp at this; omega
      subst this
      simp at hx
      exact hx ▸ hm
/-- A list of them, as it comes. -/
structure NlsArg (w : World) (x : Option Addr × List Nl × Nat) : Prop where
  at_ : NlsAt w x.1 x.2.1
  ok : ∀ m ∈ x.2.1, okN m
  le : x.2.1.length ≤ x.2.2
  max : x.2.2 ≤ maxLen
set_option maxRecDepth 100000 in
theorem open_nls {H : Type} {enc : TypeId × Value → H} {w : World} {base b0 : Nat} {spare : Nat → Bool} {held : Bool} {r : Reach} {v : Value} {d : DataW H} {p : List MemPlace} (hv : Value.okWide Try.prog w r b0 22 v) (h : DataW.Trod enc Try.prog w base spare held 22 v d p) :
    ∃ x : Option Addr × List Nl × Nat, v = .slice x.1 x.2.1.length x.2.2 ∧ NlsArg w x := by
  obtain ⟨a0, len0, cap0, rfl⟩ := okWide_slice Try.underlying22 hv
  obtain ⟨fuel, hf⟩ := h
  rcases open_slice Try.underlying22 hf with ⟨hcs, _⟩ | ⟨a, l, c, m, n, D, Pl, hcs, _, hl, hm, hmm, _, hi⟩
  · simp [Value.cells] at hcs
    obtain ⟨rfl, rfl, rfl⟩ := hcs
    exact ⟨(none, [], 0), rfl, NlsAt.nil _ _, fun m h => by simp at h, Nat.le_refl _, Nat.zero_le _⟩
  · simp [Value.cells] at hcs
    obtain ⟨rfl, rfl, rfl⟩ := hcs
    have hlm : len0 ≤ m := by rw [hmm]; split <;> omega
    obtain ⟨ms, hml, hmp⟩ := choose_list (fun i (x : Nl) => okN x ∧ w.cell? ((a.add (i * 3)).add 0) = some (.int .i64 x.id) ∧ w.cell? ((a.add (i * 3)).add 1) = some (.int .u32 x.addr) ∧ w.cell? ((a.add (i * 3)).add 2) = some (.int .i64 x.len)) len0 (fun i hil => by
      obtain ⟨cs', hc', ht'⟩ := hi i (by omega)
      rw [nl_cells] at hc'
      obtain ⟨_, hlen, hat⟩ := World.cells?_some hc'
      obtain ⟨c0, c1, c2, rfl⟩ : ∃ c0 c1 c2, cs' = [c0, c1, c2] := by
        match cs', hlen with
        | [c0, c1, c2], _ => exact ⟨c0, c1, c2, rfl⟩
      obtain ⟨x, hx, rfl, rfl, rfl⟩ := nl_trod ht'
      exact ⟨x, hx, hat 0 (by omega), hat 1 (by omega), hat 2 (by omega)⟩)
    have hokm : ∀ x ∈ ms, okN x := fun x hx => by
      obtain ⟨i, hi', he⟩ := List.getElem_of_mem hx
      exact (hmp i x (by rw [List.getElem?_eq_getElem hi', he])).1
    refine ⟨(some a, ms, cap0), by rw [hml], ⟨⟨fun i hi' => ?_, ?_⟩, hokm, by simpa [hml] using hl, hm⟩⟩
    · exact okN_addr (hokm _ (by simp [List.getD, show i < ms.length from hi']))
    · rcases ms with _ | ⟨m0, t⟩
      · exact .inl rfl
      · right
        obtain ⟨b, off, spot⟩ := a
        have h0 := (hmp 0 m0 rfl).2.1
        have hspot : spot = none := by
          have := World.cell?_spot h0
          simpa [Addr.add] using this
        subst hspot
        refine ⟨b, off, rfl, fun i hi' => ?_⟩
        have hx := hmp i ((m0 :: t).getD i Nl.none) (by simp only [List.getD]; rw [List.getElem?_eq_getElem hi']; rfl)
        rw [add_litN, add_litN, add_litN, add_litN] at hx
        exact hx.2
set_option maxRecDepth 100000 in
theorem open_nl {H : Type} {enc : TypeId × Value → H} {w : World} {base b0 : Nat} {spare : Nat → Bool} {held : Bool} {r : Reach} {v : Value} {d : DataW H} {p : List MemPlace} (hv : Value.okWide Try.prog w r b0 41 v) (h : DataW.Trod enc Try.prog w base spare held 41 v d p) :
    ∃ x : Nl, v = .agg #[.int .i64 x.id, .int .u32 x.addr, .int .i64 x.len] ∧ okN x := by
  obtain ⟨cs, rfl, hsz⟩ := okWide_struct nl_und hv
  obtain ⟨c0, c1, c2, rfl⟩ := array3 (cs := cs) (by rw [hsz, nl_cells])
  obtain ⟨fuel, hf⟩ := h
  obtain ⟨x, hx, rfl, rfl, rfl⟩ := nl_trod (show DataW.trod enc Try.prog w base spare held fuel 41 [c0, c1, c2] = some (d, p) from hf)
  exact ⟨x, rfl, hx⟩

theorem livesN_holds : LivesN := fun u => lives06_any u
theorem puts06_walk (w : World) (x : Option Addr × List Nl × Nat) (hx : NlsArg w x) (paths : Bool) :
    Calls Try.prog 3 #[.slice x.1 x.2.1.length x.2.2, .bool paths] w fun e w' => e = .returned (.bool true) ∧ Below w.heap.size w w' :=
  nlriPuts_if livesN_holds _ _ _ _ paths w hx.at_ rfl (Nat.le_trans hx.le hx.max)
theorem gets06_walk (w : World) (p : Option Addr) (xs : List Int) (c : Nat) (hb : BytesAt w p xs) (hc : xs.length ≤ c) (hm : c ≤ maxLen) (paths : Bool) :
    Calls Try.prog 4 #[.slice p xs.length c, .bool paths] w fun e w' => e = .returned (.bool true) ∧ Below w.heap.size w w' :=
  nlriGets_if livesN_holds p xs _ c paths w hb rfl hc hm
end Go.Proofs.Ytgmcjejgginpjaa
