/- Attributes, as an argument. -/
import Derived.Test.YtcabiodgmhcdlaaDoorCdP
import Derived.Test.YtcabiodgmhcdlaaDoorA0
import Derived.Deep.Slices
import Derived.Deep.Fields
namespace Go.Proofs.YtcabiodgmhcdlaaDoor
open Go.ChangeShapes Go.WideShapes Go.ChangeAt Go.RowKit Go.Joins Go.Deep

theorem atT_under : Tryd.prog.underlying 26 = some (.struct (Tryd.prog.fieldsOf 26)) := by kernel_rfl
theorem atT_one : oneCellFields Tryd.prog (Tryd.prog.fieldsOf 26) = true := by kernel_rfl
theorem atT_size : Tryd.prog.cellsOf 26 = (Tryd.prog.fieldsOf 26).size := by kernel_rfl
theorem atT_types : (Tryd.prog.fieldsOf 26).map (·.type) = #[3, 22, 23, 3, 3, 24] := by kernel_rfl
theorem atT_field (j : Nat) (t : TypeId) (h : #[3, 22, 23, 3, 3, 24][j]? = some t) : ∃ f, (Tryd.prog.fieldsOf 26)[j]? = some f ∧ f.type = t := by
  rw [← atT_types, Array.getElem?_map] at h
  obtain ⟨f, hf, e⟩ := Option.map_eq_some_iff.1 h
  exact ⟨f, hf, e⟩
theorem ints_of_trod {H : Type} {enc : TypeId × Value → H} {w : World} {base : Nat} {spare : Nat → Bool} {held : Bool} {fuel : Nat} {v : Value} {x : DataW H × List MemPlace} (h : DataW.trod enc Tryd.prog w base spare held fuel 24 [v] = some x) :
    ∃ q n c xs, v = .slice q n c ∧ IntsAt w q xs ∧ xs.length = n ∧ n ≤ c ∧ c ≤ maxLen := by
  rcases open_ints Tryd.underlying24 Tryd.underlying3 (by kernel_rfl) h with ⟨hcs, _⟩ | ⟨a, l, c, zs, hcs, _, hl, hm, hz, _, hcell, hwz⟩
  · obtain rfl : v = .slice none 0 0 := by simpa using hcs
    exact ⟨none, 0, 0, [], rfl, .inl rfl, rfl, Nat.le_refl _, by unfold maxLen; omega⟩
  · obtain rfl : v = .slice (some a) l c := by simpa using hcs
    have hlz : l ≤ zs.length := by rw [hz]; split <;> omega
    refine ⟨some a, l, c, zs.take l, rfl, ?_, by rw [List.length_take]; omega, hl, hm⟩
    rcases Nat.eq_zero_or_pos l with h0 | h0
    · subst h0; exact .inl (by simp)
    · have h := hcell 0 (by omega)
      obtain ⟨b, off, spot⟩ := a
      have hspot : spot = none := by simpa [Addr.add] using World.cell?_spot h
      subst hspot
      refine .inr ⟨b, off, rfl, fun i hi => ?_⟩
      rw [List.length_take] at hi
      have hc := hcell i (by omega)
      rw [show (⟨b, off, none⟩ : Addr).add i = ⟨b, off + i, none⟩ from by unfold Addr.add; split <;> simp_all] at hc
      rw [hc]
      simp [List.getD, List.getElem?_take_of_lt (show i < l by omega)]
theorem chooseL {α : Type} (P : Nat → α → Prop) : ∀ (n : Nat), (∀ i, i < n → ∃ m, P i m) → ∃ ms : List α, ms.length = n ∧ ∀ (i : Nat) (m : α), ms[i]? = some m → P i m
  | 0, _ => ⟨[], rfl, fun i m h => by simp at h⟩
  | n + 1, h => by
    obtain ⟨ms, hl, hp⟩ := chooseL P n (fun i hi => h i (by omega))
    obtain ⟨m, hm⟩ := h n (by omega)
    refine ⟨ms ++ [m], by simp [hl], fun i x hx => ?_⟩
    rcases Nat.lt_or_ge i n with hi | hi
    · rw [List.getElem?_append_left (by omega)] at hx
      exact hp i x hx
    · rw [List.getElem?_append_right (by omega), hl] at hx
      have : i = n := by
        have := (List.getElem?_eq_some_iff.1 hx).1
        simp at this; omega
      subst this
      simp at hx
      exact hx ▸ hm
theorem sgT_under : Tryd.prog.underlying 42 = some (.struct (Tryd.prog.fieldsOf 42)) := by kernel_rfl
theorem sgT_one : oneCellFields Tryd.prog (Tryd.prog.fieldsOf 42) = true := by kernel_rfl
theorem sgT_size : Tryd.prog.cellsOf 42 = 2 := by kernel_rfl
theorem sgT_types : (Tryd.prog.fieldsOf 42).toList.map (·.type) = [4, 24] := by kernel_rfl
def SegHere (w : World) (a : Addr) (s : Seg) : Prop := w.cell? (a.add 0) = some (.bool s.set) ∧ ∃ q n c, w.cell? (a.add 1) = some (.slice q n c) ∧ s.nums.length = n ∧ n ≤ c ∧ c ≤ maxLen ∧ IntsAt w q s.nums
theorem seg_at {H : Type} {enc : TypeId × Value → H} {w : World} {base : Nat} {spare : Nat → Bool} {held : Bool} {fuel : Nat} {a : Addr} {cs : List Value} {x : DataW H × List MemPlace}
    (hc : w.cells? base a 2 = some cs) (h : DataW.trod enc Tryd.prog w base spare held fuel 42 cs = some x) : ∃ s : Seg, SegHere w a s := by
  obtain ⟨_, hlen, hat⟩ := World.cells?_some hc
  obtain ⟨c0, c1, rfl⟩ : ∃ c0 c1, cs = [c0, c1] := by
    match cs, hlen with
    | [c0, c1], _ => exact ⟨c0, c1, rfl⟩
  have hu := sgT_under
  have h1 := sgT_one
  have ht := sgT_types
  obtain ⟨f0, f1, hf⟩ := array2 (cs := Tryd.prog.fieldsOf 42) (by simpa using congrArg List.length ht)
  rw [hf] at hu h1 ht
  obtain ⟨t0, t1⟩ : f0.type = 4 ∧ f1.type = 24 := by simpa using ht
  obtain ⟨o0, k0⟩ := hone_of h1 0 f0 rfl
  obtain ⟨o1, k1⟩ := hone_of h1 1 f1 rfl
  obtain ⟨y0, y1, n, _, _, g0, g1⟩ := trod_struct2 hu h
  rw [o0, k0, t0] at g0
  rw [o1, k1, t1] at g1
  simp only [List.drop_zero, List.drop_succ_cons, List.take_succ_cons, List.take_zero] at g0 g1
  obtain ⟨k, e0, _⟩ := DataW.trod_bool Tryd.underlying4 g0
  obtain ⟨q, l, c, ys, rfl, hb, hn, hcl, hm⟩ := ints_of_trod g1
  simp only [List.cons.injEq, and_true] at e0
  subst e0
  exact ⟨⟨k, ys⟩, hat 0 (by omega), q, l, c, hat 1 (by omega), hn, hcl, hm, hb⟩
theorem segs_of_trod {H : Type} {enc : TypeId × Value → H} {w : World} {base : Nat} {spare : Nat → Bool} {held : Bool} {fuel : Nat} {v : Value} {x : DataW H × List MemPlace} (h : DataW.trod enc Tryd.prog w base spare held fuel 22 [v] = some x) :
    ∃ q n c l, v = .slice q n c ∧ SegsAt w q l ∧ l.length = n ∧ n ≤ c ∧ c ≤ maxLen := by
  rcases open_slice Tryd.underlying22 h with ⟨hcs, _⟩ | ⟨a, l, c, m, n, D, Pl, hcs, _, hl, hm, hmm, _, hi⟩
  · obtain rfl : v = .slice none 0 0 := by simpa using hcs
    exact ⟨none, 0, 0, [], rfl, .inl rfl, rfl, Nat.le_refl _, by unfold maxLen; omega⟩
  · obtain rfl : v = .slice (some a) l c := by simpa using hcs
    have hlm : l ≤ m := by rw [hmm]; split <;> omega
    obtain ⟨ms, hml, hmp⟩ := chooseL (fun i s => SegHere w (a.add (i * 2)) s) l (fun i hilt => by
      obtain ⟨cs', hc', ht'⟩ := hi i (by omega)
      rw [sgT_size] at hc'
      exact seg_at hc' ht')
    refine ⟨some a, l, c, ms, rfl, ?_, hml, hl, hm⟩
    rcases ms with _ | ⟨m0, t⟩
    · exact .inl rfl
    · right
      obtain ⟨b, off, spot⟩ := a
      have h0 := (hmp 0 m0 rfl).1
      have hspot : spot = none := by
        have := World.cell?_spot h0
        simpa [Addr.add] using this
      subst hspot
      refine ⟨b, off, rfl, fun i hi => ?_⟩
      have ad : ∀ o k, (⟨b, o, none⟩ : Addr).add k = ⟨b, o + k, none⟩ := fun o k => by unfold Addr.add; split <;> simp_all
      have hx := hmp i ((m0 :: t).getD i Seg.none) (by simp [List.getD, List.getElem?_eq_getElem hi])
      unfold SegHere at hx
      rw [ad, ad, ad] at hx
      exact hx
theorem arr_six {cs : Array Value} (h : cs.size = 6) : cs = #[cs.getD 0 undef, cs.getD 1 undef, cs.getD 2 undef, cs.getD 3 undef, cs.getD 4 undef, cs.getD 5 undef] := by
  obtain ⟨l⟩ := cs
  match l, h with
  | [a, b, c, d, e, f], _ => rfl
theorem open_attrs {H : Type} {enc : TypeId × Value → H} {w : World} {base b0 : Nat} {spare : Nat → Bool} {held : Bool} {r : Reach} {v : Value} {d : DataW H} {p : List MemPlace} (hv : Value.okWide Tryd.prog w r b0 26 v) (h : DataW.Trod enc Tryd.prog w base spare held 26 v d p) :
    ∃ x : At × Loc, v = .agg (atL x.1 x.2).toArray ∧ AtAt w x.1 x.2 := by
  obtain ⟨cs, n, rfl, hsz, hf⟩ := open_struct atT_under atT_one atT_size hv h
  have h6 : cs.size = 6 := by
    have := congrArg Array.size atT_types
    simp at this
    omega
  obtain ⟨f0, g0, t0⟩ := atT_field 0 _ rfl
  obtain ⟨f1, g1, t1⟩ := atT_field 1 _ rfl
  obtain ⟨f2, g2, t2⟩ := atT_field 2 _ rfl
  obtain ⟨f3, g3, t3⟩ := atT_field 3 _ rfl
  obtain ⟨f4, g4, t4⟩ := atT_field 4 _ rfl
  obtain ⟨f5, g5, t5⟩ := atT_field 5 _ rfl
  obtain ⟨y0, h0⟩ := hf 0 f0 g0
  obtain ⟨y1, h1⟩ := hf 1 f1 g1
  obtain ⟨y2, h2⟩ := hf 2 f2 g2
  obtain ⟨y3, h3⟩ := hf 3 f3 g3
  obtain ⟨y4, h4⟩ := hf 4 f4 g4
  obtain ⟨y5, h5⟩ := hf 5 f5 g5
  rw [t0] at h0
  rw [t1] at h1
  rw [t2] at h2
  rw [t3] at h3
  rw [t4] at h4
  rw [t5] at h5
  obtain ⟨a0, e0, _, _⟩ := DataW.trod_int Tryd.underlying3 h0
  obtain ⟨pp, pn, pc, path, e1, hp, hpn, hpc, hpm⟩ := segs_of_trod h1
  obtain ⟨a2, e2, _, w2⟩ := DataW.trod_int Tryd.underlying23 h2
  obtain ⟨a3, e3, _, _⟩ := DataW.trod_int Tryd.underlying3 h3
  obtain ⟨a4, e4, _, _⟩ := DataW.trod_int Tryd.underlying3 h4
  obtain ⟨cp, cn, cc, comms, e5, hc, hcn, hcc, hcm⟩ := ints_of_trod h5
  simp only [List.cons.injEq, and_true] at e0 e2 e3 e4
  have := u32_lits w2
  refine ⟨(⟨a0, path, a2, a3, a4, comms⟩, ⟨pp, pn, pc, cp, cn, cc⟩), ?_, hp, hpn, hpc, hpm, hc, hcn, hcc, hcm, this.1, this.2⟩
  rw [arr_six h6, e0, e1, e2, e3, e4, e5]
  rfl
end Go.Proofs.YtcabiodgmhcdlaaDoor
