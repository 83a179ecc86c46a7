/- What frames have in common: bytes, and structs of one-cell fields, that come as arguments. / update: prefixes with their IDs that come as arguments. / update: attributes, as an argument. / update: what the frames want: the table, a world for the witness. / update: an update as an argument; UpdatePuts, as its frame takes it. -/
import Derived.Test.YtpeagakpmjnelaaDoorByA
import Derived.ProofKit
import Derived.OpenShut
import Derived.ShutString
import Derived.ChangeOld
import Derived.Deep.DeepHandedRow
import Derived.Lib.SmallJoins
import Derived.Below
import Derived.Deep.Slices
import Derived.Deep.Fields
import Derived.Test.YtpeagakpmjnelaaDoorUqB
import Derived.Test.YtpeagakpmjnelaaDoorA0
import Derived.Test.YtpeagakpmjnelaaDoorCards
import Derived.Test.YtpeagakpmjnelaaDoorTie
import Derived.Lib.LaidTab
import Derived.Test.YtpeagakpmjnelaaDoorUpB
namespace Go.Proofs.YtpeagakpmjnelaaDoor
open Go.ChangeShapes Go.WideShapes Go.ChangeAt Go.RowKit Go.Joins Go.Deep

theorem ownKnobs : ownKnob Tryd.prog.godebug = none := by kernel_rfl
theorem laidOut : laidOutB Tryd.prog = true := by kernel_rfl
set_option maxRecDepth 100000 in
theorem bytes_of_trod {H : Type} {enc : TypeId × Value → H} {w : World} {base : Nat} {spare : Nat → Bool} {held : Bool} {fuel : Nat} {v : Value} {x : DataW H × List MemPlace} (h : DataW.trod enc Tryd.prog w base spare held fuel 32 [v] = some x) :
    ∃ q n c ys, v = .slice q n c ∧ BytesAt w q ys ∧ ys.length = n ∧ n ≤ c ∧ c ≤ maxLen := by
  rcases open_ints Tryd.underlying32 Tryd.underlying5 (by kernel_rfl) h with ⟨hcs, _⟩ | ⟨a, l, c, zs, hcs, _, hl, hm, hz, _, hcell, hwz⟩
  · obtain rfl : v = .slice none 0 0 := by simpa using hcs
    exact ⟨none, 0, 0, [], rfl, BytesAt.nil _ _, rfl, Nat.le_refl _, by unfold maxLen; omega⟩
  · obtain rfl : v = .slice (some a) l c := by simpa using hcs
    have hlz : l ≤ zs.length := by rw [hz]; split <;> omega
    obtain ⟨ys, hy1, hy2⟩ := bytesOfArg (c := zs.length) hlz rfl hcell hwz
    exact ⟨some a, l, c, ys, rfl, hy2, hy1.symm, hl, hm⟩
set_option maxRecDepth 100000 in
theorem open_bytes {H : Type} {enc : TypeId × Value → H} {w : World} {base b0 : Nat} {spare : Nat → Bool} {held : Bool} {r : Reach} {v : Value} {d : DataW H} {p : List MemPlace} (hv : Value.okWide Tryd.prog w r b0 32 v) (h : DataW.Trod enc Tryd.prog w base spare held 32 v d p) :
    ∃ (q : Option Addr) (ys : List Int) (c : Nat), v = .slice q ys.length c ∧ BytesAt w q ys ∧ ys.length ≤ c ∧ c ≤ maxLen := by
  obtain ⟨a0, len0, cap0, rfl⟩ := okWide_slice Tryd.underlying32 hv
  obtain ⟨fuel, hf⟩ := h
  have hf' : DataW.trod enc Tryd.prog w base spare held fuel 32 [.slice a0 len0 cap0] = some (d, p) := hf
  obtain ⟨q, n, c, ys, e, hb, hn, hc, hm⟩ := bytes_of_trod hf'
  cases e
  subst hn
  exact ⟨a0, ys, cap0, rfl, hb, hc, hm⟩
/-- A struct of one-cell fields, by value: each field reads by itself. -/
theorem open_struct {H : Type} {enc : TypeId × Value → H} {P : Program} {w : World} {base b0 : Nat} {spare : Nat → Bool} {held : Bool} {r : Reach} {t : TypeId} {fs : Array Field} {v : Value} {d : DataW H} {p : List MemPlace}
    (hs : P.underlying t = some (.struct fs)) (hone : oneCellFields P fs = true) (hC : P.cellsOf t = fs.size) (hv : Value.okWide P w r b0 t v) (h : DataW.Trod enc P w base spare held t v d p) :
    ∃ (cs : Array Value) (n : Nat), v = .agg cs ∧ cs.size = fs.size ∧ ∀ (j : Nat) (f : Field), fs[j]? = some f → ∃ y, DataW.trod enc P w base spare held n f.type [cs.getD j undef] = some y := by
  obtain ⟨cs, rfl, hsz⟩ := okWide_struct hs hv
  obtain ⟨fuel, hf⟩ := h
  obtain ⟨xs, n, _, _, _, hlen, hg⟩ := DataW.trod_struct hs hf
  refine ⟨cs, n, rfl, hsz.trans hC, fun j f hj => ?_⟩
  obtain ⟨ho, hk⟩ := hone_of hone j f hj
  have hjl : j < fs.size := (Array.getElem?_eq_some_iff.1 hj).1
  have hjc : j < cs.size := by rw [hsz, hC]; exact hjl
  have h1 := hg j f hj
  rw [ho, hk] at h1
  have e : List.take 1 (List.drop j (Value.agg cs).cells.toList) = [cs.getD j undef] := by
    simp only [Value.cells]
    rw [List.drop_eq_getElem_cons (show j < cs.toList.length by simpa using hjc), List.take_succ_cons, List.take_zero]
    simp [hjc]
  rw [e] at h1
  have hx : xs[j]? = some (xs[j]'(by omega)) := List.getElem?_eq_getElem (by omega)
  exact ⟨_, h1.trans hx⟩
theorem arr_five {cs : Array Value} (h : cs.size = 5) : cs = #[cs.getD 0 undef, cs.getD 1 undef, cs.getD 2 undef, cs.getD 3 undef, cs.getD 4 undef] := by
  obtain ⟨l⟩ := cs
  match l, h with
  | [a, b, c, d, e], _ => rfl
theorem u32_lits {n : Int} (h : (Lit.int .u32 n).wf = true) : 0 ≤ n ∧ n ≤ 4294967295 := by
  simp [Lit.wf, IntKind.min, IntKind.max, IntKind.signed, IntKind.bits] at h
  omega
end Go.Proofs.YtpeagakpmjnelaaDoor
namespace Go.Proofs.YtpeagakpmjnelaaDoor
open Go.ChangeShapes Go.WideShapes Go.ChangeAt Go.RowKit Go.Joins Go.Deep
set_option linter.unusedVariables false
set_option linter.unusedSimpArgs false

theorem nl_cells : Tryd.prog.cellsOf 56 = 3 := by kernel_rfl
theorem pf_cells : Tryd.prog.cellsOf 54 = 2 := by kernel_rfl
theorem nl_flds : (Tryd.prog.fieldsOf 56).toList.map (fun f => (f.type, f.offset, f.name != "_")) = [(3, 0, true), (54, 1, true)] := by kernel_rfl
theorem pf_flds : (Tryd.prog.fieldsOf 54).toList.map (fun f => (f.type, f.offset, f.name != "_")) = [(24, 0, true), (3, 1, true)] := by kernel_rfl
theorem nl_und : Tryd.prog.underlying 56 = some (.struct (Tryd.prog.fieldsOf 56)) := by kernel_rfl
theorem pf_und : Tryd.prog.underlying 54 = some (.struct (Tryd.prog.fieldsOf 54)) := by kernel_rfl
theorem int_cells : Tryd.prog.cellsOf 3 = 1 := by kernel_rfl
theorem u32_cells : Tryd.prog.cellsOf 24 = 1 := by kernel_rfl
def okN (x : Nl) : Prop := (Lit.int .i64 x.id).wf = true ∧ (Lit.int .u32 x.addr).wf = true ∧ (Lit.int .i64 x.len).wf = true
theorem okN_addr {x : Nl} (h : okN x) : InAddr x := by
  obtain ⟨_, h, _⟩ := h
  simp [Lit.wf, IntKind.min, IntKind.max, IntKind.signed, IntKind.bits] at h
  unfold InAddr; omega
instance : Inhabited Nl := ⟨Nl.none⟩
theorem nl_trod {H : Type} {enc : TypeId × Value → H} {w : World} {base : Nat} {spare : Nat → Bool} {held : Bool} {fuel : Nat} {c0 c1 c2 : Value} {x : DataW H × List MemPlace}
    (h : DataW.trod enc Tryd.prog w base spare held fuel 56 [c0, c1, c2] = some x) : ∃ m : Nl, okN m ∧ c0 = .int .i64 m.id ∧ c1 = .int .u32 m.addr ∧ c2 = .int .i64 m.len := by
  have hu := nl_und
  have hf := nl_flds
  obtain ⟨f0, f1, hff⟩ := array2 (cs := Tryd.prog.fieldsOf 56) (by simpa using congrArg List.length hf)
  rw [hff] at hf hu
  simp only [List.map_cons, List.map_nil, List.cons.injEq, Prod.mk.injEq, and_true] at hf
  obtain ⟨⟨t0, o0, _⟩, t1, o1, _⟩ := hf
  obtain ⟨y0, y1, n, _, _, g0, g1⟩ := trod_struct2 hu h
  rw [t0, o0, int_cells] at g0
  rw [t1, o1, pf_cells] at g1
  simp only [List.drop_zero, List.drop_succ_cons, List.take_succ_cons, List.take_zero] at g0 g1
  have hu2 := pf_und
  have hf2 := pf_flds
  obtain ⟨k0, k1, hkk⟩ := array2 (cs := Tryd.prog.fieldsOf 54) (by simpa using congrArg List.length hf2)
  rw [hkk] at hf2 hu2
  simp only [List.map_cons, List.map_nil, List.cons.injEq, Prod.mk.injEq, and_true] at hf2
  obtain ⟨⟨t2, o2, _⟩, t3, o3, _⟩ := hf2
  obtain ⟨z0, z1, n2, _, _, r0, r1⟩ := trod_struct2 hu2 g1
  rw [t2, o2, u32_cells] at r0
  rw [t3, o3, int_cells] at r1
  simp only [List.drop_zero, List.drop_succ_cons, List.take_succ_cons, List.take_zero] at r0 r1
  obtain ⟨i, e0, _, w0⟩ := DataW.trod_int Tryd.underlying3 g0
  obtain ⟨a, e1, _, w1⟩ := DataW.trod_int Tryd.underlying24 r0
  obtain ⟨m, e2, _, w2⟩ := DataW.trod_int Tryd.underlying3 r1
  simp only [List.cons.injEq, and_true] at e0 e1 e2
  exact ⟨⟨i, a, m⟩, ⟨w0, w1, w2⟩, e0, e1, e2⟩
theorem choose_list {α : Type} (P : Nat → α → Prop) : ∀ (n : Nat), (∀ i, i < n → ∃ m, P i m) → ∃ ms : List α, ms.length = n ∧ ∀ (i : Nat) (m : α), ms[i]? = some m → P i m
  | 0, _ => ⟨[], rfl, fun i m h => by simp at h⟩
  | n + 1, h => by
    obtain ⟨ms, hl, hp⟩ := choose_list P n (fun i hi => h i (by omega))
    obtain ⟨m, hm⟩ := h n (by omega)
    refine ⟨ms ++ [m], by simp [hl], fun i x hx => ?_⟩
    rcases Nat.lt_or_ge i n with hi | hi
    · rw [List.getElem?_append_left (by omega)] at hx
      exact hp i x hx
    · rw [List.getElem?_append_right (by omega), hl] at hx
      have : i = n := by
        have := (List.getElem?_eq_some_iff.1 hx).1
        simp at this; omega
      subst this
      simp at hx
      exact hx ▸ hm
/-- A list of them, as it comes. -/
structure NlsArg (w : World) (x : Option Addr × List Nl × Nat) : Prop where
  at_ : NlsAt w x.1 x.2.1
  ok : ∀ m ∈ x.2.1, okN m
  le : x.2.1.length ≤ x.2.2
  max : x.2.2 ≤ maxLen
set_option maxRecDepth 100000 in
theorem open_nls {H : Type} {enc : TypeId × Value → H} {w : World} {base b0 : Nat} {spare : Nat → Bool} {held : Bool} {r : Reach} {v : Value} {d : DataW H} {p : List MemPlace} (hv : Value.okWide Tryd.prog w r b0 22 v) (h : DataW.Trod enc Tryd.prog w base spare held 22 v d p) :
    ∃ x : Option Addr × List Nl × Nat, v = .slice x.1 x.2.1.length x.2.2 ∧ NlsArg w x := by
  obtain ⟨a0, len0, cap0, rfl⟩ := okWide_slice Tryd.underlying22 hv
  obtain ⟨fuel, hf⟩ := h
  rcases open_slice Tryd.underlying22 hf with ⟨hcs, _⟩ | ⟨a, l, c, m, n, D, Pl, hcs, _, hl, hm, hmm, _, hi⟩
  · simp [Value.cells] at hcs
    obtain ⟨rfl, rfl, rfl⟩ := hcs
    exact ⟨(none, [], 0), rfl, NlsAt.nil _ _, fun m h => by simp at h, Nat.le_refl _, Nat.zero_le _⟩
  · simp [Value.cells] at hcs
    obtain ⟨rfl, rfl, rfl⟩ := hcs
    have hlm : len0 ≤ m := by rw [hmm]; split <;> omega
    obtain ⟨ms, hml, hmp⟩ := choose_list (fun i (x : Nl) => okN x ∧ w.cell? ((a.add (i * 3)).add 0) = some (.int .i64 x.id) ∧ w.cell? ((a.add (i * 3)).add 1) = some (.int .u32 x.addr) ∧ w.cell? ((a.add (i * 3)).add 2) = some (.int .i64 x.len)) len0 (fun i hil => by
      obtain ⟨cs', hc', ht'⟩ := hi i (by omega)
      rw [nl_cells] at hc'
      obtain ⟨_, hlen, hat⟩ := World.cells?_some hc'
      obtain ⟨c0, c1, c2, rfl⟩ : ∃ c0 c1 c2, cs' = [c0, c1, c2] := by
        match cs', hlen with
        | [c0, c1, c2], _ => exact ⟨c0, c1, c2, rfl⟩
      obtain ⟨x, hx, rfl, rfl, rfl⟩ := nl_trod ht'
      exact ⟨x, hx, hat 0 (by omega), hat 1 (by omega), hat 2 (by omega)⟩)
    have hokm : ∀ x ∈ ms, okN x := fun x hx => by
      obtain ⟨i, hi', he⟩ := List.getElem_of_mem hx
      exact (hmp i x (by rw [List.getElem?_eq_getElem hi', he])).1
    refine ⟨(some a, ms, cap0), by rw [hml], ⟨⟨fun i hi' => ?_, ?_⟩, hokm, by simpa [hml] using hl, hm⟩⟩
    · exact okN_addr (hokm _ (by simp [List.getD, show i < ms.length from hi']))
    · rcases ms with _ | ⟨m0, t⟩
      · exact .inl rfl
      · right
        obtain ⟨b, off, spot⟩ := a
        have h0 := (hmp 0 m0 rfl).2.1
        have hspot : spot = none := by
          have := World.cell?_spot h0
          simpa [Addr.add] using this
        subst hspot
        refine ⟨b, off, rfl, fun i hi' => ?_⟩
        have hx := hmp i ((m0 :: t).getD i Nl.none) (by simp only [List.getD]; rw [List.getElem?_eq_getElem hi']; rfl)
        rw [add_litN, add_litN, add_litN, add_litN] at hx
        exact hx.2
set_option maxRecDepth 100000 in
theorem open_nl {H : Type} {enc : TypeId × Value → H} {w : World} {base b0 : Nat} {spare : Nat → Bool} {held : Bool} {r : Reach} {v : Value} {d : DataW H} {p : List MemPlace} (hv : Value.okWide Tryd.prog w r b0 56 v) (h : DataW.Trod enc Tryd.prog w base spare held 56 v d p) :
    ∃ x : Nl, v = .agg #[.int .i64 x.id, .int .u32 x.addr, .int .i64 x.len] ∧ okN x := by
  obtain ⟨cs, rfl, hsz⟩ := okWide_struct nl_und hv
  obtain ⟨c0, c1, c2, rfl⟩ := array3 (cs := cs) (by rw [hsz, nl_cells])
  obtain ⟨fuel, hf⟩ := h
  obtain ⟨x, hx, rfl, rfl, rfl⟩ := nl_trod (show DataW.trod enc Tryd.prog w base spare held fuel 56 [c0, c1, c2] = some (d, p) from hf)
  exact ⟨x, rfl, hx⟩
end Go.Proofs.YtpeagakpmjnelaaDoor
namespace Go.Proofs.YtpeagakpmjnelaaDoor.Ax
open Go.ChangeShapes Go.WideShapes Go.ChangeAt Go.RowKit Go.Joins Go.Deep
set_option maxRecDepth 100000
set_option linter.unusedVariables false
set_option linter.unusedSimpArgs false

theorem atT_under : Tryd.prog.underlying 27 = some (.struct (Tryd.prog.fieldsOf 27)) := by kernel_rfl
theorem atT_one : oneCellFields Tryd.prog (Tryd.prog.fieldsOf 27) = true := by kernel_rfl
theorem atT_size : Tryd.prog.cellsOf 27 = (Tryd.prog.fieldsOf 27).size := by kernel_rfl
theorem atT_types : (Tryd.prog.fieldsOf 27).map (·.type) = #[3, 23, 24, 3, 3, 25] := by kernel_rfl
theorem atT_field (j : Nat) (t : TypeId) (h : #[3, 23, 24, 3, 3, 25][j]? = some t) : ∃ f, (Tryd.prog.fieldsOf 27)[j]? = some f ∧ f.type = t := by
  rw [← atT_types, Array.getElem?_map] at h
  obtain ⟨f, hf, e⟩ := Option.map_eq_some_iff.1 h
  exact ⟨f, hf, e⟩
theorem ints_of_trod {H : Type} {enc : TypeId × Value → H} {w : World} {base : Nat} {spare : Nat → Bool} {held : Bool} {fuel : Nat} {v : Value} {x : DataW H × List MemPlace} (h : DataW.trod enc Tryd.prog w base spare held fuel 25 [v] = some x) :
    ∃ q n c xs, v = .slice q n c ∧ IntsAt w q xs ∧ xs.length = n ∧ n ≤ c ∧ c ≤ maxLen := by
  rcases open_ints Tryd.underlying25 Tryd.underlying3 (by kernel_rfl) h with ⟨hcs, _⟩ | ⟨a, l, c, zs, hcs, _, hl, hm, hz, _, hcell, hwz⟩
  · obtain rfl : v = .slice none 0 0 := by simpa using hcs
    exact ⟨none, 0, 0, [], rfl, .inl rfl, rfl, Nat.le_refl _, by unfold maxLen; omega⟩
  · obtain rfl : v = .slice (some a) l c := by simpa using hcs
    have hlz : l ≤ zs.length := by rw [hz]; split <;> omega
    refine ⟨some a, l, c, zs.take l, rfl, ?_, by rw [List.length_take]; omega, hl, hm⟩
    rcases Nat.eq_zero_or_pos l with h0 | h0
    · subst h0; exact .inl (by simp)
    · have h := hcell 0 (by omega)
      obtain ⟨b, off, spot⟩ := a
      have hspot : spot = none := by simpa [Addr.add] using World.cell?_spot h
      subst hspot
      refine .inr ⟨b, off, rfl, fun i hi => ?_⟩
      rw [List.length_take] at hi
      have hc := hcell i (by omega)
      rw [show (⟨b, off, none⟩ : Addr).add i = ⟨b, off + i, none⟩ from by unfold Addr.add; split <;> simp_all] at hc
      rw [hc]
      simp [List.getD, List.getElem?_take_of_lt (show i < l by omega)]
theorem chooseL {α : Type} (P : Nat → α → Prop) : ∀ (n : Nat), (∀ i, i < n → ∃ m, P i m) → ∃ ms : List α, ms.length = n ∧ ∀ (i : Nat) (m : α), ms[i]? = some m → P i m
  | 0, _ => ⟨[], rfl, fun i m h => by simp at h⟩
  | n + 1, h => by
    obtain ⟨ms, hl, hp⟩ := chooseL P n (fun i hi => h i (by omega))
    obtain ⟨m, hm⟩ := h n (by omega)
    refine ⟨ms ++ [m], by simp [hl], fun i x hx => ?_⟩
    rcases Nat.lt_or_ge i n with hi | hi
    · rw [List.getElem?_append_left (by omega)] at hx
      exact hp i x hx
    · rw [List.getElem?_append_right (by omega), hl] at hx
      have : i = n := by
        have := (List.getElem?_eq_some_iff.1 hx).1
        simp at this; omega
      subst this
      simp at hx
      exact hx ▸ hm
theorem sgT_under : Tryd.prog.underlying 88 = some (.struct (Tryd.prog.fieldsOf 88)) := by kernel_rfl
theorem sgT_one : oneCellFields Tryd.prog (Tryd.prog.fieldsOf 88) = true := by kernel_rfl
theorem sgT_size : Tryd.prog.cellsOf 88 = 2 := by kernel_rfl
theorem sgT_types : (Tryd.prog.fieldsOf 88).toList.map (·.type) = [4, 25] := by kernel_rfl
def SegHere (w : World) (a : Addr) (s : Seg) : Prop := w.cell? (a.add 0) = some (.bool s.set) ∧ ∃ q n c, w.cell? (a.add 1) = some (.slice q n c) ∧ s.nums.length = n ∧ n ≤ c ∧ c ≤ maxLen ∧ IntsAt w q s.nums
theorem seg_at {H : Type} {enc : TypeId × Value → H} {w : World} {base : Nat} {spare : Nat → Bool} {held : Bool} {fuel : Nat} {a : Addr} {cs : List Value} {x : DataW H × List MemPlace}
    (hc : w.cells? base a 2 = some cs) (h : DataW.trod enc Tryd.prog w base spare held fuel 88 cs = some x) : ∃ s : Seg, SegHere w a s := by
  obtain ⟨_, hlen, hat⟩ := World.cells?_some hc
  obtain ⟨c0, c1, rfl⟩ : ∃ c0 c1, cs = [c0, c1] := by
    match cs, hlen with
    | [c0, c1], _ => exact ⟨c0, c1, rfl⟩
  have hu := sgT_under
  have h1 := sgT_one
  have ht := sgT_types
  obtain ⟨f0, f1, hf⟩ := array2 (cs := Tryd.prog.fieldsOf 88) (by simpa using congrArg List.length ht)
  rw [hf] at hu h1 ht
  obtain ⟨t0, t1⟩ : f0.type = 4 ∧ f1.type = 25 := by simpa using ht
  obtain ⟨o0, k0⟩ := hone_of h1 0 f0 rfl
  obtain ⟨o1, k1⟩ := hone_of h1 1 f1 rfl
  obtain ⟨y0, y1, n, _, _, g0, g1⟩ := trod_struct2 hu h
  rw [o0, k0, t0] at g0
  rw [o1, k1, t1] at g1
  simp only [List.drop_zero, List.drop_succ_cons, List.take_succ_cons, List.take_zero] at g0 g1
  obtain ⟨k, e0, _⟩ := DataW.trod_bool Tryd.underlying4 g0
  obtain ⟨q, l, c, ys, rfl, hb, hn, hcl, hm⟩ := ints_of_trod g1
  simp only [List.cons.injEq, and_true] at e0
  subst e0
  exact ⟨⟨k, ys⟩, hat 0 (by omega), q, l, c, hat 1 (by omega), hn, hcl, hm, hb⟩
theorem segs_of_trod {H : Type} {enc : TypeId × Value → H} {w : World} {base : Nat} {spare : Nat → Bool} {held : Bool} {fuel : Nat} {v : Value} {x : DataW H × List MemPlace} (h : DataW.trod enc Tryd.prog w base spare held fuel 23 [v] = some x) :
    ∃ q n c l, v = .slice q n c ∧ SegsAt w q l ∧ l.length = n ∧ n ≤ c ∧ c ≤ maxLen := by
  rcases open_slice Tryd.underlying23 h with ⟨hcs, _⟩ | ⟨a, l, c, m, n, D, Pl, hcs, _, hl, hm, hmm, _, hi⟩
  · obtain rfl : v = .slice none 0 0 := by simpa using hcs
    exact ⟨none, 0, 0, [], rfl, .inl rfl, rfl, Nat.le_refl _, by unfold maxLen; omega⟩
  · obtain rfl : v = .slice (some a) l c := by simpa using hcs
    have hlm : l ≤ m := by rw [hmm]; split <;> omega
    obtain ⟨ms, hml, hmp⟩ := chooseL (fun i s => SegHere w (a.add (i * 2)) s) l (fun i hilt => by
      obtain ⟨cs', hc', ht'⟩ := hi i (by omega)
      rw [sgT_size] at hc'
      exact seg_at hc' ht')
    refine ⟨some a, l, c, ms, rfl, ?_, hml, hl, hm⟩
    rcases ms with _ | ⟨m0, t⟩
    · exact .inl rfl
    · right
      obtain ⟨b, off, spot⟩ := a
      have h0 := (hmp 0 m0 rfl).1
      have hspot : spot = none := by
        have := World.cell?_spot h0
        simpa [Addr.add] using this
      subst hspot
      refine ⟨b, off, rfl, fun i hi => ?_⟩
      have ad : ∀ o k, (⟨b, o, none⟩ : Addr).add k = ⟨b, o + k, none⟩ := fun o k => by unfold Addr.add; split <;> simp_all
      have hx := hmp i ((m0 :: t).getD i Seg.none) (by simp [List.getD, List.getElem?_eq_getElem hi])
      unfold SegHere at hx
      rw [ad, ad, ad] at hx
      exact hx
theorem arr_six {cs : Array Value} (h : cs.size = 6) : cs = #[cs.getD 0 undef, cs.getD 1 undef, cs.getD 2 undef, cs.getD 3 undef, cs.getD 4 undef, cs.getD 5 undef] := by
  obtain ⟨l⟩ := cs
  match l, h with
  | [a, b, c, d, e, f], _ => rfl
theorem open_attrs {H : Type} {enc : TypeId × Value → H} {w : World} {base b0 : Nat} {spare : Nat → Bool} {held : Bool} {r : Reach} {v : Value} {d : DataW H} {p : List MemPlace} (hv : Value.okWide Tryd.prog w r b0 27 v) (h : DataW.Trod enc Tryd.prog w base spare held 27 v d p) :
    ∃ x : At × Loc, v = .agg (atL x.1 x.2).toArray ∧ AtAt w x.1 x.2 := by
  obtain ⟨cs, n, rfl, hsz, hf⟩ := open_struct atT_under atT_one atT_size hv h
  have h6 : cs.size = 6 := by
    have := congrArg Array.size atT_types
    simp at this
    omega
  obtain ⟨f0, g0, t0⟩ := atT_field 0 _ rfl
  obtain ⟨f1, g1, t1⟩ := atT_field 1 _ rfl
  obtain ⟨f2, g2, t2⟩ := atT_field 2 _ rfl
  obtain ⟨f3, g3, t3⟩ := atT_field 3 _ rfl
  obtain ⟨f4, g4, t4⟩ := atT_field 4 _ rfl
  obtain ⟨f5, g5, t5⟩ := atT_field 5 _ rfl
  obtain ⟨y0, h0⟩ := hf 0 f0 g0
  obtain ⟨y1, h1⟩ := hf 1 f1 g1
  obtain ⟨y2, h2⟩ := hf 2 f2 g2
  obtain ⟨y3, h3⟩ := hf 3 f3 g3
  obtain ⟨y4, h4⟩ := hf 4 f4 g4
  obtain ⟨y5, h5⟩ := hf 5 f5 g5
  rw [t0] at h0
  rw [t1] at h1
  rw [t2] at h2
  rw [t3] at h3
  rw [t4] at h4
  rw [t5] at h5
  obtain ⟨a0, e0, _, _⟩ := DataW.trod_int Tryd.underlying3 h0
  obtain ⟨pp, pn, pc, path, e1, hp, hpn, hpc, hpm⟩ := segs_of_trod h1
  obtain ⟨a2, e2, _, w2⟩ := DataW.trod_int Tryd.underlying24 h2
  obtain ⟨a3, e3, _, _⟩ := DataW.trod_int Tryd.underlying3 h3
  obtain ⟨a4, e4, _, _⟩ := DataW.trod_int Tryd.underlying3 h4
  obtain ⟨cp, cn, cc, comms, e5, hc, hcn, hcc, hcm⟩ := ints_of_trod h5
  simp only [List.cons.injEq, and_true] at e0 e2 e3 e4
  have := u32_lits w2
  refine ⟨(⟨a0, path, a2, a3, a4, comms⟩, ⟨pp, pn, pc, cp, cn, cc⟩), ?_, hp, hpn, hpc, hpm, hc, hcn, hcc, hcm, this.1, this.2⟩
  rw [arr_six h6, e0, e1, e2, e3, e4, e5]
  rfl
end Go.Proofs.YtpeagakpmjnelaaDoor.Ax
namespace Go.Proofs.YtpeagakpmjnelaaDoor
open Go.ChangeShapes Go.WideShapes Go.ChangeAt Go.RowKit Go.Joins Go.Deep
set_option linter.unusedVariables false
set_option linter.unusedSimpArgs false

theorem tab_named : Tryd.prog.globalNamed "bypath/attr.ownFlags" = some 0 := by kernel_rfl
theorem tab_type : (Tryd.prog.globals[0]?).map (·.type) = some 136 := by kernel_rfl
theorem tab_cells : Tryd.prog.cellsOf 136 = 9 := by kernel_rfl
theorem table {W : World} (h : laidMetH Tryd.prog Rows.updateManyRow.laid W) : Ax.Tab W := fun i hi => by
  have ht := Lib.tabIs_of_head (rest := []) (k := .i64) (zs := [0, 64, 64, 64, 128, 64, 0, 0, 192]) tab_named tab_type Tryd.underlying136 Tryd.underlying3 int_cells tab_cells h
  have hc := ht.cell tab_named i hi
  exact hc
def litCells : DataW Unit → Array Value
  | .agg l => (l.map fun d => match d with | .lit (.int k n) => Value.int k n | _ => undef).toArray
  | _ => #[]
def holdAt (h : Array Obj) (g : Nat) (cs : Array Value) : Array Obj := h.modify g fun
  | .cells _ t frozen => .cells cs t frozen
  | o => o
noncomputable def laidWorld (os : Os) : World :=
  { World.holding Tryd.prog os ⟨#[], #[], []⟩ with heap := holdAt (World.holding Tryd.prog os ⟨#[], #[], []⟩).heap 0 (litCells Rows.laid_bypath_attr_ownFlags) }
end Go.Proofs.YtpeagakpmjnelaaDoor
namespace Go.Proofs.YtpeagakpmjnelaaDoor
open Go.ChangeShapes Go.WideShapes Go.ChangeAt Go.RowKit Go.Joins Go.Deep
set_option linter.unusedVariables false
set_option linter.unusedSimpArgs false
set_option maxRecDepth 100000

theorem nls_of_trod {H : Type} {enc : TypeId × Value → H} {w : World} {base : Nat} {spare : Nat → Bool} {held : Bool} {fuel : Nat} {v : Value} {y : DataW H × List MemPlace} (hf : DataW.trod enc Tryd.prog w base spare held fuel 22 [v] = some y) :
    ∃ x : Option Addr × List Nl × Nat, v = .slice x.1 x.2.1.length x.2.2 ∧ NlsArg w x := by
  rcases open_slice Tryd.underlying22 hf with ⟨hcs, _⟩ | ⟨a, l, c, m, n, D, Pl, hcs, _, hl, hm, hmm, _, hi⟩
  · obtain rfl : v = .slice none 0 0 := by simpa using hcs
    exact ⟨(none, [], 0), rfl, NlsAt.nil _ _, fun m h => by simp at h, Nat.le_refl _, Nat.zero_le _⟩
  · obtain rfl : v = .slice (some a) l c := by simpa using hcs
    have hlm : l ≤ m := by rw [hmm]; split <;> omega
    obtain ⟨ms, hml, hmp⟩ := choose_list (fun i (x : Nl) => okN x ∧ w.cell? ((a.add (i * 3)).add 0) = some (.int .i64 x.id) ∧ w.cell? ((a.add (i * 3)).add 1) = some (.int .u32 x.addr) ∧ w.cell? ((a.add (i * 3)).add 2) = some (.int .i64 x.len)) l (fun i hil => by
      obtain ⟨cs', hc', ht'⟩ := hi i (by omega)
      rw [nl_cells] at hc'
      obtain ⟨_, hlen, hat⟩ := World.cells?_some hc'
      obtain ⟨c0, c1, c2, rfl⟩ : ∃ c0 c1 c2, cs' = [c0, c1, c2] := by
        match cs', hlen with
        | [c0, c1, c2], _ => exact ⟨c0, c1, c2, rfl⟩
      obtain ⟨x, hx, rfl, rfl, rfl⟩ := nl_trod ht'
      exact ⟨x, hx, hat 0 (by omega), hat 1 (by omega), hat 2 (by omega)⟩)
    have hokm : ∀ x ∈ ms, okN x := fun x hx => by
      obtain ⟨i, hi', he⟩ := List.getElem_of_mem hx
      exact (hmp i x (by rw [List.getElem?_eq_getElem hi', he])).1
    refine ⟨(some a, ms, c), by rw [hml], ⟨⟨fun i hi' => ?_, ?_⟩, hokm, by simpa [hml] using hl, hm⟩⟩
    · exact okN_addr (hokm _ (by simp [List.getD, show i < ms.length from hi']))
    · rcases ms with _ | ⟨m0, t⟩
      · exact .inl rfl
      · right
        obtain ⟨b, off, spot⟩ := a
        have h0 := (hmp 0 m0 rfl).2.1
        have hspot : spot = none := by
          have := World.cell?_spot h0
          simpa [Addr.add] using this
        subst hspot
        refine ⟨b, off, rfl, fun i hi' => ?_⟩
        have hx := hmp i ((m0 :: t).getD i Nl.none) (by simp only [List.getD]; rw [List.getElem?_eq_getElem hi']; rfl)
        rw [add_litN, add_litN, add_litN, add_litN] at hx
        exact hx.2
open Ax in
theorem attrs_of_trod {H : Type} {enc : TypeId × Value → H} {w : World} {base : Nat} {spare : Nat → Bool} {held : Bool} {fuel : Nat} {c0 c1 c2 c3 c4 c5 : Value} {y : DataW H × List MemPlace} (h : DataW.trod enc Tryd.prog w base spare held fuel 27 [c0, c1, c2, c3, c4, c5] = some y) :
    ∃ x : Ax.At × Ax.Loc, [c0, c1, c2, c3, c4, c5] = Ax.atL x.1 x.2 ∧ Ax.AtAt w x.1 x.2 := by
  obtain ⟨xs, n, _, _, _, hlen, hg⟩ := DataW.trod_struct atT_under h
  have hf : ∀ (j : Nat) (f : Field), (Tryd.prog.fieldsOf 27)[j]? = some f → ∀ (c : Value), [c0, c1, c2, c3, c4, c5][j]? = some c → ∃ y, DataW.trod enc Tryd.prog w base spare held n f.type [c] = some y := fun j f hj c hc => by
    obtain ⟨ho, hk⟩ := hone_of atT_one j f hj
    have h1 := hg j f hj
    rw [ho, hk] at h1
    have hjl := (Array.getElem?_eq_some_iff.1 hj).1
    have e : List.take 1 (List.drop j [c0, c1, c2, c3, c4, c5]) = [c] := by
      obtain ⟨hl, he⟩ := List.getElem?_eq_some_iff.1 hc
      rw [List.drop_eq_getElem_cons hl, List.take_succ_cons, List.take_zero, he]
    rw [e] at h1
    have hx : xs[j]? = some (xs[j]'(by omega)) := List.getElem?_eq_getElem (by omega)
    exact ⟨_, h1.trans hx⟩
  obtain ⟨f0, g0, t0⟩ := atT_field 0 _ rfl
  obtain ⟨f1, g1, t1⟩ := atT_field 1 _ rfl
  obtain ⟨f2, g2, t2⟩ := atT_field 2 _ rfl
  obtain ⟨f3, g3, t3⟩ := atT_field 3 _ rfl
  obtain ⟨f4, g4, t4⟩ := atT_field 4 _ rfl
  obtain ⟨f5, g5, t5⟩ := atT_field 5 _ rfl
  obtain ⟨y0, h0⟩ := hf 0 f0 g0 c0 rfl
  obtain ⟨y1, h1⟩ := hf 1 f1 g1 c1 rfl
  obtain ⟨y2, h2⟩ := hf 2 f2 g2 c2 rfl
  obtain ⟨y3, h3⟩ := hf 3 f3 g3 c3 rfl
  obtain ⟨y4, h4⟩ := hf 4 f4 g4 c4 rfl
  obtain ⟨y5, h5⟩ := hf 5 f5 g5 c5 rfl
  rw [t0] at h0
  rw [t1] at h1
  rw [t2] at h2
  rw [t3] at h3
  rw [t4] at h4
  rw [t5] at h5
  obtain ⟨a0, e0, _, _⟩ := DataW.trod_int Tryd.underlying3 h0
  obtain ⟨pp, pn, pc, path, e1, hp, hpn, hpc, hpm⟩ := segs_of_trod h1
  obtain ⟨a2, e2, _, w2⟩ := DataW.trod_int Tryd.underlying24 h2
  obtain ⟨a3, e3, _, _⟩ := DataW.trod_int Tryd.underlying3 h3
  obtain ⟨a4, e4, _, _⟩ := DataW.trod_int Tryd.underlying3 h4
  obtain ⟨cp, cn, cc, comms, e5, hc, hcn, hcc, hcm⟩ := ints_of_trod h5
  simp only [List.cons.injEq, and_true] at e0 e2 e3 e4
  have := u32_lits w2
  refine ⟨(⟨a0, path, a2, a3, a4, comms⟩, ⟨pp, pn, pc, cp, cn, cc⟩), ?_, hp, hpn, hpc, hpm, hc, hcn, hcc, hcm, this.1, this.2⟩
  rw [e0, e1, e2, e3, e4, e5]
  rfl
theorem upT_und : Tryd.prog.underlying 29 = some (.struct (Tryd.prog.fieldsOf 29)) := by kernel_rfl
theorem upT_flds : (Tryd.prog.fieldsOf 29).toList.map (fun f => (f.type, f.offset)) = [(22, 0), (22, 1), (27, 2), (4, 8)] := by kernel_rfl
theorem upT_cells : Tryd.prog.cellsOf 29 = 9 := by kernel_rfl
theorem nlsT_cells : Tryd.prog.cellsOf 22 = 1 := by kernel_rfl
theorem atT_cells : Tryd.prog.cellsOf 27 = 6 := by kernel_rfl
theorem boolT_cells : Tryd.prog.cellsOf 4 = 1 := by kernel_rfl
theorem open_upd {H : Type} {enc : TypeId × Value → H} {w : World} {base b0 : Nat} {spare : Nat → Bool} {held : Bool} {r : Reach} {v : Value} {d : DataW H} {p : List MemPlace} (hv : Value.okWide Tryd.prog w r b0 29 v) (h : DataW.Trod enc Tryd.prog w base spare held 29 v d p) :
    ∃ x : Ax.Upd × Ax.ULoc, v = .agg (Ax.updL x.1 x.2).toArray ∧ Ax.UpAt w x.1 x.2 ∧ 0 ≤ x.1.a.next ∧ x.1.a.next ≤ 4294967295 := by
  obtain ⟨cs, rfl, hsz⟩ := okWide_struct upT_und hv
  rw [upT_cells] at hsz
  obtain ⟨fuel, hf⟩ := h
  obtain ⟨c0, c1, c2, c3, c4, c5, c6, c7, c8, rfl⟩ : ∃ c0 c1 c2 c3 c4 c5 c6 c7 c8, cs = #[c0, c1, c2, c3, c4, c5, c6, c7, c8] := by
    obtain ⟨l⟩ := cs
    match l, hsz with
    | [c0, c1, c2, c3, c4, c5, c6, c7, c8], _ => exact ⟨c0, c1, c2, c3, c4, c5, c6, c7, c8, rfl⟩
  have hft := upT_flds
  have hu := upT_und
  obtain ⟨f0, f1, f2, f3, hff⟩ : ∃ f0 f1 f2 f3, Tryd.prog.fieldsOf 29 = #[f0, f1, f2, f3] := by
    have hl := congrArg List.length hft
    generalize Tryd.prog.fieldsOf 29 = fs at hl
    obtain ⟨l⟩ := fs
    match l, hl with
    | [f0, f1, f2, f3], _ => exact ⟨f0, f1, f2, f3, rfl⟩
  rw [hff] at hft hu
  simp only [List.map_cons, List.map_nil, List.cons.injEq, Prod.mk.injEq, and_true] at hft
  obtain ⟨⟨t0, o0⟩, ⟨t1, o1⟩, ⟨t2, o2⟩, t3, o3⟩ := hft
  obtain ⟨y0, y1, y2, y3, n, _, _, g0, g1, g2, g3⟩ := Go.Joins.trod_struct4 hu (show DataW.trod enc Tryd.prog w base spare held fuel 29 [c0, c1, c2, c3, c4, c5, c6, c7, c8] = some (d, p) from hf)
  rw [t0, o0, nlsT_cells] at g0
  rw [t1, o1, nlsT_cells] at g1
  rw [t2, o2, atT_cells] at g2
  rw [t3, o3, boolT_cells] at g3
  simp only [List.drop_zero, List.drop_succ_cons, List.take_succ_cons, List.take_zero] at g0 g1 g2 g3
  obtain ⟨x0, rfl, h0⟩ := nls_of_trod g0
  obtain ⟨x1, rfl, h1⟩ := nls_of_trod g1
  obtain ⟨⟨a, al⟩, e2, h2⟩ := attrs_of_trod g2
  obtain ⟨k, e3, _⟩ := DataW.trod_bool Tryd.underlying4 g3
  simp only [List.cons.injEq, and_true] at e3
  subst e3
  refine ⟨(⟨x0.2.1, x1.2.1, a, k⟩, ⟨x0.1, x0.2.1.length, x0.2.2, x1.1, x1.2.1.length, x1.2.2, al⟩), ?_, ⟨h0.at_, rfl, h0.le, h0.max, h1.at_, rfl, h1.le, h1.max, h2⟩, h2.n0, h2.n1⟩
  simp only [Ax.updL, ← e2]
  rfl
end Go.Proofs.YtpeagakpmjnelaaDoor
