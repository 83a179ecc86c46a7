/- hop: lists of interfaces of the call's own; append. -/
import Derived.Test.YtlkpalaakncicaaWA
namespace Go.Proofs.Ytlkpalaakncicaa
open Go.RowKit
set_option linter.unusedVariables false
set_option linter.unusedSimpArgs false

theorem icells_get (l : List Ifc) (i : Nat) (h : i < l.length) : (icells l)[i * 5]? = some (.int .i64 (l.getD i Ifc.zero).id) ∧ (icells l)[i * 5 + 1]? = some (.int .i64 (l.getD i Ifc.zero).r) ∧ (icells l)[i * 5 + 2]? = some (.int .u32 (l.getD i Ifc.zero).a) ∧ (icells l)[i * 5 + 3]? = some (.int .i64 (l.getD i Ifc.zero).n) ∧ (icells l)[i * 5 + 4]? = some (.int .i64 (l.getD i Ifc.zero).c) := by
  induction l generalizing i with
  | nil => simp at h
  | cons a t ih =>
    unfold icells at *
    rw [List.flatMap_cons]
    cases i with
    | zero => simp [ifC]
    | succ i =>
      have := ih i (by simpa using h)
      rw [show (i + 1) * 5 = i * 5 + 5 from by omega, show i * 5 + 5 + 1 = (i * 5 + 1) + 5 from by omega, show i * 5 + 5 + 2 = (i * 5 + 2) + 5 from by omega, show i * 5 + 5 + 3 = (i * 5 + 3) + 5 from by omega, show i * 5 + 5 + 4 = (i * 5 + 4) + 5 from by omega]
      simpa [ifC] using this
theorem icells_len : ∀ (l : List Ifc), (icells l).length = l.length * 5
  | [] => rfl
  | x :: t => by
    have := icells_len t
    unfold icells at *
    rw [List.flatMap_cons, List.length_append, this]
    simp [ifC]; omega
theorem ifs_src {w : World} {p : Option Addr} {l : List Ifc} (h : IfsAt w p l) (n : Nat) (hn : l.length = n) (hn0 : 0 < n) : ∃ b off, p = some ⟨b, off, none⟩ ∧ ∀ j v, (icells l)[j]? = some v → w.cell? ((⟨b, off, none⟩ : Addr).add j) = some v := by
  rcases h.cells with rfl | ⟨b, off, rfl, hc⟩
  · simp at hn; omega
  · refine ⟨b, off, rfl, fun j v hv => ?_⟩
    have hj : j < l.length * 5 := by
      rcases Nat.lt_or_ge j (l.length * 5) with hlt | hge
      · exact hlt
      · rw [List.getElem?_eq_none (by rw [icells_len]; exact hge)] at hv; cases hv
    obtain ⟨e0, e1, e2, e3, e4⟩ := icells_get l (j / 5) (by omega)
    obtain ⟨c0, c1, c2, c3, c4⟩ := hc (j / 5) (by omega)
    rw [add_litN]
    have hm : j % 5 = 0 ∨ j % 5 = 1 ∨ j % 5 = 2 ∨ j % 5 = 3 ∨ j % 5 = 4 := by omega
    rcases hm with hm | hm | hm | hm | hm
    · rw [show off + j = off + j / 5 * 5 by omega, c0, ← hv, ← e0]; congr 1; omega
    · rw [show off + j = off + (j / 5 * 5 + 1) by omega, c1, ← hv, ← e1]; congr 1; omega
    · rw [show off + j = off + (j / 5 * 5 + 2) by omega, c2, ← hv, ← e2]; congr 1; omega
    · rw [show off + j = off + (j / 5 * 5 + 3) by omega, c3, ← hv, ← e3]; congr 1; omega
    · rw [show off + j = off + (j / 5 * 5 + 4) by omega, c4, ← hv, ← e4]; congr 1; omega
theorem gb_belowN {a b : World} {r : Option Nat} (h : Below a.heap.size a b) : a.grownBy b r :=
  ⟨h.os, h.tape, h.output, h.size, fun i hi _ => h.block i hi⟩
theorem rowN_below {w w' : World} {B : Nat} {E : TypeId} {size : Nat} {v : Value} {n : Nat} {xs : List Value} (h : w.ownsRow B E size v n xs) (hb : Below w.heap.size w w') : w'.ownsRow B E size v n xs := by
  refine h.kept (row := none) (gb_belowN hb) ?_
  rcases hv : v.ownBlock with _ | g
  · exact .inl rfl
  · exact .inr (by simp)
theorem rowN_form {w : World} {B : Nat} {E : TypeId} {size : Nat} {v : Value} {n : Nat} {xs : List Value} (h : w.ownsRow B E size v n xs) :
    ∃ p c, v = .slice p n c ∧ n ≤ c ∧ c ≤ maxLen := by
  rcases h.2 with ⟨rfl, rfl⟩ | ⟨g, cap, cur, rfl, _, _, h1, h2, _⟩
  · exact ⟨none, 0, rfl, Nat.le_refl _, by unfold maxLen; omega⟩
  · exact ⟨_, cap, rfl, h1, h2⟩
/-- A list of the call's own. -/
structure IfsOwn (w : World) (B : Nat) (q : Option Addr) (n cap : Nat) (l : List Ifc) : Prop where
  len : l.length = n
  ok : ∀ x ∈ l, InIf x
  row : w.ownsRow B 34 5 (.slice q n cap) n (icells l)
theorem IfsOwn.nil (w : World) (B : Nat) : IfsOwn w B none 0 0 [] := ⟨rfl, fun x hx => by simp at hx, World.ownsRow_nil _ _ _ _⟩
theorem IfsOwn.below {w w' : World} {B n cap : Nat} {q : Option Addr} {l : List Ifc} (h : IfsOwn w B q n cap l) (hb : Below w.heap.size w w') : IfsOwn w' B q n cap l := ⟨h.len, h.ok, rowN_below h.row hb⟩
theorem IfsOwn.mono {w : World} {B B' n cap : Nat} {q : Option Addr} {l : List Ifc} (h : IfsOwn w B q n cap l) (hB : B' ≤ B) : IfsOwn w B' q n cap l := ⟨h.len, h.ok, h.row.mono hB⟩
theorem IfsOwn.cap {w : World} {B n cap : Nat} {q : Option Addr} {l : List Ifc} (h : IfsOwn w B q n cap l) : n ≤ cap ∧ cap ≤ maxLen := by
  obtain ⟨p, c, hv, h1, h2⟩ := rowN_form h.row
  simp only [Value.slice.injEq] at hv
  obtain ⟨_, _, rfl⟩ := hv
  exact ⟨h1, h2⟩
theorem IfsOwn.at {w : World} {B n cap : Nat} {q : Option Addr} {l : List Ifc} (h : IfsOwn w B q n cap l) : IfsAt w q l := by
  refine ⟨h.ok, ?_⟩
  rcases h.row.2 with ⟨hv, h0⟩ | ⟨g, cap', cur, hv, _⟩
  · left
    have := h.len
    simp only [Value.slice.injEq] at hv
    exact List.eq_nil_of_length_eq_zero (by omega)
  · simp only [Value.slice.injEq] at hv
    obtain ⟨rfl, _, rfl⟩ := hv
    refine .inr ⟨g, 0, rfl, fun i hi => ?_⟩
    obtain ⟨e0, e1, e2, e3, e4⟩ := icells_get l i hi
    have c0 := h.row.cells (g := g) rfl (i * 5) _ e0
    have c1 := h.row.cells (g := g) rfl (i * 5 + 1) _ e1
    have c2 := h.row.cells (g := g) rfl (i * 5 + 2) _ e2
    have c3 := h.row.cells (g := g) rfl (i * 5 + 3) _ e3
    have c4 := h.row.cells (g := g) rfl (i * 5 + 4) _ e4
    rw [add_litN] at c0 c1 c2 c3 c4
    exact ⟨c0, c1, c2, c3, c4⟩
theorem IfsOwn.lit0 (w : World) (B : Nat) (hB : B ≤ w.heap.size) : IfsOwn (w.alloc (.cells #[] 34)) B (some ⟨w.heap.size, 0, none⟩) 0 0 [] :=
  ⟨rfl, fun x hx => by simp at hx, World.ownsRow_made w #[] 0 hB (Nat.zero_le _) rfl⟩

theorem run_appnsI (w : World) (ty : TypeId) (B : Nat) (q : Option Addr) (n cap : Nat) (l : List Ifc) (h : IfsOwn w B q n cap l) (p : Option Addr) (c m : Nat) (ys : List Ifc) (hy : IfsAt w p ys) (hm : ys.length = m) (h40 : n + m ≤ 3518437208883) (hB : B ≤ w.heap.size) :
    ∃ q' cap' w', (Builtin.append_ #[22, 22] ty #[.slice q n cap, .slice p m c]).run Try.prog w = .ok (.slice q' (n + m) cap') w' ∧ IfsOwn w' B q' (n + m) cap' (l ++ ys) ∧ Below B w w' := by
  obtain ⟨i0, hi, hz0, hz1, hz2⟩ := info_parts' infoIf
  rcases Nat.eq_zero_or_pos m with h0 | h0
  · subst h0
    obtain rfl : ys = [] := List.eq_nil_of_length_eq_zero hm
    have hsrc : Src Try.prog i0.size 22 (.slice p 0 c) 0 [] w := by
      rcases p with _ | a
      · exact Src.ofNil w Try.underlying22 c
      · exact Src.ofSlice w Try.underlying22 a 0 c [] (by simp) (fun j u hj => by simp at hj) (fun u hu => by simp at hu)
    refine ⟨q, cap, w, run_append_nothing w 22 22 ty 34 i0 Try.underlying22 hi q n cap h.cap.1 _ hsrc, ?_, Below.refl _ _⟩
    rw [List.append_nil]; exact h
  · obtain ⟨b, off, rfl, hcell⟩ := ifs_src hy m hm h0
    obtain ⟨v', w', hr, h2, h3, _⟩ := run_append_own (P := Try.prog) w B 22 ty 34 i0 (.agg #[.int .i64 0, .int .i64 0, .int .u32 0, .int .i64 0, .int .i64 0]) 5 40 Try.underlying22 hi hz0 hz1 hz2 rfl (by decide) _ n _ h.row ⟨b, off, none⟩ m c (icells ys) (by rw [icells_len, hm]) hcell (fun u hu => by
      unfold icells at hu
      obtain ⟨x, _, hx⟩ := List.mem_flatMap.1 hu
      exact if_one x u hx) (by unfold maxLen; omega) (by omega) hB
    obtain ⟨q', cap', rfl, _, _⟩ := rowN_form h2
    refine ⟨q', cap', w', hr, ⟨by rw [List.length_append, h.len, hm], fun x hx => (List.mem_append.1 hx).elim (h.ok x) (hy.ok x), ?_⟩, ?_⟩
    · unfold icells at *
      rw [List.flatMap_append]
      exact h2
    · refine (Below.refl B w).grown h3 hB fun k hk => ?_
      rcases h.row.2 with ⟨hv, _⟩ | ⟨g', cap2, cur, hv, hB2, _⟩
      · rw [hv] at hk; cases hk
      · rw [hv] at hk
        have : g' = k := by simpa [Value.ownBlock] using hk
        omega
theorem wpList_appnsI {ops : Array Oper} {rest : List Oper} {o : Oper} {a : Act} {w : World} {Q : Exit → Act → World → Prop} (hw : Region.wanted o (yielded ops a.tmps) = true) (s x : Operand)
    (ho : o.op = .call { callee := .builtin .append, args := #[s, x], argTypes := #[22, 22] })
    (B : Nat) (q : Option Addr) (n cap : Nat) (l : List Ifc) (hown : IfsOwn w B q n cap l) (hs : a.eval s = .slice q n cap)
    (p : Option Addr) (m c : Nat) (ys : List Ifc) (hy : IfsAt w p ys) (hm : ys.length = m) (hx : a.eval x = .slice p m c) (t : Nat) (ht : n + m = t) (h40 : t ≤ 3518437208883) (hB : B ≤ w.heap.size)
    (h : ∀ q' cap' w', Hid (IfsOwn w' B q' t cap' (l ++ ys)) → Hid (Below B w w') → wpList Try.prog ops Q rest (a.put o.dst (.slice q' t cap')) w') :
    wpList Try.prog ops Q (o :: rest) a w :=
  wpList_step fun K hK => by
    rw [if_pos hw]
    subst ht
    obtain ⟨q', cap', w', hr, h2, h3⟩ := run_appnsI w o.type B q n cap l hown p c m ys hy hm h40 hB
    unfold Oper.wp execOp
    simp only [ho, resolve, invoke, builtin, Sem.run_bind, Sem.run_pure, Result.andThen_ok, List.map_toArray, List.map_cons, List.map_nil, hs, hx, hr]
    exact hK _ _ (h q' cap' w' (Lib.hid h2) (Lib.hid h3))

theorem step_appnsJ {ops : Array Oper} {o : Oper} {a : Act} {w : World} {K : Act → World → Prop} {Q : Exit → Act → World → Prop} {E : Prop} (hw : Region.wanted o (yielded ops a.tmps) = true) (s x : Operand)
    (ho : o.op = .call { callee := .builtin .append, args := #[s, x], argTypes := #[22, 22] })
    (B : Nat) (q : Option Addr) (n cap : Nat) (l : List Ifc) (hown : IfsOwn w B q n cap l) (hs : a.eval s = .slice q n cap)
    (p : Option Addr) (m c : Nat) (ys : List Ifc) (hy : IfsAt w p ys) (hm : ys.length = m) (hx : a.eval x = .slice p m c) (t : Nat) (ht : n + m = t) (h40 : t ≤ 3518437208883) (hB : B ≤ w.heap.size)
    (h : ∀ q' cap' w', Hid (IfsOwn w' B q' t cap' (l ++ ys)) → Hid (Below B w w') → K (a.put o.dst (.slice q' t cap')) w') :
    if Region.wanted o (yielded ops a.tmps) = true then Oper.wp Try.prog o a w K Q else E := by
  rw [if_pos hw]
  subst ht
  obtain ⟨q', cap', w', hr, h2, h3⟩ := run_appnsI w o.type B q n cap l hown p c m ys hy hm h40 hB
  unfold Oper.wp execOp
  simp only [ho, resolve, invoke, builtin, Sem.run_bind, Sem.run_pure, Result.andThen_ok, List.map_toArray, List.map_cons, List.map_nil, hs, hx, hr]
  exact h q' cap' w' (Lib.hid h2) (Lib.hid h3)
theorem newB2I (w : World) (o : Obj) : Below w.heap.size w (w.drew.alloc o) := ((Below.refl w.heap.size w).drew).alloc (Nat.le_refl _) _
theorem run_appFullI (w : World) (ty : TypeId) (p : Option Addr) (l : List Ifc) (n : Nat) (h : IfsAt w p l) (hn : l.length = n) (hn1 : n ≤ 100000) (q : Option Addr) (c m : Nat) (ys : List Ifc) (hy : IfsAt w q ys) (hm : ys.length = m) (hm0 : 0 < m) (hm1 : m ≤ 100000) :
    ∃ C w', (Builtin.append_ #[22, 22] ty #[.slice p n n, .slice q m c]).run Try.prog w = .ok (.slice (some ⟨w.heap.size, 0, none⟩) (n + m) C) w' ∧ IfsOwn w' w.heap.size (some ⟨w.heap.size, 0, none⟩) (n + m) C (l ++ ys) ∧ Below w.heap.size w w' := by
  obtain ⟨i0, hi, hz0, hz1, hz2⟩ := info_parts' infoIf
  have hlen : (icells l).length = n * i0.size := by rw [icells_len, hn, hz1]
  have hold : (Builtin.firstCells i0.size n (.slice p n n)).run Try.prog w.drew = .ok (icells l).toArray w.drew := by
    rcases Nat.eq_zero_or_pos n with h0 | h0
    · subst h0
      obtain rfl : l = [] := List.eq_nil_of_length_eq_zero hn
      rcases p with _ | a
      · exact run_firstCells_none w.drew _ _ _ _
      · exact run_firstCells_some w.drew i0.size 0 a 0 0 [] (by simp) (fun j v hv => by simp at hv)
    · obtain ⟨b, off, rfl, hcell⟩ := ifs_src h n hn h0
      exact run_firstCells_some w.drew i0.size n ⟨b, off, none⟩ n n (icells l) hlen hcell
  obtain ⟨b2, off2, rfl, hcell2⟩ := ifs_src hy m hm hm0
  have hsrc : Src Try.prog i0.size 22 (.slice (some ⟨b2, off2, none⟩) m c) m (icells ys) w := Src.ofSlice w Try.underlying22 ⟨b2, off2, none⟩ m c (icells ys) (by rw [hz1, icells_len, hm]) hcell2 (fun u hu => by
    unfold icells at hu
    obtain ⟨x, _, hx⟩ := List.mem_flatMap.1 hu
    exact if_one x u hx)
  have hr := run_append_grow_src (P := Try.prog) w 22 22 ty 34 i0 _ Try.underlying22 hi hz0 p n n (icells l) hold _ m (icells ys) hsrc (by omega) (by omega) (growslice_fits (by omega) (by rw [hz2]; omega))
  have hge := grownCap_ge w (n + m) n 34
  have hmx := grownCap_le_maxLen w (n + m) n 34 (by unfold maxLen; omega)
  generalize grownCap w (n + m) n 34 = C at *
  refine ⟨C, _, hr, ?_, newB2I _ _⟩
  obtain ⟨arr, harr⟩ : ∃ arr, ((icells l ++ icells ys).toArray ++ Builtin.zeroCells (Value.agg #[.int .i64 0, .int .i64 0, .int .u32 0, .int .i64 0, .int .i64 0]).cells (C - (n + m))) = arr := ⟨_, rfl⟩
  have hl2 : (icells l ++ icells ys).length = (n + m) * 5 := by rw [List.length_append, icells_len, icells_len, hn, hm]; omega
  have hsz : arr.size = C * 5 := by
    rw [← harr, Array.size_append, size_zeroCells, show (Value.agg #[.int .i64 0, .int .i64 0, .int .u32 0, .int .i64 0, .int .i64 0]).cells.size = 5 from rfl]
    simp [hl2]
    omega
  have happ : icells (l ++ ys) = icells l ++ icells ys := by unfold icells; rw [List.flatMap_append]
  have htk : arr.toList.take ((n + m) * 5) = icells (l ++ ys) := by
    rw [← harr, happ, ← hl2]
    simp only [Array.toList_append]
    exact List.take_left
  rw [harr]
  exact ⟨by rw [List.length_append, hn, hm], fun x hx => (List.mem_append.1 hx).elim (h.ok x) (hy.ok x), ⟨by rw [icells_len, List.length_append, hn, hm], .inr ⟨w.heap.size, C, arr, rfl, Nat.le_refl _, (by show (w.drew.heap.push _)[w.drew.heap.size]? = _; exact Array.getElem?_push_size), hge, hmx, hsz, htk⟩⟩⟩
theorem wpList_appFullI {ops : Array Oper} {rest : List Oper} {o : Oper} {a : Act} {w : World} {Q : Exit → Act → World → Prop} (hw : Region.wanted o (yielded ops a.tmps) = true) (s x : Operand)
    (ho : o.op = .call { callee := .builtin .append, args := #[s, x], argTypes := #[22, 22] })
    (p : Option Addr) (n : Nat) (l : List Ifc) (h1 : IfsAt w p l) (hn : l.length = n) (hs : a.eval s = .slice p n n)
    (q : Option Addr) (m c : Nat) (ys : List Ifc) (hy : IfsAt w q ys) (hm : ys.length = m) (hx : a.eval x = .slice q m c) (hm0 : 0 < m) (hn1 : n ≤ 100000) (hm1 : m ≤ 100000)
    (h : ∀ C w', Hid (IfsOwn w' w.heap.size (some ⟨w.heap.size, 0, none⟩) (n + m) C (l ++ ys)) → Hid (Below w.heap.size w w') → wpList Try.prog ops Q rest (a.put o.dst (.slice (some ⟨w.heap.size, 0, none⟩) (n + m) C)) w') :
    wpList Try.prog ops Q (o :: rest) a w :=
  wpList_step fun K hK => by
    rw [if_pos hw]
    obtain ⟨C, w', hr, h2, h3⟩ := run_appFullI w o.type p l n h1 hn hn1 q c m ys hy hm hm0 hm1
    unfold Oper.wp execOp
    simp only [ho, resolve, invoke, builtin, Sem.run_bind, Sem.run_pure, Result.andThen_ok, List.map_toArray, List.map_cons, List.map_nil, hs, hx, hr]
    exact hK _ _ (h C w' (Lib.hid h2) (Lib.hid h3))
/-- A list written out. -/
theorem IfsOwn.lit (w : World) (B : Nat) (l : List Ifc) (hok : ∀ x ∈ l, InIf x) (hB : B ≤ w.heap.size) (hm : l.length ≤ maxLen) : IfsOwn (w.alloc (.cells (icells l).toArray 34)) B (some ⟨w.heap.size, 0, none⟩) l.length l.length l :=
  ⟨rfl, hok, ⟨by rw [icells_len], .inr ⟨w.heap.size, l.length, (icells l).toArray, rfl, hB, World.alloc_heap_new w _, Nat.le_refl _, hm, by simp [icells_len], by simp [← icells_len]⟩⟩⟩
end Go.Proofs.Ytlkpalaakncicaa
