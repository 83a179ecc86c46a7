/- update: a list of prefixes that is full, and another behind it. -/
import Derived.Test.YtpeagakpmjnelaaDoorUqB
namespace Go.Proofs.YtpeagakpmjnelaaDoor
open Go.RowKit
set_option linter.unusedVariables false
set_option linter.unusedSimpArgs false

theorem nl_one (x : Nl) : ∀ u ∈ nlC x, u.oneCell' = true := fun u hu => by
  simp [nlC] at hu
  rcases hu with rfl | rfl | rfl <;> rfl
theorem ncells_len : ∀ (l : List Nl), (ncells l).length = l.length * 3
  | [] => rfl
  | x :: t => by
    have := ncells_len t
    unfold ncells at *
    rw [List.flatMap_cons, List.length_append, this]
    simp [nlC]; omega
theorem newB2N (w : World) (o : Obj) : Below w.heap.size w (w.drew.alloc o) := ((Below.refl w.heap.size w).drew).alloc (Nat.le_refl _) _
theorem nls_src {w : World} {p : Option Addr} {l : List Nl} (h : NlsAt w p l) (n : Nat) (hn : l.length = n) (hn0 : 0 < n) : ∃ b off, p = some ⟨b, off, none⟩ ∧ ∀ j v, (ncells l)[j]? = some v → w.cell? ((⟨b, off, none⟩ : Addr).add j) = some v := by
  rcases h.at_ with rfl | ⟨b, off, rfl, hc⟩
  · simp at hn; omega
  · refine ⟨b, off, rfl, fun j v hv => ?_⟩
    have hj : j < l.length * 3 := by
      rcases Nat.lt_or_ge j (l.length * 3) with hlt | hge
      · exact hlt
      · rw [List.getElem?_eq_none (by rw [ncells_len]; exact hge)] at hv; cases hv
    obtain ⟨e0, e1, e2⟩ := ncells_get l (j / 3) (by omega)
    obtain ⟨c0, c1, c2⟩ := hc (j / 3) (by omega)
    rw [add_litN]
    have hm : j % 3 = 0 ∨ j % 3 = 1 ∨ j % 3 = 2 := by omega
    rcases hm with hm | hm | hm
    · rw [show off + j = off + j / 3 * 3 by omega, c0, ← hv, ← e0]; congr 1; omega
    · rw [show off + j = off + j / 3 * 3 + 1 by omega, c1, ← hv, ← e1]; congr 1; omega
    · rw [show off + j = off + j / 3 * 3 + 2 by omega, c2, ← hv, ← e2]; congr 1; omega

theorem run_appFull (w : World) (ty : TypeId) (p : Option Addr) (l : List Nl) (n : Nat) (h : NlsAt w p l) (hn : l.length = n) (hn1 : n ≤ 100000) (q : Option Addr) (c m : Nat) (ys : List Nl) (hy : NlsAt w q ys) (hm : ys.length = m) (hm0 : 0 < m) (hm1 : m ≤ 100000) :
    ∃ C w', (Builtin.append_ #[22, 22] ty #[.slice p n n, .slice q m c]).run Tryd.prog w = .ok (.slice (some ⟨w.heap.size, 0, none⟩) (n + m) C) w' ∧ NlsOwn w' w.heap.size (some ⟨w.heap.size, 0, none⟩) (n + m) C (l ++ ys) ∧ Below w.heap.size w w' := by
  obtain ⟨i0, hi, hz0, hz1, hz2⟩ := info_parts infoNl
  have hlen : (ncells l).length = n * i0.size := by rw [ncells_len, hn, hz1]
  have hold : (Builtin.firstCells i0.size n (.slice p n n)).run Tryd.prog w.drew = .ok (ncells l).toArray w.drew := by
    rcases Nat.eq_zero_or_pos n with h0 | h0
    · subst h0
      obtain rfl : l = [] := List.eq_nil_of_length_eq_zero hn
      rcases p with _ | a
      · exact run_firstCells_none w.drew _ _ _ _
      · exact run_firstCells_some w.drew i0.size 0 a 0 0 [] (by simp) (fun j v hv => by simp at hv)
    · obtain ⟨b, off, rfl, hcell⟩ := nls_src h n hn h0
      exact run_firstCells_some w.drew i0.size n ⟨b, off, none⟩ n n (ncells l) hlen hcell
  obtain ⟨b2, off2, rfl, hcell2⟩ := nls_src hy m hm hm0
  have hsrc : Src Tryd.prog i0.size 22 (.slice (some ⟨b2, off2, none⟩) m c) m (ncells ys) w := Src.ofSlice w Tryd.underlying22 ⟨b2, off2, none⟩ m c (ncells ys) (by rw [hz1, ncells_len, hm]) hcell2 (fun u hu => by
    unfold ncells at hu
    obtain ⟨x, _, hx⟩ := List.mem_flatMap.1 hu
    exact nl_one x u hx)
  have hr := run_append_grow_src (P := Tryd.prog) w 22 22 ty 56 i0 _ Tryd.underlying22 hi hz0 p n n (ncells l) hold _ m (ncells ys) hsrc (by omega) (by omega) (growslice_fits (by omega) (by rw [hz2]; omega))
  have hge := grownCap_ge w (n + m) n 56
  have hmx := grownCap_le_maxLen w (n + m) n 56 (by unfold maxLen; omega)
  generalize grownCap w (n + m) n 56 = C at *
  refine ⟨C, _, hr, ?_, newB2N _ _⟩
  obtain ⟨arr, harr⟩ : ∃ arr, ((ncells l ++ ncells ys).toArray ++ Builtin.zeroCells (Value.agg #[.int .i64 0, .int .u32 0, .int .i64 0]).cells (C - (n + m))) = arr := ⟨_, rfl⟩
  have hl2 : (ncells l ++ ncells ys).length = (n + m) * 3 := by rw [List.length_append, ncells_len, ncells_len, hn, hm]; omega
  have hsz : arr.size = C * 3 := by
    rw [← harr, Array.size_append, size_zeroCells, show (Value.agg #[.int .i64 0, .int .u32 0, .int .i64 0]).cells.size = 3 from rfl]
    simp [hl2]
    omega
  have happ : ncells (l ++ ys) = ncells l ++ ncells ys := by unfold ncells; rw [List.flatMap_append]
  have htk : arr.toList.take ((n + m) * 3) = ncells (l ++ ys) := by
    rw [← harr, happ, ← hl2]
    simp only [Array.toList_append]
    exact List.take_left
  rw [harr]
  refine ⟨by rw [List.length_append, hn, hm], fun i hi => ?_, ⟨by rw [ncells_len, List.length_append, hn, hm], .inr ⟨w.heap.size, C, arr, rfl, Nat.le_refl _, (by show (w.drew.heap.push _)[w.drew.heap.size]? = _; exact Array.getElem?_push_size), hge, hmx, hsz, htk⟩⟩⟩
  rcases Nat.lt_or_ge i l.length with hlt | hge2
  · have := h.addr i hlt
    simpa [List.getD, List.getElem?_append_left hlt] using this
  · have := hy.addr (i - l.length) (by simp at hi; omega)
    simpa [List.getD, List.getElem?_append_right hge2] using this
theorem wpList_appFull {ops : Array Oper} {rest : List Oper} {o : Oper} {a : Act} {w : World} {Q : Exit → Act → World → Prop} (hw : Region.wanted o (yielded ops a.tmps) = true) (s x : Operand)
    (ho : o.op = .call { callee := .builtin .append, args := #[s, x], argTypes := #[22, 22] })
    (p : Option Addr) (n : Nat) (l : List Nl) (h1 : NlsAt w p l) (hn : l.length = n) (hs : a.eval s = .slice p n n)
    (q : Option Addr) (m c : Nat) (ys : List Nl) (hy : NlsAt w q ys) (hm : ys.length = m) (hx : a.eval x = .slice q m c) (hm0 : 0 < m) (hn1 : n ≤ 100000) (hm1 : m ≤ 100000)
    (h : ∀ C w', Hid (NlsOwn w' w.heap.size (some ⟨w.heap.size, 0, none⟩) (n + m) C (l ++ ys)) → Hid (Below w.heap.size w w') → wpList Tryd.prog ops Q rest (a.put o.dst (.slice (some ⟨w.heap.size, 0, none⟩) (n + m) C)) w') :
    wpList Tryd.prog ops Q (o :: rest) a w :=
  wpList_step fun K hK => by
    rw [if_pos hw]
    obtain ⟨C, w', hr, h2, h3⟩ := run_appFull w o.type p l n h1 hn hn1 q c m ys hy hm hm0 hm1
    unfold Oper.wp execOp
    simp only [ho, resolve, invoke, builtin, Sem.run_bind, Sem.run_pure, Result.andThen_ok, List.map_toArray, List.map_cons, List.map_nil, hs, hx, hr]
    exact hK _ _ (h C w' (Lib.hid h2) (Lib.hid h3))
end Go.Proofs.YtpeagakpmjnelaaDoor
