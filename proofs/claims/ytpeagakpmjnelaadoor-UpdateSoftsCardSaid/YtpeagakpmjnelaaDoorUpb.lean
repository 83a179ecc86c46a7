/- update: lists of prefixes appended to a list of the call's own. -/
import Derived.Test.YtpeagakpmjnelaaDoorUp7
namespace Go.Proofs.YtpeagakpmjnelaaDoor
open Go.RowKit
set_option linter.unusedVariables false
set_option linter.unusedSimpArgs false

theorem NlsOwn.lit0 (w : World) (B : Nat) (hB : B ≤ w.heap.size) : NlsOwn (w.alloc (.cells #[] 56)) B (some ⟨w.heap.size, 0, none⟩) 0 0 [] :=
  ⟨rfl, fun i hi => by simp at hi, World.ownsRow_made w #[] 0 hB (Nat.zero_le _) rfl⟩

theorem run_appnsN (w : World) (ty : TypeId) (B : Nat) (q : Option Addr) (n cap : Nat) (l : List Nl) (h : NlsOwn w B q n cap l) (p : Option Addr) (c m : Nat) (ys : List Nl) (hy : NlsAt w p ys) (hm : ys.length = m) (h40 : n + m ≤ 1099511627776) (hB : B ≤ w.heap.size) :
    ∃ q' cap' w', (Builtin.append_ #[22, 22] ty #[.slice q n cap, .slice p m c]).run Tryd.prog w = .ok (.slice q' (n + m) cap') w' ∧ NlsOwn w' B q' (n + m) cap' (l ++ ys) ∧ Below B w w' := by
  obtain ⟨i0, hi, hz0, hz1, hz2⟩ := info_parts infoNl
  rcases Nat.eq_zero_or_pos m with h0 | h0
  · subst h0
    obtain rfl : ys = [] := List.eq_nil_of_length_eq_zero hm
    have hsrc : Src Tryd.prog i0.size 22 (.slice p 0 c) 0 [] w := by
      rcases p with _ | a
      · exact Src.ofNil w Tryd.underlying22 c
      · exact Src.ofSlice w Tryd.underlying22 a 0 c [] (by simp) (fun j u hj => by simp at hj) (fun u hu => by simp at hu)
    refine ⟨q, cap, w, run_append_nothing w 22 22 ty 56 i0 Tryd.underlying22 hi q n cap h.cap.1 _ hsrc, ?_, Below.refl _ _⟩
    rw [List.append_nil]; exact h
  · obtain ⟨b, off, rfl, hcell⟩ := nls_src hy m hm h0
    obtain ⟨v', w', hr, h2, h3, _⟩ := run_append_own (P := Tryd.prog) w B 22 ty 56 i0 (.agg #[.int .i64 0, .int .u32 0, .int .i64 0]) 3 24 Tryd.underlying22 hi hz0 hz1 hz2 rfl (by decide) _ n _ h.row ⟨b, off, none⟩ m c (ncells ys) (by rw [ncells_len, hm]) hcell (fun u hu => by
      unfold ncells at hu
      obtain ⟨x, _, hx⟩ := List.mem_flatMap.1 hu
      exact nl_one x u hx) (by unfold maxLen; omega) (by omega) hB
    obtain ⟨q', cap', rfl, _, _⟩ := rowN_form h2
    refine ⟨q', cap', w', hr, ⟨by rw [List.length_append, h.len, hm], fun i hi2 => ?_, ?_⟩, ?_⟩
    · rcases Nat.lt_or_ge i l.length with hlt | hge
      · have := h.addr i hlt
        simpa [List.getD, List.getElem?_append_left hlt] using this
      · have := hy.addr (i - l.length) (by simp at hi2; omega)
        simpa [List.getD, List.getElem?_append_right hge] using this
    · unfold ncells at *
      rw [List.flatMap_append]
      exact h2
    · refine (Below.refl B w).grown h3 hB fun k hk => ?_
      rcases h.row.2 with ⟨hv, _⟩ | ⟨g', cap2, cur, hv, hB2, _⟩
      · rw [hv] at hk; cases hk
      · rw [hv] at hk
        have : g' = k := by simpa [Value.ownBlock] using hk
        omega
theorem wpList_appnsN {ops : Array Oper} {rest : List Oper} {o : Oper} {a : Act} {w : World} {Q : Exit → Act → World → Prop} (hw : Region.wanted o (yielded ops a.tmps) = true) (s x : Operand)
    (ho : o.op = .call { callee := .builtin .append, args := #[s, x], argTypes := #[22, 22] })
    (B : Nat) (q : Option Addr) (n cap : Nat) (l : List Nl) (hown : NlsOwn w B q n cap l) (hs : a.eval s = .slice q n cap)
    (p : Option Addr) (m c : Nat) (ys : List Nl) (hy : NlsAt w p ys) (hm : ys.length = m) (hx : a.eval x = .slice p m c) (t : Nat) (ht : n + m = t) (h40 : t ≤ 1099511627776) (hB : B ≤ w.heap.size)
    (h : ∀ q' cap' w', Hid (NlsOwn w' B q' t cap' (l ++ ys)) → Hid (Below B w w') → wpList Tryd.prog ops Q rest (a.put o.dst (.slice q' t cap')) w') :
    wpList Tryd.prog ops Q (o :: rest) a w :=
  wpList_step fun K hK => by
    rw [if_pos hw]
    subst ht
    obtain ⟨q', cap', w', hr, h2, h3⟩ := run_appnsN w o.type B q n cap l hown p c m ys hy hm h40 hB
    unfold Oper.wp execOp
    simp only [ho, resolve, invoke, builtin, Sem.run_bind, Sem.run_pure, Result.andThen_ok, List.map_toArray, List.map_cons, List.map_nil, hs, hx, hr]
    exact hK _ _ (h q' cap' w' (Lib.hid h2) (Lib.hid h3))

theorem step_appnsN {ops : Array Oper} {o : Oper} {a : Act} {w : World} {K : Act → World → Prop} {Q : Exit → Act → World → Prop} {E : Prop} (hgd : o.guard = none) (s x : Operand)
    (ho : o.op = .call { callee := .builtin .append, args := #[s, x], argTypes := #[22, 22] })
    (B : Nat) (q : Option Addr) (n cap : Nat) (l : List Nl) (hown : NlsOwn w B q n cap l) (hs : a.eval s = .slice q n cap)
    (p : Option Addr) (m c : Nat) (ys : List Nl) (hy : NlsAt w p ys) (hm : ys.length = m) (hx : a.eval x = .slice p m c) (t : Nat) (ht : n + m = t) (h40 : t ≤ 1099511627776) (hB : B ≤ w.heap.size)
    (h : ∀ q' cap' w', Hid (NlsOwn w' B q' t cap' (l ++ ys)) → Hid (Below B w w') → K (a.put o.dst (.slice q' t cap')) w') :
    if Region.wanted o (yielded ops a.tmps) = true then Oper.wp Tryd.prog o a w K Q else E := by
  have hw : Region.wanted o (yielded ops a.tmps) = true := by simp [Region.wanted, hgd]
  rw [if_pos hw]
  subst ht
  obtain ⟨q', cap', w', hr, h2, h3⟩ := run_appnsN w o.type B q n cap l hown p c m ys hy hm h40 hB
  unfold Oper.wp execOp
  simp only [ho, resolve, invoke, builtin, Sem.run_bind, Sem.run_pure, Result.andThen_ok, List.map_toArray, List.map_cons, List.map_nil, hs, hx, hr]
  exact h q' cap' w' (Lib.hid h2) (Lib.hid h3)
theorem step_appnsW {ops : Array Oper} {o : Oper} {a : Act} {w : World} {K : Act → World → Prop} {Q : Exit → Act → World → Prop} {E : Prop} (hw : Region.wanted o (yielded ops a.tmps) = true) (s x : Operand)
    (ho : o.op = .call { callee := .builtin .append, args := #[s, x], argTypes := #[22, 22] })
    (B : Nat) (q : Option Addr) (n cap : Nat) (l : List Nl) (hown : NlsOwn w B q n cap l) (hs : a.eval s = .slice q n cap)
    (p : Option Addr) (m c : Nat) (ys : List Nl) (hy : NlsAt w p ys) (hm : ys.length = m) (hx : a.eval x = .slice p m c) (t : Nat) (ht : n + m = t) (h40 : t ≤ 1099511627776) (hB : B ≤ w.heap.size)
    (h : ∀ q' cap' w', Hid (NlsOwn w' B q' t cap' (l ++ ys)) → Hid (Below B w w') → K (a.put o.dst (.slice q' t cap')) w') :
    if Region.wanted o (yielded ops a.tmps) = true then Oper.wp Tryd.prog o a w K Q else E := by
  rw [if_pos hw]
  subst ht
  obtain ⟨q', cap', w', hr, h2, h3⟩ := run_appnsN w o.type B q n cap l hown p c m ys hy hm h40 hB
  unfold Oper.wp execOp
  simp only [ho, resolve, invoke, builtin, Sem.run_bind, Sem.run_pure, Result.andThen_ok, List.map_toArray, List.map_cons, List.map_nil, hs, hx, hr]
  exact h q' cap' w' (Lib.hid h2) (Lib.hid h3)
end Go.Proofs.YtpeagakpmjnelaaDoor
