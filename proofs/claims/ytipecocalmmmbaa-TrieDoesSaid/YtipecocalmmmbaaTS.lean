/- trie: the document's list: rows of the call's own, what is cut out of a list, what is put behind one. -/
import Derived.Test.YtipecocalmmmbaaTR
namespace Go.Proofs.Ytipecocalmmmbaa
open Go.RowKit
set_option linter.unusedVariables false
set_option linter.unusedSimpArgs false

theorem infoO : (Try.prog.info? 78).map (fun i => (i.zero, i.size, i.bytes)) = some (some (.agg #[.int .u32 0, .int .i64 0, .int .i64 0]), 3, 24) := by kernel_rfl
def oC (p : O3) : List Value := [.int .u32 p.1, .int .i64 p.2.1, .int .i64 p.2.2]
def ocells (l : List O3) : List Value := l.flatMap oC
theorem ocells_app (l m : List O3) : ocells (l ++ m) = ocells l ++ ocells m := by unfold ocells; rw [List.flatMap_append]
theorem ocells_len : ∀ l : List O3, (ocells l).length = l.length * 3
  | [] => rfl
  | p :: l => by have := ocells_len l; unfold ocells at *; rw [List.flatMap_cons, List.length_append, this]; simp [oC]; omega
theorem oC_one (x : O3) (u : Value) (h : u ∈ oC x) : u.oneCell' = true := by
  unfold oC at h
  simp at h
  rcases h with rfl | rfl | rfl <;> rfl
theorem ocells_get : ∀ (l : List O3) (i : Nat) (p : O3), l[i]? = some p → (ocells l)[i * 3]? = some (.int .u32 p.1) ∧ (ocells l)[i * 3 + 1]? = some (.int .i64 p.2.1) ∧ (ocells l)[i * 3 + 2]? = some (.int .i64 p.2.2)
  | x :: l, 0, p, h => by
    have : x = p := by simpa using h
    subst this
    exact ⟨rfl, rfl, rfl⟩
  | x :: l, i + 1, p, h => by
    have h' : l[i]? = some p := by simpa using h
    have := ocells_get l i p h'
    unfold ocells at *
    rw [List.flatMap_cons]
    rw [show (i + 1) * 3 = i * 3 + 3 from by omega, show i * 3 + 3 + 1 = i * 3 + 1 + 3 from by omega, show i * 3 + 3 + 2 = i * 3 + 2 + 3 from by omega]
    exact this
theorem row3_form {w : World} {B : Nat} {E : TypeId} {size : Nat} {v : Value} {n : Nat} {xs : List Value} (h : w.ownsRow B E size v n xs) :
    ∃ p c, v = .slice p n c ∧ n ≤ c ∧ c ≤ maxLen := by
  rcases h.2 with ⟨rfl, rfl⟩ | ⟨g, cap, cur, rfl, _, _, h1, h2, _⟩
  · exact ⟨none, 0, rfl, Nat.le_refl _, by unfold maxLen; omega⟩
  · exact ⟨_, cap, rfl, h1, h2⟩
theorem add_lit3 (b off j : Nat) : (⟨b, off, none⟩ : Addr).add j = ⟨b, off + j, none⟩ := by unfold Addr.add; split <;> simp_all
/-- A list of the call's own. -/
structure OOwn (w : World) (B : Nat) (q : Option Addr) (n cap : Nat) (l : List O3) : Prop where
  intro ::
  len : l.length = n
  row : w.ownsRow B 78 3 (.slice q n cap) n (ocells l)
theorem OOwn.lit0 (w : World) (B : Nat) (hB : B ≤ w.heap.size) : OOwn (w.alloc (.cells #[] 78)) B (some ⟨w.heap.size, 0, none⟩) 0 0 [] :=
  ⟨rfl, World.ownsRow_made w #[] 0 hB (Nat.zero_le _) rfl⟩
theorem OOwn.below {w w' : World} {B n cap : Nat} {q : Option Addr} {l : List O3} (h : OOwn w B q n cap l) (hb : Below w.heap.size w w') : OOwn w' B q n cap l := ⟨h.len, row_below h.row hb⟩
theorem OOwn.cap {w : World} {B n cap : Nat} {q : Option Addr} {l : List O3} (h : OOwn w B q n cap l) : n ≤ cap ∧ cap ≤ maxLen := by
  obtain ⟨p, c, hv, h1, h2⟩ := row3_form h.row
  simp only [Value.slice.injEq] at hv
  obtain ⟨_, _, rfl⟩ := hv
  exact ⟨h1, h2⟩
theorem OOwn.at {w : World} {B n cap : Nat} {q : Option Addr} {l : List O3} (h : OOwn w B q n cap l) : OAt w q l := by
  have hpl := ocells_len l
  have hr := h.row
  have hn := h.len
  rcases hr.2 with ⟨hv, hx⟩ | ⟨g, cap', cur, hv, hB, hh, hc, _⟩
  · injection hv with e1 e2 e3
    exact .inl (List.eq_nil_of_length_eq_zero (by omega))
  · injection hv with e1 e2 e3
    subst e1
    refine .inr ⟨g, 0, rfl, fun i p hp => ?_⟩
    have hg := ocells_get l i p hp
    have key : ∀ j v, (ocells l)[j]? = some v → w.cell? ⟨g, j, none⟩ = some v := fun j v hj => by
      have hlt : j < (ocells l).length := (List.getElem?_eq_some_iff.1 hj).1
      rw [hr.cellAt j (by omega)]; exact hj
    rw [Nat.zero_add]
    exact ⟨key _ _ hg.1, key _ _ hg.2.1, key _ _ hg.2.2⟩
theorem oat_src {w : World} {p : Option Addr} {l : List O3} (h : OAt w p l) (hn0 : 0 < l.length) : ∃ b off, p = some ⟨b, off, none⟩ ∧ ∀ j v, (ocells l)[j]? = some v → w.cell? ((⟨b, off, none⟩ : Addr).add j) = some v := by
  rcases h with rfl | ⟨b, off, rfl, hc⟩
  · simp at hn0
  · refine ⟨b, off, rfl, fun j v hv => ?_⟩
    have hj : j < l.length * 3 := by
      rcases Nat.lt_or_ge j (l.length * 3) with hlt | hge
      · exact hlt
      · rw [List.getElem?_eq_none (by rw [ocells_len]; exact hge)] at hv; cases hv
    obtain ⟨p, hp⟩ : ∃ p, l[j / 3]? = some p := ⟨_, List.getElem?_eq_getElem (by omega)⟩
    obtain ⟨e0, e1, e2⟩ := ocells_get l (j / 3) p hp
    obtain ⟨c0, c1, c2⟩ := hc (j / 3) p hp
    rw [add_lit3]
    have hm : j % 3 = 0 ∨ j % 3 = 1 ∨ j % 3 = 2 := by omega
    rcases hm with hm | hm | hm
    · rw [show off + j = off + j / 3 * 3 by omega, c0, ← hv, ← e0]; congr 1; omega
    · rw [show off + j = off + j / 3 * 3 + 1 by omega, c1, ← hv, ← e1]; congr 1; omega
    · rw [show off + j = off + j / 3 * 3 + 2 by omega, c2, ← hv, ← e2]; congr 1; omega
theorem OAt.take {w : World} {p : Option Addr} {l : List O3} (h : OAt w p l) (i : Nat) : OAt w p (l.take i) := by
  rcases h with rfl | ⟨b, off, rfl, hc⟩
  · exact .inl (by simp)
  · refine .inr ⟨b, off, rfl, fun j x hx => ?_⟩
    rw [List.getElem?_take] at hx
    split at hx
    · exact hc j x hx
    · cases hx
theorem OAt.drop {w : World} {b off : Nat} {l : List O3} (h : OAt w (some ⟨b, off, none⟩) l) (i : Nat) : OAt w (some ⟨b, off + i * 3, none⟩) (l.drop i) := by
  rcases h with rfl | ⟨b', off', e, hc⟩
  · exact .inl (by simp)
  · injection e with e
    injection e with e1 e2
    subst e1 e2
    refine .inr ⟨_, _, rfl, fun j x hx => ?_⟩
    rw [List.getElem?_drop] at hx
    have := hc (i + j) x hx
    rw [show off + i * 3 + j * 3 = off + (i + j) * 3 from by omega]
    exact this
theorem run_appO (w : World) (ty : TypeId) (B : Nat) (q : Option Addr) (n cap : Nat) (l : List O3) (h : OOwn w B q n cap l) (p : Option Addr) (c m : Nat) (ys : List O3) (hy : OAt w p ys) (hm : ys.length = m) (h40 : n + m ≤ 1099511627776) (hB : B ≤ w.heap.size) :
    ∃ q' cap' w', (Builtin.append_ #[27, 27] ty #[.slice q n cap, .slice p m c]).run Try.prog w = .ok (.slice q' (n + m) cap') w' ∧ OOwn w' B q' (n + m) cap' (l ++ ys) ∧ Below B w w' := by
  obtain ⟨i0, hi, hz0, hz1, hz2⟩ := info_parts infoO
  rcases Nat.eq_zero_or_pos m with h0 | h0
  · subst h0
    obtain rfl : ys = [] := List.eq_nil_of_length_eq_zero hm
    have hsrc : Src Try.prog i0.size 27 (.slice p 0 c) 0 [] w := by
      rcases p with _ | a
      · exact Src.ofNil w Try.underlying27 c
      · exact Src.ofSlice w Try.underlying27 a 0 c [] (by simp) (fun j u hj => by simp at hj) (fun u hu => by simp at hu)
    refine ⟨q, cap, w, run_append_nothing w 27 27 ty 78 i0 Try.underlying27 hi q n cap h.cap.1 _ hsrc, ?_, Below.refl _ _⟩
    rw [List.append_nil]; exact h
  · obtain ⟨b, off, rfl, hcell⟩ := oat_src hy (by omega)
    obtain ⟨v', w', hr, h2, h3, _⟩ := run_append_own (P := Try.prog) w B 27 ty 78 i0 (.agg #[.int .u32 0, .int .i64 0, .int .i64 0]) 3 24 Try.underlying27 hi hz0 hz1 hz2 rfl (by decide) _ n _ h.row ⟨b, off, none⟩ m c (ocells ys) (by rw [ocells_len, hm]) hcell (fun u hu => by
      unfold ocells at hu
      obtain ⟨x, _, hx⟩ := List.mem_flatMap.1 hu
      exact oC_one x u hx) (by unfold maxLen; omega) (by omega) hB
    obtain ⟨q', cap', rfl, _, _⟩ := row3_form h2
    refine ⟨q', cap', w', hr, ⟨by rw [List.length_append, h.len, hm], ?_⟩, ?_⟩
    · rw [ocells_app]; exact h2
    · refine (Below.refl B w).grown h3 hB fun k hk => ?_
      rcases h.row.2 with ⟨hv, _⟩ | ⟨g', cap2, cur, hv, hB2, _⟩
      · rw [hv] at hk; cases hk
      · rw [hv] at hk
        have : g' = k := by simpa [Value.ownBlock] using hk
        omega
theorem wpList_appO {ops : Array Oper} {rest : List Oper} {o : Oper} {a : Act} {w : World} {Q : Exit → Act → World → Prop} (hw : Region.wanted o (yielded ops a.tmps) = true) (s x : Operand)
    (ho : o.op = .call { callee := .builtin .append, args := #[s, x], argTypes := #[27, 27] })
    (B : Nat) (q : Option Addr) (n cap : Nat) (l : List O3) (hown : OOwn w B q n cap l) (hs : a.eval s = .slice q n cap)
    (p : Option Addr) (m c : Nat) (ys : List O3) (hy : OAt w p ys) (hm : ys.length = m) (hx : a.eval x = .slice p m c) (t : Nat) (ht : n + m = t) (h40 : t ≤ 1099511627776) (hB : B ≤ w.heap.size)
    (h : ∀ q' cap' w', Hid (OOwn w' B q' t cap' (l ++ ys)) → Hid (Below B w w') → wpList Try.prog ops Q rest (a.put o.dst (.slice q' t cap')) w') :
    wpList Try.prog ops Q (o :: rest) a w :=
  wpList_step fun K hK => by
    rw [if_pos hw]
    subst ht
    obtain ⟨q', cap', w', hr, h2, h3⟩ := run_appO w o.type B q n cap l hown p c m ys hy hm h40 hB
    unfold Oper.wp execOp
    simp only [ho, resolve, invoke, builtin, Sem.run_bind, Sem.run_pure, Result.andThen_ok, List.map_toArray, List.map_cons, List.map_nil, hs, hx, hr]
    exact hK _ _ (h q' cap' w' (Lib.hid h2) (Lib.hid h3))
end Go.Proofs.Ytipecocalmmmbaa
