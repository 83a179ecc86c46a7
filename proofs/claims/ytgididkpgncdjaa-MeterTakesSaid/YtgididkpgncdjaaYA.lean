/- the document's Demands in numbers; s[:k:k], append to it. -/
import Derived.Test.YtgididkpgncdjaaZX
import Derived.Test.YtgididkpgncdjaaZM
namespace Go.Proofs.Ytgididkpgncdjaa
open Go.RowKit Go.Maps
set_option linter.unusedVariables false
set_option linter.unusedSimpArgs false

/-- What is out behind the first i sources, and j counts of the next. -/
structure DemI (V : Nat → Mv) (Z : Nat → Lz) (i j : Nat) (os : List Ct) : Prop where
  intro ::
  srt : Srt (os.map (·.p))
  inn : ∀ x ∈ os, InCt x
  val : ∀ x ∈ os, x.c = demV V x.p ∧ x.c ≠ 0
  all : ∀ q, q < i → ∀ y ∈ (Z q).R.L, demV V y.p ≠ 0 → y.p ∈ os.map (·.p)
  cur : ∀ y ∈ (Z i).R.L.take j, demV V y.p ≠ 0 → y.p ∈ os.map (·.p)
  len : os.length ≤ 1024 * i + j
theorem DemI.nil (V : Nat → Mv) (Z : Nat → Lz) : DemI V Z 0 0 [] := ⟨List.Pairwise.nil, fun x h => (by cases h), fun x h => (by cases h), fun q h => absurd h (Nat.not_lt_zero _), fun y h => (by simp at h), by simp⟩
theorem DemI.next {V : Nat → Mv} {Z : Nat → Lz} {i n : Nat} {os : List Ct} (h : DemI V Z i n os) (hn : (Z i).R.L.length = n) (hm : n ≤ 1024) : DemI V Z (i + 1) 0 os :=
  ⟨h.srt, h.inn, h.val, fun q hq y hy hd => by
    rcases Nat.lt_or_ge q i with hlt | hge
    · exact h.all q hlt y hy hd
    · obtain rfl : q = i := by omega
      exact h.cur y (by rw [List.take_of_length_le (by omega)]; exact hy) hd, fun y hy => (by simp at hy), by have := h.len; omega⟩
theorem take_snoc {α : Type} (l : List α) (z : α) {j : Nat} (hj : j < l.length) : l.take (j + 1) = l.take j ++ [l.getD j z] := by
  rw [List.take_add_one, show l[j]?.toList = [l.getD j z] by simp [List.getD, hj]]
theorem DemI.skip {V : Nat → Mv} {Z : Nat → Lz} {i j : Nat} {os : List Ct} (h : DemI V Z i j os) (hj : j < (Z i).R.L.length) (hs : demV V ((Z i).R.L.getD j Ct.zero).p = 0 ∨ ((Z i).R.L.getD j Ct.zero).p ∈ os.map (·.p)) : DemI V Z i (j + 1) os :=
  ⟨h.srt, h.inn, h.val, h.all, fun y hy hd => by
    rw [take_snoc _ Ct.zero hj] at hy
    rcases List.mem_append.1 hy with hy | hy
    · exact h.cur y hy hd
    · rw [List.mem_singleton] at hy
      subst hy
      exact hs.elim (fun e => absurd e hd) id, by have := h.len; omega⟩
theorem srt_ins {ps : List Pf} (hs : Srt ps) (p : Pf) (k : Nat) (hlow : ∀ y ∈ ps.take k, ltN y p) (hhigh : ∀ y ∈ ps.drop k, ltN p y) : Srt ((ps.take k ++ [p]) ++ ps.drop k) := by
  have h0 : (ps.take k ++ ps.drop k).Pairwise ltN := by rw [List.take_append_drop]; exact hs
  rw [List.pairwise_append] at h0
  unfold Srt
  rw [List.append_assoc, List.pairwise_append]
  refine ⟨h0.1, ?_, ?_⟩
  · rw [List.singleton_append, List.pairwise_cons]; exact ⟨hhigh, h0.2.1⟩
  · intro a ha b hb
    rcases List.mem_append.1 hb with hb | hb
    · rw [List.mem_singleton.1 hb]; exact hlow a ha
    · exact h0.2.2 a ha b hb
theorem srt_high {ps : List Pf} (hs : Srt ps) (p : Pf) (k : Nat) (hstop : k = ps.length ∨ ltN p (ps.getD k Pf.zero)) : ∀ y ∈ ps.drop k, ltN p y := by
  rcases hstop with h | h
  · rw [List.drop_eq_nil_of_le (by omega)]; intro y hy; cases hy
  · by_cases hkl : k < ps.length
    · have hdk := List.drop_eq_getElem_cons hkl
      have hg : ps.getD k Pf.zero = ps[k] := by simp [List.getD, hkl]
      rw [hg] at h
      have hp : (ps.drop k).Pairwise ltN := List.Pairwise.drop hs
      rw [hdk, List.pairwise_cons] at hp
      rw [hdk]
      intro y hy
      rcases List.mem_cons.1 hy with rfl | hy
      · exact h
      · exact ltN_trans h (hp.1 y hy)
    · rw [List.drop_eq_nil_of_le (by omega)]; intro y hy; cases hy
theorem getD_p (os : List Ct) (k : Nat) (hk : k < os.length) : (os.map (·.p)).getD k Pf.zero = (os.getD k Ct.zero).p := by simp [List.getD, hk]
theorem DemI.ins {V : Nat → Mv} {Z : Nat → Lz} {i j k : Nat} {os : List Ct} {p : Pf} (h : DemI V Z i j os) (hj : j < (Z i).R.L.length) (hp : ((Z i).R.L.getD j Ct.zero).p = p) (hi : InPf p) (hd : demV V p ≠ 0) (hk : k ≤ os.length) (hlow : ∀ q, q < k → ltN (os.getD q Ct.zero).p p) (hstop : k = os.length ∨ ltN p (os.getD k Ct.zero).p) : DemI V Z i (j + 1) ((os.take k ++ [⟨p, demV V p⟩]) ++ os.drop k) := by
  have hmem : ∀ y : Ct, y ∈ (os.take k ++ [⟨p, demV V p⟩]) ++ os.drop k ↔ y ∈ os ∨ y = ⟨p, demV V p⟩ := fun y => by
    have h1 : y ∈ os ↔ y ∈ os.take k ∨ y ∈ os.drop k := by
      have e := List.mem_append (a := y) (s := os.take k) (t := os.drop k)
      rw [List.take_append_drop] at e
      exact e
    rw [h1]
    simp only [List.mem_append, List.mem_singleton]
    constructor
    · rintro ((h | h) | h)
      · exact .inl (.inl h)
      · exact .inr h
      · exact .inl (.inr h)
    · rintro ((h | h) | h)
      · exact .inl (.inl h)
      · exact .inr h
      · exact .inl (.inr h)
  have hold : ∀ q : Pf, q ∈ os.map (·.p) → q ∈ ((os.take k ++ [(⟨p, demV V p⟩ : Ct)]) ++ os.drop k).map (·.p) := fun q hq => by
    obtain ⟨y, hy, rfl⟩ := List.mem_map.1 hq
    exact List.mem_map_of_mem ((hmem y).2 (.inl hy))
  refine ⟨?_, fun x hx => ?_, fun x hx => ?_, fun q hq y hy hd => hold _ (h.all q hq y hy hd), fun y hy hd2 => ?_, ?_⟩
  · rw [List.map_append, List.map_append, List.map_take, List.map_drop]
    refine srt_ins h.srt p k ?_ (srt_high h.srt p k ?_)
    · intro y hy
      obtain ⟨q, hq, rfl⟩ := List.getElem_of_mem hy
      rw [List.length_take, List.length_map] at hq
      have := hlow q (by omega)
      rw [List.getElem_take, List.getElem_map]
      simpa [List.getD, show q < os.length by omega] using this
    · rcases hstop with h1 | h1
      · left; simp [h1]
      · rcases Nat.lt_or_ge k os.length with h2 | h2
        · right; rw [getD_p os k h2]; exact h1
        · left; simp; omega
  · rcases (hmem x).1 hx with h1 | rfl
    · exact h.inn x h1
    · exact hi
  · rcases (hmem x).1 hx with h1 | rfl
    · exact h.val x h1
    · exact ⟨rfl, hd⟩
  · rw [take_snoc _ Ct.zero hj] at hy
    rcases List.mem_append.1 hy with hy | hy
    · exact hold _ (h.cur y hy hd2)
    · rw [List.mem_singleton] at hy
      subst hy
      rw [hp]
      exact List.mem_map.2 ⟨⟨p, demV V p⟩, (hmem _).2 (.inr rfl), rfl⟩
  · have := h.len
    simp only [List.length_append, List.length_take, List.length_drop, List.length_singleton]
    omega
theorem DemI.end_ {V : Nat → Mv} {Z : Nat → Lz} {os : List Ct} (h : DemI V Z 16 0 os) (hr : RelV V Z) (hv : OkV V) : Dem V os := by
  refine ⟨h.srt, fun p => ⟨fun hp => ?_, fun ⟨x, hx, e⟩ => ?_⟩, fun x hx => (h.val x hx).1⟩
  · obtain ⟨y, hy, rfl⟩ := List.mem_map.1 hp
    obtain ⟨h1, h2⟩ := h.val y hy
    by_cases ha : (allR V 16).any (fun x => x.p == y.p) = true
    · obtain ⟨x, hx, e⟩ := List.any_eq_true.1 ha
      exact ⟨x, hx, by simpa using e⟩
    · exfalso
      rw [Bool.not_eq_true] at ha
      have h3 := demS_tot hv y.p 16 (Nat.le_refl _)
      rw [totP_no y.p ha] at h3
      apply h2
      rw [h1]
      unfold demV
      rw [← h3]
      rfl
  · obtain ⟨i, hi, hxi⟩ := allR_mem hx
    obtain ⟨w1, w2, w3⟩ := (hv i hi).inR x hxi
    have hz := hr i hi
    by_cases h2 : (Z i).i = 2
    · obtain ⟨v0, hv0, e1, e2, e3⟩ := hz.R h2
      have hs := (ratesV_p v0 (Z i).t (Z i).R.L).subset (e3 ▸ List.mem_map_of_mem hxi)
      obtain ⟨y, hy, hyp⟩ := List.mem_map.1 hs
      have hd : demV V y.p ≠ 0 := by
        rw [hyp, e]
        unfold demV
        have h3 := demS_tot hv p 16 (Nat.le_refl _)
        have h4 : 1 ≤ totP p (allR V 16) := by
          obtain ⟨l1, l2, hl⟩ := List.append_of_mem hx
          rw [hl, totP_append]
          have hnn : ∀ x ∈ allR V 16, 0 ≤ x.c := fun x hx => by
            obtain ⟨i, hi, hx⟩ := allR_mem hx
            have := ((hv i hi).inR x hx).2.1
            omega
          rw [hl] at hnn
          have n1 := totP_nn p (l := l1) fun y hy => hnn y (List.mem_append_left _ hy)
          have n2 := totP_nn p (l := l2) fun y hy => hnn y (List.mem_append_right _ (List.mem_cons_of_mem _ hy))
          simp only [totP]
          rw [if_pos e]
          omega
        rw [h3] at h4
        unfold near
        repeat' split
        all_goals omega
      have := h.all i hi y hy hd
      rw [hyp, e] at this
      exact this
    · rw [hz.no h2] at hxi; cases hxi
/-- s[:k:k]. -/
theorem cutL_hm {st et : TypeId} {α : Type} {c : α → List Value} {ok : α → Prop} {zero : α} {zv : Value} {sz by_ : Nat} (C : RowC st et c ok zero zv sz by_) (w : World) (p : Option Addr) (l : List α) (n c' k : Nat) (h : LAt c ok zero sz w p l) (hn : l.length = n) (hk : k ≤ n) (hc : n ≤ c') :
    ∃ Q : Option Addr, (∀ u, (Instr.slice st (.slice p n c') none (some (.int .i64 k)) (some (.int .i64 k))).run Try.prog u = .ok (.slice Q k k) u) ∧ LAt c ok zero sz w Q (l.take k) := by
  refine ⟨if k = 0 then p else p.map (·.add (0 * sz)), fun u => ?_, ?_⟩
  · rw [run_slice_hm (ht := C.elem) (h0 := by omega) (h2 := by omega) (h3 := by omega), C.size]
    simp [Result.andThen, sliced]
  · by_cases e : k = 0
    · subst e; rw [if_pos rfl]; exact h.take 0
    · rw [if_neg e]
      rcases h.cells with rfl | ⟨b, off, rfl, _⟩
      · simp; exact LAt.nil _ _ _ _ _ _
      · rw [Option.map_some, add_litL, Nat.zero_mul, Nat.add_zero]
        exact h.take k
theorem step_appFullL {st et : TypeId} {α : Type} {c : α → List Value} {ok : α → Prop} {zero : α} {zv : Value} {sz by_ : Nat} (C : RowC st et c ok zero zv sz by_) {ops : Array Oper} {o : Oper} {a : Act} {w : World} {K : Act → World → Prop} {Q : Exit → Act → World → Prop} {E : Prop} (hw : Region.wanted o (yielded ops a.tmps) = true) (s x : Operand)
    (ho : o.op = .call { callee := .builtin .append, args := #[s, x], argTypes := #[st, st] })
    (p : Option Addr) (n : Nat) (l : List α) (h1 : LAt c ok zero sz w p l) (hn : l.length = n) (hs : a.eval s = .slice p n n)
    (q : Option Addr) (m c' : Nat) (ys : List α) (hy : LAt c ok zero sz w q ys) (hm : ys.length = m) (hx : a.eval x = .slice q m c') (hm0 : 0 < m) (t : Nat) (ht : n + m = t) (h40 : t ≤ 34359738368) (z : Nat) (hz : w.heap.size = z)
    (h : ∀ cap' w', Hid (LOwn et c ok sz w' z (some ⟨z, 0, none⟩) t cap' (l ++ ys)) → Hid (Below z w w') → K (a.put o.dst (.slice (some ⟨z, 0, none⟩) t cap')) w') :
    if Region.wanted o (yielded ops a.tmps) = true then Oper.wp Try.prog o a w K Q else E := by
  rw [if_pos hw]
  subst ht
  subst hz
  obtain ⟨cap', w', hr, h2, h3⟩ := run_appFullL C w o.type p l n h1 hn q c' m ys hy hm hm0 h40
  unfold Oper.wp execOp
  simp only [ho, resolve, invoke, builtin, Sem.run_bind, Sem.run_pure, Result.andThen_ok, List.map_toArray, List.map_cons, List.map_nil, hs, hx, hr]
  exact h cap' w' (Lib.hid h2) (Lib.hid h3)
end Go.Proofs.Ytgididkpgncdjaa
