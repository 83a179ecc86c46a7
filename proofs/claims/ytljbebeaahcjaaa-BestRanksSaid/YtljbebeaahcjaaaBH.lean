/- best: what Rank sorts waits so. -/
import Derived.Test.YtljbebeaahcjaaaBF
namespace Go.Proofs.Ytljbebeaahcjaaa
open Go.RowKit Go.Maps Go.Sort Go.Shelf
set_option linter.unusedVariables false
set_option linter.unusedSimpArgs false
set_option maxRecDepth 100000
def leK (a b : List Int) : Prop := ¬ cmpL b a < 0
theorem cmpL_app : ∀ {l m : List Int} (r s : List Int), l.length = m.length → cmpL (l ++ r) (m ++ s) = if cmpL l m = 0 then cmpL r s else cmpL l m
  | [], [], r, s, _ => by rw [cmpL_nil, if_pos rfl]; rfl
  | x :: l, y :: m, r, s, h => by
    rw [List.cons_append, List.cons_append, cmpL_cons, cmpL_cons, cmpL_app r s (by simpa using h)]
    by_cases a : x < y
    · simp [a]
    · by_cases b : y < x
      · simp [a, b]
      · simp [a, b]
theorem leK_trans {a b c : List Int} (h1 : a.length = b.length) (h2 : b.length = c.length) (h : leK a b) (k : leK b c) : leK a c := cmpL_ntrans (l := c) (m := b) (n := a) h2.symm h1.symm k h
theorem leK_anti {a b : List Int} (h1 : a.length = b.length) (h : leK a b) (k : leK b a) : a = b := by
  unfold leK at h k
  have := cmpL_swap h1
  exact cmpL_zero h1 (by omega)
theorem leK_app {l m r s : List Int} (h : l.length = m.length) (k : leK (l ++ r) (m ++ s)) : leK l m ∧ (l = m → leK r s) := by
  unfold leK at k ⊢
  rw [cmpL_app s r h.symm] at k
  constructor
  · intro h2
    rw [if_neg (by omega)] at k
    exact k h2
  · rintro rfl
    rw [cmpL_self, if_pos rfl] at k
    exact k
def grpK (x : St) : List Int := [x.t0, x.t1, x.t2, x.a]
theorem asK_app (x : St) : asK x = grpK x ++ (x.m :: turnK x) := rfl
theorem trK_app (x : St) : trK x = tierK x ++ turnK x := rfl
theorem waitV_g (x o : St) : grpK (waitV x o) = grpK x ∧ tierK (waitV x o) = tierK x ∧ (waitV x o).m = x.m := by unfold waitV; rcases waitB x o with _ | _ <;> exact ⟨rfl, rfl, rfl⟩
theorem waitV_t (x o : St) : (turnK (waitV x o) = turnK x ∧ (grpK x = grpK o → leK (turnK o) (turnK x))) ∨ (turnK (waitV x o) = turnK o ∧ grpK x = grpK o ∧ cmpL (turnK x) (turnK o) < 0) := by
  unfold waitV
  rcases h : waitB x o with _ | _
  · left
    refine ⟨rfl, fun hg hc => ?_⟩
    unfold grpK at hg
    simp only [List.cons.injEq, and_true] at hg
    unfold waitB at h
    rw [hg.1, hg.2.1, hg.2.2.1, hg.2.2.2] at h
    simp only [beq_self_eq_true, Bool.and_self, Bool.true_and, decide_eq_false_iff_not] at h
    exact h hc
  · right
    unfold waitB at h
    simp only [Bool.and_eq_true, beq_iff_eq, decide_eq_true_iff] at h
    refine ⟨rfl, ?_, h.2⟩
    unfold grpK
    rw [h.1.1.1.1, h.1.1.1.2, h.1.1.2, h.1.2]
theorem waitF_g (M : List St) (i : Nat) : grpK (waitF M i) = grpK (M.getD i St.zero) ∧ tierK (waitF M i) = tierK (M.getD i St.zero) := by
  cases i with
  | zero => exact ⟨rfl, rfl⟩
  | succ i => exact ⟨(waitV_g _ _).1, (waitV_g _ _).2.1⟩
theorem waitF_later (M : List St) (i : Nat) : leK (turnK (M.getD i St.zero)) (turnK (waitF M i)) := by
  cases i with
  | zero => show ¬ cmpL (turnK (M.getD 0 St.zero)) (turnK (M.getD 0 St.zero)) < 0; rw [cmpL_self]; omega
  | succ i =>
    rcases waitV_t (M.getD (i + 1) St.zero) (waitF M i) with ⟨h, _⟩ | ⟨h, _, hc⟩
    · show leK _ (turnK (waitV _ _)); rw [h]; show ¬ cmpL _ _ < 0; rw [cmpL_self]; omega
    · show leK _ (turnK (waitV _ _)); rw [h]
      show ¬ cmpL _ _ < 0
      rw [cmpL_swap (by rfl)]; omega
theorem waitF_of (M : List St) : ∀ i, ∃ j, j ≤ i ∧ grpK (M.getD j St.zero) = grpK (M.getD i St.zero) ∧ turnK (waitF M i) = turnK (M.getD j St.zero)
  | 0 => ⟨0, Nat.le_refl _, rfl, rfl⟩
  | i + 1 => by
    rcases waitV_t (M.getD (i + 1) St.zero) (waitF M i) with ⟨h, _⟩ | ⟨h, hg, _⟩
    · exact ⟨i + 1, Nat.le_refl _, rfl, h⟩
    · obtain ⟨j, hj, h1, h2⟩ := waitF_of M i
      exact ⟨j, by omega, by rw [h1, hg, (waitF_g M i).1], h.trans h2⟩
theorem pair_at {R : St → St → Prop} {M : List St} {n : Nat} (hn : M.length = n) (h : M.Pairwise R) {a b : Nat} (hab : a < b) (hb : b < n) : R (M.getD a St.zero) (M.getD b St.zero) := by
  have := (List.pairwise_iff_getElem.1 h) a b (by omega) (by omega) hab
  simpa [List.getD, show a < M.length by omega, show b < M.length by omega] using this
theorem waitF_rises {M : List St} {n : Nat} (hn : M.length = n) (hM : M.Pairwise (fun x y => ltOf cmpAS y x = false)) {j : Nat} : ∀ i, j < i → i < n → grpK (M.getD j St.zero) = grpK (M.getD i St.zero) → leK (turnK (waitF M j)) (turnK (waitF M i))
  | 0, h, _, _ => absurd h (Nat.not_lt_zero _)
  | i + 1, h, hi, hg => by
    have hs : ∀ a b, a < b → b < n → leK (grpK (M.getD a St.zero)) (grpK (M.getD b St.zero)) := fun a b hab hb => by
      have := pair_at hn hM hab hb
      unfold ltOf at this
      rw [decide_eq_false_iff_not, cmpAS_l, asK_app, asK_app] at this
      exact (leK_app (l := grpK (M.getD a St.zero)) (m := grpK (M.getD b St.zero)) (by rfl) this).1
    have hgi : grpK (M.getD i St.zero) = grpK (M.getD (i + 1) St.zero) := by
      rcases Nat.lt_or_eq_of_le (Nat.le_of_lt_succ h) with e | e
      · exact leK_anti (by rfl) (hs i (i + 1) (by omega) hi) (by rw [← hg]; exact hs j i e (by omega))
      · subst e; exact hg
    have hstep : leK (turnK (waitF M i)) (turnK (waitF M (i + 1))) := by
      rcases waitV_t (M.getD (i + 1) St.zero) (waitF M i) with ⟨h, h2⟩ | ⟨h, _, _⟩
      · show leK _ (turnK (waitV _ _)); rw [h]; exact h2 (by rw [← hgi, (waitF_g M i).1])
      · show leK _ (turnK (waitV _ _)); rw [h]; show ¬ cmpL _ _ < 0; rw [cmpL_self]; omega
    rcases Nat.lt_or_eq_of_le (Nat.le_of_lt_succ h) with e | e
    · exact leK_trans (by rfl) (by rfl) (waitF_rises hn hM i e (by omega) (hg.trans hgi.symm)) hstep
    · subst e; exact hstep
theorem waitL_at {M : List St} {n i : Nat} (hi : i < n) : (waitL M n)[i]? = some (waitF M i) := by
  unfold waitL
  simp [hi]
theorem waitF_inj {l : List Rv} {n : Nat} {M : List St} (hp : (standL l n).Perm M) {a b : Nat} (ha : a < n) (hb : b < n) (h : (waitF M a).p = (waitF M b).p) : a = b := by
  have hnd : ((waitL M n).map St.p).Nodup := (waitL_perm hp).nodup_iff.2 (range_nodup n)
  have hl : ((waitL M n).map St.p).length = n := by rw [List.length_map, waitL_len]
  have e : ((waitL M n).map St.p)[a]'(by omega) = ((waitL M n).map St.p)[b]'(by omega) := by
    simp only [List.getElem_map]
    have ha' := List.getElem?_eq_some_iff.1 (waitL_at (M := M) ha)
    have hb' := List.getElem?_eq_some_iff.1 (waitL_at (M := M) hb)
    rw [ha'.2, hb'.2, h]
  rcases Nat.lt_trichotomy a b with h1 | h1 | h1
  · exact absurd e (List.pairwise_iff_getElem.1 hnd a b (by omega) (by omega) h1)
  · exact h1
  · exact absurd e.symm (List.pairwise_iff_getElem.1 hnd b a (by omega) (by omega) h1)
theorem stand_u2 {l : List Rv} {n : Nat} {M : List St} (hp : (standL l n).Perm M) {x : St} (hx : x ∈ M) : x.u2 = x.p := by
  have := (hp.mem_iff (a := x)).2 hx
  unfold standL at this
  obtain ⟨i, _, rfl⟩ := List.mem_map.1 this
  rfl
theorem getD_mem {M : List St} {n i : Nat} (hn : M.length = n) (hi : i < n) : M.getD i St.zero ∈ M := by
  rw [show M.getD i St.zero = M[i]'(by omega) by simp [List.getD, show i < M.length by omega]]
  exact List.getElem_mem _
theorem rank_waits {l : List Rv} {n : Nat} {M N : List St} (hp : (standL l n).Perm M) (hM : M.Pairwise (fun x y => ltOf cmpAS y x = false)) (hq : (waitL M n).Perm N) (hN : N.Pairwise (fun x y => ltT (ltOf cmpTurn) (fun z => (waitL M n).idxOf z) y x = false)) :
    Waits leK leK n (fun i => grpK (M.getD i St.zero)) (fun i => tierK (M.getD i St.zero)) (fun i => (M.getD i St.zero).m) (fun i => turnK (M.getD i St.zero)) (fun i => turnK (waitF M i)) (fun i => N.idxOf (waitF M i)) := by
  have hn : M.length = n := by rw [← hp.length_eq, standL_len]
  have hnN : N.length = n := by rw [← hq.length_eq, waitL_len]
  have hKn := waitL_nodup hp
  have hidx : ∀ i, i < n → (waitL M n).idxOf (waitF M i) = i := fun i hi => by
    have h := List.getElem?_eq_some_iff.1 (waitL_at (M := M) hi)
    rw [← h.2]
    exact hKn.idxOf_getElem i h.1
  have hmem : ∀ i, i < n → waitF M i ∈ N := fun i hi => (hq.mem_iff).1 (by
    obtain ⟨h1, h2⟩ := List.getElem?_eq_some_iff.1 (waitL_at (M := M) hi)
    rw [← h2]; exact List.getElem_mem _)
  have hge : ∀ i (hi : i < n), N[N.idxOf (waitF M i)]'(List.idxOf_lt_length_iff.2 (hmem i hi)) = waitF M i := fun i hi => List.getElem_idxOf _
  refine ⟨fun a => ?_, fun i j k hi hj hk a b c ha hb hc h1 h2 => ?_, fun i j hi hj h1 h2 => ?_, fun a b hab hb hg => ?_, fun i hi => waitF_later M i, fun i hi => waitF_of M i, fun j i hj hi hg => waitF_rises hn hM i hj hi hg, fun a b ha hb hab => ?_, fun a b ha hb hg => ?_, fun a b ha hb h => ?_, fun a b ha hb h => ?_⟩
  · show ¬ cmpL a a < 0
    rw [cmpL_self]; omega
  · have la : a.length = 3 := by rcases ha with rfl | rfl <;> rfl
    have lb : b.length = 3 := by rcases hb with rfl | rfl <;> rfl
    have lc : c.length = 3 := by rcases hc with rfl | rfl <;> rfl
    exact leK_trans (by omega) (by omega) h1 h2
  · exact leK_anti (by rfl) h1 h2
  · have h := pair_at hn hM hab hb
    unfold ltOf at h
    rw [decide_eq_false_iff_not, cmpAS_l, asK_app, asK_app] at h
    have h2 := (leK_app (l := grpK (M.getD a St.zero)) (m := grpK (M.getD b St.zero)) (by rfl) h).2 hg
    unfold leK at h2
    rw [cmpL_cons] at h2
    constructor
    · split at h2
      · omega
      · omega
    · intro hm
      rw [if_neg (by omega), if_neg (by omega)] at h2
      exact h2
  · have h := (List.pairwise_iff_getElem.1 hN) (N.idxOf (waitF M a)) (N.idxOf (waitF M b)) (List.idxOf_lt_length_iff.2 (hmem a ha)) (List.idxOf_lt_length_iff.2 (hmem b hb)) hab
    rw [hge a ha, hge b hb] at h
    unfold ltT at h
    simp only [Bool.or_eq_false_iff, Bool.and_eq_false_iff, Bool.not_eq_false', decide_eq_false_iff_not] at h
    obtain ⟨h1, h2⟩ := h
    rw [hidx a ha, hidx b hb] at h2
    unfold ltOf at h1 h2
    rw [decide_eq_false_iff_not, cmpTurn_l, trK_app, trK_app, (waitF_g M a).2, (waitF_g M b).2] at h1
    have h3 := leK_app (l := tierK (M.getD a St.zero)) (m := tierK (M.getD b St.zero)) (by rfl) h1
    refine ⟨h3.1, fun ht => ⟨h3.2 ht, fun hle => ?_⟩⟩
    have hne : a ≠ b := fun e => by subst e; exact Nat.lt_irrefl _ hab
    rcases h2 with h2 | h2
    · rw [decide_eq_true_iff, cmpTurn_l, trK_app, trK_app, (waitF_g M a).2, (waitF_g M b).2, cmpL_app _ _ (by rfl), ht, cmpL_self, if_pos rfl] at h2
      exact absurd h2 hle
    · omega
  · show tierK _ = tierK _
    have hg : grpK (M.getD a St.zero) = grpK (M.getD b St.zero) := hg
    unfold grpK at hg
    unfold tierK
    simp only [List.cons.injEq, and_true] at hg ⊢
    exact ⟨hg.1, hg.2.1, hg.2.2.1⟩
  · have h : turnK (M.getD a St.zero) = turnK (M.getD b St.zero) := h
    unfold turnK at h
    simp only [List.cons.injEq, and_true] at h
    have h3 := h.2.2
    rw [stand_u2 hp (getD_mem hn ha), stand_u2 hp (getD_mem hn hb)] at h3
    exact waitF_inj hp ha hb (by rw [waitF_p, waitF_p]; exact h3)
  · have e : waitF M a = waitF M b := by
      rw [← hge a ha, ← hge b hb]
      have h : N.idxOf (waitF M a) = N.idxOf (waitF M b) := h
      simp only [h]
    exact waitF_inj hp ha hb (by rw [e])
end Go.Proofs.Ytljbebeaahcjaaa
