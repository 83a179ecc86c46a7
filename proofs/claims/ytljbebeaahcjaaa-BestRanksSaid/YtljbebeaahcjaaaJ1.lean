/- best in numbers: the least, step by step; a place that goes. -/
import Derived.Test.YtljbebeaahcjaaaAK
namespace Go.Proofs.Ytljbebeaahcjaaa
set_option linter.unusedVariables false
set_option linter.unusedSimpArgs false

/-- The least number of places. -/
def minK (k : Nat → Int) : List Nat → Int
  | [] => 0
  | [i] => k i
  | i :: t => min (k i) (minK k t)
theorem minK_le (k : Nat → Int) : ∀ {l : List Nat} {i : Nat}, i ∈ l → minK k l ≤ k i
  | [], _, h => by simp at h
  | [a], i, h => by simp at h; subst h; exact Int.le_refl _
  | a :: b :: t, i, h => by
    rcases List.mem_cons.1 h with e | h
    · subst e; exact Int.min_le_left _ _
    · exact Int.le_trans (Int.min_le_right _ _) (minK_le k h)
theorem minK_mem (k : Nat → Int) : ∀ {l : List Nat}, l ≠ [] → ∃ i ∈ l, k i = minK k l
  | [], h => absurd rfl h
  | [a], _ => ⟨a, by simp, rfl⟩
  | a :: b :: t, _ => by
    obtain ⟨i, hi, e⟩ := minK_mem k (l := b :: t) (by simp)
    by_cases h : k a ≤ minK k (b :: t)
    · exact ⟨a, by simp, (Int.min_eq_left h).symm⟩
    · exact ⟨i, List.mem_cons_of_mem _ hi, by rw [e]; exact (Int.min_eq_right (by omega)).symm⟩
/-- Those of the least number. -/
def leastV (k : Nat → Int) (l : List Nat) : List Nat := l.filter fun i => decide (k i ≤ minK k l)
theorem mem_least (k : Nat → Int) (l : List Nat) (i : Nat) : i ∈ leastV k l ↔ i ∈ l ∧ ∀ j ∈ l, k i ≤ k j := by
  unfold leastV
  rw [List.mem_filter, decide_eq_true_eq]
  constructor
  · rintro ⟨h, h1⟩
    exact ⟨h, fun j hj => Int.le_trans h1 (minK_le k hj)⟩
  · rintro ⟨h, h1⟩
    obtain ⟨j, hj, e⟩ := minK_mem k (l := l) (by intro e; rw [e] at h; simp at h)
    exact ⟨h, e ▸ h1 j hj⟩
/-- One number behind the other. -/
def leL : List Int → List Int → Prop
  | a :: s, b :: t => a < b ∨ (a = b ∧ leL s t)
  | _, _ => True
def selV : List (Nat → Int) → List Nat → List Nat
  | [], l => l
  | k :: ks, l => selV ks (leastV k l)
theorem mem_sel : ∀ (ks : List (Nat → Int)) (l : List Nat) (i : Nat), i ∈ selV ks l ↔ i ∈ l ∧ ∀ j ∈ l, leL (ks.map (· i)) (ks.map (· j))
  | [], l, i => by simp [selV, leL]
  | k :: ks, l, i => by
    show i ∈ selV ks (leastV k l) ↔ _
    rw [mem_sel ks, mem_least]
    simp only [List.map_cons, leL]
    constructor
    · rintro ⟨⟨h, h1⟩, h2⟩
      refine ⟨h, fun j hj => ?_⟩
      have h3 := h1 j hj
      by_cases e : k i = k j
      · exact .inr ⟨e, h2 j ((mem_least k l j).2 ⟨hj, fun m hm => e ▸ h1 m hm⟩)⟩
      · exact .inl (by omega)
    · rintro ⟨h, h1⟩
      refine ⟨⟨h, fun j hj => ?_⟩, fun j hj => ?_⟩
      · rcases h1 j hj with h2 | ⟨h2, _⟩ <;> omega
      · obtain ⟨hj, h3⟩ := (mem_least k l j).1 hj
        have h4 := h3 i h
        rcases h1 j hj with h2 | ⟨_, h2⟩
        · omega
        · exact h2
theorem sel_sub : ∀ (ks : List (Nat → Int)) (l : List Nat), (selV ks l).Sublist l
  | [], l => List.Sublist.refl _
  | k :: ks, l => (sel_sub ks _).trans List.filter_sublist
theorem sel_ne : ∀ (ks : List (Nat → Int)) (l : List Nat), l ≠ [] → selV ks l ≠ []
  | [], l, h => h
  | k :: ks, l, h => by
    refine sel_ne ks _ ?_
    obtain ⟨i, hi, e⟩ := minK_mem k h
    intro e2
    have : i ∈ leastV k l := (mem_least k l i).2 ⟨hi, fun j hj => e ▸ minK_le k hj⟩
    rw [e2] at this
    simp at this
/-- The best one of the first n: the least, and of these the first. -/
structure BestOf (ks : List (Nat → Int)) (n i : Nat) : Prop where
  lt : i < n
  le : ∀ j, j < n → leL (ks.map (· i)) (ks.map (· j))
  fst : ∀ j, j < i → ¬ ∀ m, m < n → leL (ks.map (· j)) (ks.map (· m))
theorem best_head {ks : List (Nat → Int)} {n i : Nat} {t : List Nat} (h : selV ks (List.range n) = i :: t) : BestOf ks n i := by
  have hi : i ∈ selV ks (List.range n) := by rw [h]; simp
  obtain ⟨h1, h2⟩ := (mem_sel ks _ i).1 hi
  have hp : (i :: t).Pairwise (· < ·) := by rw [← h]; exact List.Pairwise.sublist (sel_sub ks _) List.pairwise_lt_range
  refine ⟨List.mem_range.1 h1, fun j hj => h2 j (List.mem_range.2 hj), fun j hj hc => ?_⟩
  have hm : j ∈ selV ks (List.range n) := (mem_sel ks _ j).2 ⟨List.mem_range.2 (Nat.lt_trans hj (List.mem_range.1 h1)), fun m hm => hc m (List.mem_range.1 hm)⟩
  rw [h] at hm
  rcases List.mem_cons.1 hm with e | hm
  · omega
  · have := (List.pairwise_cons.1 hp).1 j hm
    omega
theorem best_unique {ks : List (Nat → Int)} {n i j : Nat} (h : BestOf ks n i) (k : BestOf ks n j) : i = j := by
  rcases Nat.lt_trichotomy i j with e | e | e
  · exact absurd h.le (k.fst i e)
  · exact e
  · exact absurd k.le (h.fst j e)
theorem leL_trans : ∀ {a b c : List Int}, a.length = b.length → b.length = c.length → leL a b → leL b c → leL a c
  | [], [], [], _, _, _, _ => trivial
  | x :: s, y :: t, z :: u, h1, h2, h3, h4 => by
    simp only [leL] at *
    rcases h3 with h3 | ⟨h3, h5⟩ <;> rcases h4 with h4 | ⟨h4, h6⟩
    · exact .inl (by omega)
    · exact .inl (by omega)
    · exact .inl (by omega)
    · exact .inr ⟨by omega, leL_trans (by simpa using h1) (by simpa using h2) h5 h6⟩
  | [], _ :: _, _, h, _, _, _ => by simp at h
  | _ :: _, [], _, h, _, _, _ => by simp at h
  | _ :: _, _ :: _, [], _, h, _, _ => by simp at h
  | [], [], _ :: _, _, h, _, _ => by simp at h
/-- A place behind one that went. -/
def shiftP (g j : Nat) : Nat := if j < g then j else j + 1
theorem shift_of {g i : Nat} (h : i ≠ g) : shiftP g (if g < i then i - 1 else i) = i := by
  unfold shiftP
  by_cases e : g < i
  · rw [if_pos e, if_neg (by omega)]; omega
  · rw [if_neg e, if_pos (by omega)]
theorem shift_of' {g m : Nat} (h : m ≠ g) : shiftP g (if m < g then m else m - 1) = m := by
  unfold shiftP
  by_cases e : m < g
  · rw [if_pos e, if_pos e]
  · rw [if_neg e, if_neg (by omega)]; omega
/-- Another one may go, and the best one stays. -/
theorem best_stays {ks ks' : List (Nat → Int)} {n g i : Nat} (h : BestOf ks (n + 1) i) (hg : g ≤ n) (hne : i ≠ g) (hk : ∀ j, ks'.map (· j) = ks.map (· (shiftP g j))) : BestOf ks' n (if g < i then i - 1 else i) := by
  have hsh : shiftP g (if g < i then i - 1 else i) = i := shift_of hne
  have hi := h.lt
  refine ⟨by split <;> omega, fun j hj => ?_, fun j hj hc => ?_⟩
  · rw [hk, hk, hsh]
    exact h.le _ (by unfold shiftP; split <;> omega)
  · have hj2 : shiftP g j < i := by
      unfold shiftP
      revert hj
      repeat' split
      all_goals omega
    refine h.fst _ hj2 fun m hm => ?_
    by_cases e : m = g
    · subst e
      have h1 := h.le m (by omega)
      have h2 : leL (ks.map (· (shiftP m j))) (ks.map (· i)) := by
        have := hc (if m < i then i - 1 else i) (by split <;> omega)
        rwa [hk, hk, hsh] at this
      exact leL_trans (by simp) (by simp) h2 h1
    · have := hc (if m < g then m else m - 1) (by split <;> omega)
      rw [hk, hk] at this
      rwa [show shiftP g (if m < g then m else m - 1) = m from shift_of' e] at this
end Go.Proofs.Ytljbebeaahcjaaa
