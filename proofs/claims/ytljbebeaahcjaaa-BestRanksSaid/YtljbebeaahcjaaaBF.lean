/- best: why Rank is in rank, without routes. -/
import Derived.Test.YtljbebeaahcjaaaB8
namespace Go.Proofs.Ytljbebeaahcjaaa
set_option linter.unusedVariables false
set_option linter.unusedSimpArgs false

/-- Places by tier and AS, of which each waits for those ahead of it: g is tier and AS, ti the tier, me the Med, tu the turn, T the turn when it has waited, pos where it comes to stand. -/
structure Waits {V G W : Type} (le : V → V → Prop) (let_ : W → W → Prop) (n : Nat) (g : Nat → G) (ti : Nat → W) (me : Nat → Int) (tu T : Nat → V) (pos : Nat → Nat) : Prop where
  intro ::
  refl : ∀ a, le a a
  trans : ∀ i j k, i < n → j < n → k < n → (∀ a b c : V, (a = tu i ∨ a = T i) → (b = tu j ∨ b = T j) → (c = tu k ∨ c = T k) → le a b → le b c → le a c)
  anti : ∀ i j, i < n → j < n → le (T i) (tu j) → le (tu j) (T i) → T i = tu j
  sorted : ∀ a b, a < b → b < n → g a = g b → me a ≤ me b ∧ (me a = me b → le (tu a) (tu b))
  later : ∀ i, i < n → le (tu i) (T i)
  of : ∀ i, i < n → ∃ j, j ≤ i ∧ g j = g i ∧ T i = tu j
  rises : ∀ j i, j < i → i < n → g j = g i → le (T j) (T i)
  placed : ∀ a b, a < n → b < n → pos a < pos b → let_ (ti a) (ti b) ∧ (ti a = ti b → le (T a) (T b) ∧ (le (T b) (T a) → a < b))
  same : ∀ a b, a < n → b < n → g a = g b → ti a = ti b
  inj : ∀ a b, a < n → b < n → tu a = tu b → a = b
  one : ∀ a b, a < n → b < n → pos a = pos b → a = b
section
variable {V G W : Type} {le : V → V → Prop} {let_ : W → W → Prop} {n : Nat} {g : Nat → G} {ti : Nat → W} {me : Nat → Int} {tu T : Nat → V} {pos : Nat → Nat}
/-- Of its tier and AS it has the least Med of those from it on. -/
theorem Waits.med (h : Waits le let_ n g ti me tu T pos) {a b : Nat} (ha : a < n) (hb : b < n) (hS : pos a ≤ pos b) (hg : g b = g a) : me a ≤ me b := by
  rcases Nat.lt_trichotomy a b with e | e | e
  · exact (h.sorted a b e hb hg.symm).1
  · subst e; exact Int.le_refl _
  · have hp : pos a < pos b := by
      rcases Nat.lt_or_eq_of_le hS with h1 | h1
      · exact h1
      · exact absurd (h.one a b ha hb h1) (by omega)
    have h1 := (h.placed a b ha hb hp).2 (h.same a b ha hb hg.symm)
    have := h1.2 (h.rises b a e ha hg)
    omega
/-- Of those that are left from it on none has an earlier turn. -/
theorem Waits.turn (h : Waits le let_ n g ti me tu T pos) {a b : Nat} (ha : a < n) (hb : b < n) (hS : pos a ≤ pos b) (ht : ti a = ti b) (hm : ∀ c, c < n → pos a ≤ pos c → g c = g b → me b ≤ me c) : le (tu a) (tu b) := by
  by_cases hab : a = b
  · subst hab; exact h.refl _
  have hp : pos a < pos b := by
    rcases Nat.lt_or_eq_of_le hS with h1 | h1
    · exact h1
    · exact absurd (h.one a b ha hb h1) hab
  obtain ⟨hle, htie⟩ := (h.placed a b ha hb hp).2 ht
  obtain ⟨y, hy, hgy, hTy⟩ := h.of b hb
  have hyn : y < n := by omega
  have hay : le (tu a) (tu y) := by
    rw [← hTy]
    exact h.trans a a b ha ha hb _ _ _ (.inl rfl) (.inr rfl) (.inr rfl) (h.later a ha) hle
  rcases Nat.lt_or_eq_of_le hy with hyb | rfl
  · obtain ⟨hm1, hm2⟩ := h.sorted y b hyb hb hgy
    rcases Int.lt_or_eq_of_le hm1 with hlt | heq
    · have hns : ¬ pos a ≤ pos y := fun hs => by have := hm y hyn hs hgy; omega
      have hpy : pos y < pos a := by omega
      have hty : ti y = ti a := (h.same y b hyn hb hgy).trans ht.symm
      obtain ⟨hle2, htie2⟩ := (h.placed y a hyn ha hpy).2 hty
      -- T a = tu y
      have hTa : T a = tu y := by
        refine h.anti a y ha hyn ?_ ?_
        · rw [← hTy]; exact hle
        · exact h.trans y y a hyn hyn ha _ _ _ (.inl rfl) (.inr rfl) (.inr rfl) (h.later y hyn) hle2
      obtain ⟨z, hz, hgz, hTz⟩ := h.of a ha
      have hzy : z = y := h.inj z y (by omega) hyn (hTz.symm.trans hTa)
      subst hzy
      have hgab : g a = g b := hgz.symm.trans hgy
      have hme1 := hm a ha (Nat.le_refl _) hgab
      have hme2 := h.med ha hb hS hgab.symm
      rcases Nat.lt_trichotomy a b with e | e | e
      · exact (h.sorted a b e hb hgab).2 (by omega)
      · exact absurd e hab
      · have := htie (h.rises b a e ha hgab.symm)
        omega
    · exact h.trans a y b ha hyn hb _ _ _ (.inl rfl) (.inl rfl) (.inl rfl) hay (hm2 heq)
  · exact hay
end
end Go.Proofs.Ytljbebeaahcjaaa
