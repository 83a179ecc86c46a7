/- Stable sorting: blocks, and tags that tell who came first, without memory. -/
import Derived.Test.YtljbebeaahcjaaaS1
namespace Go.Proofs.Ytljbebeaahcjaaa
open Go.Sort
set_option linter.unusedVariables false
set_option linter.unusedSimpArgs false
set_option linter.unusedSectionVars false

section
variable {α : Type} [Inhabited α]
/-- Who is ahead, and of those of whom neither is ahead who came first. -/
def ltT (lt : α → α → Bool) (τ : α → Nat) (x y : α) : Bool := lt x y || (!lt y x && decide (τ x < τ y))
theorem ltT_late {lt : α → α → Bool} {τ : α → Nat} {x y : α} (h : τ y < τ x) : ltT lt τ x y = lt x y := by
  unfold ltT
  rw [decide_eq_false (by omega : ¬ τ x < τ y)]; simp
theorem ltT_false {lt : α → α → Bool} {τ : α → Nat} {x y : α} : ltT lt τ x y = false ↔ lt x y = false ∧ (lt y x = true ∨ τ y ≤ τ x) := by
  unfold ltT
  rcases lt x y with _ | _ <;> rcases lt y x with _ | _ <;> simp
theorem swo_ltT {lt : α → α → Bool} (h : SWO lt) (τ : α → Nat) : SWO (ltT lt τ) := by
  have key : ∀ x y z, ltT lt τ x y = false → ltT lt τ y z = false → ltT lt τ x z = false := fun x y z h1 h2 => by
    rw [ltT_false] at h1 h2 ⊢
    refine ⟨h.ntrans _ _ _ h1.1 h2.1, ?_⟩
    by_cases hz : lt z x = true
    · exact .inl hz
    · have hz : lt z x = false := by simpa using hz
      refine .inr ?_
      have a1 : lt y x = false := by
        cases e : lt y x with
        | false => rfl
        | true =>
          have := h.ntrans _ _ _ h2.1 hz
          rw [e] at this; cases this
      have a2 : lt z y = false := by
        cases e : lt z y with
        | false => rfl
        | true =>
          have := h.ntrans _ _ _ hz h1.1
          rw [e] at this; cases this
      have b1 : τ y ≤ τ x := h1.2.resolve_left (by rw [a1]; simp)
      have b2 : τ z ≤ τ y := h2.2.resolve_left (by rw [a2]; simp)
      omega
  have irr : ∀ x, ltT lt τ x x = false := fun x => by rw [ltT_false]; exact ⟨h.irrefl x, .inr (Nat.le_refl _)⟩
  have asym : ∀ x y, ltT lt τ x y = true → ltT lt τ y x = false := fun x y h1 => by
    rw [ltT_false]
    unfold ltT at h1
    simp only [Bool.or_eq_true, Bool.and_eq_true, Bool.not_eq_true', decide_eq_true_eq] at h1
    rcases h1 with h1 | ⟨h1, h2⟩
    · exact ⟨h.asymmA h1, .inl h1⟩
    · exact ⟨h1, .inr (by omega)⟩
  refine ⟨irr, fun x y z h1 h2 => ?_, key⟩
  cases e : ltT lt τ x z with
  | true => rfl
  | false =>
    have := key _ _ _ e (asym _ _ h2)
    rw [h1] at this; cases this
variable {lt : α → α → Bool} {τ : α → Nat}
theorem insInner_tag (a : Nat) : ∀ (j : Nat) (d : Array α), j < d.size → (∀ p, a ≤ p → p < j → τ d[p]! < τ d[j]!) → insInner lt a j d = insInner (ltT lt τ) a j d
  | 0, d, _, _ => rfl
  | j + 1, d, hj, h => by
    unfold insInner
    by_cases ha : j + 1 > a
    · rw [ltT_late (h j (by omega) (by omega))]
      split
      · refine insInner_tag a j _ (by rw [swp_size]; omega) fun p h1 h2 => ?_
        rw [swp_get _ hj (by omega), swp_get _ hj (by omega), if_neg (by omega), if_neg (by omega), if_pos rfl]
        exact h p h1 (by omega)
      · rfl
    · have e1 : decide (j + 1 > a) = false := decide_eq_false ha
      rw [e1]; simp
theorem insOuter_tag (hS : SWO lt) (a b : Nat) : ∀ (n i : Nat) (d : Array α), b - i = n → a < i → i ≤ b → b ≤ d.size → SortedIn (ltT lt τ) a i d → (∀ p q, a ≤ p → p < q → i ≤ q → q < b → τ d[p]! < τ d[q]!) → insOuter lt a b i d = insOuter (ltT lt τ) a b i d
  | 0, i, d, hn, _, hib, _, _, _ => by
    obtain rfl : i = b := by omega
    conv => lhs; rw [insOuter, if_neg (by omega)]
    conv => rhs; rw [insOuter, if_neg (by omega)]
  | n + 1, i, d, hn, hai, hib, hb, hs, ht => by
    have hlt : i < b := by omega
    conv => lhs; rw [insOuter, if_pos hlt]
    conv => rhs; rw [insOuter, if_pos hlt]
    rw [insInner_tag (τ := τ) a i d (by omega) fun p h1 h2 => ht p i h1 h2 (Nat.le_refl _) hlt]
    have h1 := insInner_spec (lt := ltT lt τ) (swo_ltT hS τ) swp_permIn permIn_refl permIn_trans a (i + 1) i (by omega) i d (by omega) (Nat.le_refl _) (by omega) ⟨fun p q hap hpq hqi _ hq => hs p q hap hpq (by omega), fun q h1 h2 => by omega⟩
    refine insOuter_tag hS a b n (i + 1) _ (by omega) (by omega) (by omega) (by rw [h1.1.1]; exact hb) h1.2 fun p q hp hpq hiq hq => ?_
    rw [h1.1.2.1 q (.inr hiq)]
    by_cases hpi : p < i + 1
    · exact permIn_all _ _ a (i + 1) (fun x => τ x < τ d[q]!) (by omega) h1.1 (fun p' h2 h3 => ht p' q h2 (by omega) (by omega) hq) p hp hpi
    · rw [h1.1.2.1 p (.inr (by omega))]; exact ht p q hp hpq (by omega) hq
theorem insertion_tag (hS : SWO lt) {a b : Nat} {d : Array α} (hab : a ≤ b) (hb : b ≤ d.size) (ht : ∀ p q, a ≤ p → p < q → q < b → τ d[p]! < τ d[q]!) : PermIn a b d (insertionSort lt d a b) ∧ SortedIn (ltT lt τ) a b (insertionSort lt d a b) := by
  have e : insertionSort lt d a b = insertionSort (ltT lt τ) d a b := by
    unfold insertionSort
    by_cases h : a = b
    · subst h
      conv => lhs; rw [insOuter, if_neg (by omega)]
      conv => rhs; rw [insOuter, if_neg (by omega)]
    · exact insOuter_tag hS a b (b - (a + 1)) (a + 1) d rfl (by omega) (by omega) hb (fun i j h1 h2 h3 => by omega) fun p q h1 h2 h3 h4 => ht p q h1 h2 h4
  rw [e]
  exact insertionSort_holds (swo_ltT hS τ) d a b hab hb

/-- Blocks of C in order, all that came first ahead. -/
structure Done (lt : α → α → Bool) (τ : α → Nat) (NS C : Nat) (d : Array α) : Prop where
  intro ::
  srt : ∀ t p q, t * C ≤ p → p < q → q < t * C + C → q < NS → ltT lt τ d[q]! d[p]! = false
  tag : ∀ t p q, p < t * C → t * C ≤ q → q < NS → τ d[p]! < τ d[q]!
/-- Blocks of C in order up to a, blocks of F from a on. -/
structure Half (lt : α → α → Bool) (τ : α → Nat) (NS F C a : Nat) (d : Array α) : Prop where
  intro ::
  lo : ∀ t p q, t * C + C ≤ a → t * C ≤ p → p < q → q < t * C + C → ltT lt τ d[q]! d[p]! = false
  hi : ∀ t p q, a ≤ t * F → t * F ≤ p → p < q → q < t * F + F → q < NS → ltT lt τ d[q]! d[p]! = false
  tag : ∀ t p q, p < t * C → t * C ≤ q → q < NS → τ d[p]! < τ d[q]!
  fine : ∀ t p q, a ≤ t * F → p < t * F → t * F ≤ q → q < NS → τ d[p]! < τ d[q]!
theorem Done.half {NS F C c : Nat} {d : Array α} (h : Done lt τ NS F d) (hC : C = c * F) (h0 : 0 < C) : Half lt τ NS F C 0 d := by
  refine ⟨fun t p q h1 => by omega, fun t p q _ h1 h2 h3 h4 => h.srt t p q h1 h2 h3 h4, fun t p q h1 h2 h3 => ?_, fun t p q _ h1 h2 h3 => h.tag t p q h1 h2 h3⟩
  have e : t * C = (t * c) * F := by rw [hC, Nat.mul_assoc]
  rw [e] at h1 h2
  exact h.tag _ p q h1 h2 h3
theorem mul_cut {t s C : Nat} (hC : 0 < C) (h1 : t * C ≤ s * C) (h2 : s * C < t * C + C) : t = s := by
  have a1 : t ≤ s := Nat.le_of_mul_le_mul_right h1 hC
  have a2 : s < t + 1 := by
    have : s * C < (t + 1) * C := by rw [Nat.add_mul]; omega
    exact Nat.lt_of_mul_lt_mul_right this
  omega
theorem mul_side {t s C : Nat} (hC : 0 < C) : t * C ≤ s * C ∨ s * C + C ≤ t * C := by
  rcases Nat.lt_or_ge s t with h | h
  · right
    have : (s + 1) * C ≤ t * C := Nat.mul_le_mul_right _ h
    rw [Nat.add_mul] at this; omega
  · left; exact Nat.mul_le_mul_right _ h
/-- One more block. -/
theorem Half.step {NS F C s : Nat} {d d' : Array α} (hC : 0 < C) (h : Half lt τ NS F C (s * C) d) (hd : d.size = NS) (hb : s * C + C ≤ NS) (hp : PermIn (s * C) (s * C + C) d d') (hs : SortedIn (ltT lt τ) (s * C) (s * C + C) d') : Half lt τ NS F C ((s + 1) * C) d' := by
  have e : (s + 1) * C = s * C + C := by rw [Nat.add_mul]; omega
  rw [e]
  have hsz : s * C + C ≤ d.size := by omega
  refine ⟨fun t p q h1 h2 h3 h4 => ?_, fun t p q h1 h2 h3 h4 h5 => ?_, fun t p q h1 h2 h3 => ?_, fun t p q h1 h2 h3 h4 => ?_⟩
  · by_cases hq : q < s * C
    · rw [hp.2.1 q (.inl hq), hp.2.1 p (.inl (by omega))]
      refine h.lo t p q ?_ h2 h3 h4
      rcases mul_side (t := s) (s := t) hC with h5 | h5
      · omega
      · exact h5
    · have ht : t = s := mul_cut hC (by omega) (by omega)
      subst ht
      exact hs p q h2 h3 h4
  · rw [hp.2.1 q (.inr (by omega)), hp.2.1 p (.inr (by omega))]
    exact h.hi t p q (by omega) h2 h3 h4 h5
  · rcases mul_side (t := t) (s := s) hC with hx | hx
    · rw [hp.2.1 p (.inl (by omega))]
      by_cases hq : s * C ≤ q ∧ q < s * C + C
      · exact permIn_all _ _ _ _ (fun x => τ d[p]! < τ x) hsz hp (fun q' h4 h5 => h.tag t p q' h1 (by omega) (by omega)) q hq.1 hq.2
      · rw [hp.2.1 q (by omega)]; exact h.tag t p q h1 h2 h3
    · rw [hp.2.1 q (.inr (by omega))]
      by_cases hq : s * C ≤ p ∧ p < s * C + C
      · exact permIn_all _ _ _ _ (fun x => τ x < τ d[q]!) hsz hp (fun p' h4 h5 => h.tag t p' q (by omega) h2 h3) p hq.1 hq.2
      · rw [hp.2.1 p (by omega)]; exact h.tag t p q h1 h2 h3
  · rw [hp.2.1 q (.inr (by omega))]
    by_cases hq : s * C ≤ p ∧ p < s * C + C
    · exact permIn_all _ _ _ _ (fun x => τ x < τ d[q]!) hsz hp (fun p' h5 h6 => h.fine t p' q (by omega) (by omega) h3 h4) p hq.1 hq.2
    · rw [hp.2.1 p (by omega)]; exact h.fine t p q (by omega) h2 h3 h4
/-- The last block, which may be shorter. -/
theorem Half.last {NS F C s : Nat} {d d' : Array α} (hC : 0 < C) (h : Half lt τ NS F C (s * C) d) (hd : d.size = NS) (ha : s * C ≤ NS) (hb : NS ≤ s * C + C) (hp : PermIn (s * C) NS d d') (hs : SortedIn (ltT lt τ) (s * C) NS d') : Done lt τ NS C d' := by
  refine ⟨fun t p q h1 h2 h3 h4 => ?_, fun t p q h1 h2 h3 => ?_⟩
  · by_cases hq : q < s * C
    · rw [hp.2.1 q (.inl hq), hp.2.1 p (.inl (by omega))]
      refine h.lo t p q ?_ h1 h2 h3
      rcases mul_side (t := s) (s := t) hC with h5 | h5
      · omega
      · exact h5
    · have ht : t = s := by
        rcases mul_side (t := t) (s := s) hC with h5 | h5
        · exact mul_cut hC h5 (by omega)
        · omega
      subst ht
      exact hs p q h1 h2 h4
  · rcases mul_side (t := t) (s := s) hC with hx | hx
    · rw [hp.2.1 p (.inl (by omega))]
      by_cases hq : s * C ≤ q
      · exact permIn_all _ _ _ _ (fun x => τ d[p]! < τ x) (by omega) hp (fun q' h4 h5 => h.tag t p q' h1 (by omega) (by omega)) q hq h3
      · rw [hp.2.1 q (.inl (by omega))]; exact h.tag t p q h1 h2 h3
    · omega
theorem Done.one {NS : Nat} {d : Array α} (h : ∀ p q, p < q → q < NS → τ d[p]! < τ d[q]!) : Done lt τ NS 1 d :=
  ⟨fun t p q h1 h2 h3 => by omega, fun t p q h1 h2 h3 => h p q (by omega) h3⟩
theorem Done.all {NS C : Nat} {d : Array α} (h : Done lt τ NS C d) (hC : NS ≤ C) : SortedIn (ltT lt τ) 0 NS d := fun p q h1 h2 h3 => h.srt 0 p q (by omega) h2 (by omega) h3
end
end Go.Proofs.Ytljbebeaahcjaaa
