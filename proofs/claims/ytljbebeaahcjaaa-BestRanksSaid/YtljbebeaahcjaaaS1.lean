/- Stable sorting: merging in place, without memory. -/
import Derived.Sort.LotA
namespace Go.Proofs.Ytljbebeaahcjaaa
open Go.Sort
set_option linter.unusedVariables false
set_option linter.unusedSimpArgs false

section
variable {α : Type} [Inhabited α]
/-- So many places from a on changed with those from b on. -/
def swr (a b : Nat) : Nat → Array α → Array α
  | 0, d => d
  | n + 1, d => swp (swr a b n d) (a + n) (b + n)
theorem swr_size (a b : Nat) : ∀ (n : Nat) (d : Array α), (swr a b n d).size = d.size
  | 0, d => rfl
  | n + 1, d => by rw [swr, swp_size, swr_size a b n d]
theorem swr_perm (A B a b : Nat) : ∀ (n : Nat) (d : Array α), A ≤ a → A ≤ b → a + n ≤ B → b + n ≤ B → B ≤ d.size → PermIn A B d (swr a b n d)
  | 0, d, _, _, _, _, _ => permIn_refl _ _ _
  | n + 1, d, h1, h2, h3, h4, h5 => permIn_trans _ _ _ _ _ (swr_perm A B a b n d h1 h2 (by omega) (by omega) h5) (swp_permIn _ A B (a + n) (b + n) (by omega) (by omega) (by omega) (by omega) (by rw [swr_size]; exact h5))
/-- Where what lies at a place comes from. -/
def swF (a b n x : Nat) : Nat := if a ≤ x ∧ x < a + n then x - a + b else if b ≤ x ∧ x < b + n then x - b + a else x
theorem swr_get (a b : Nat) : ∀ (n : Nat) (d : Array α), a + n ≤ b → b + n ≤ d.size → ∀ x, (swr a b n d)[x]! = d[swF a b n x]!
  | 0, d, _, _, x => by unfold swF; rw [if_neg (by omega), if_neg (by omega)]; rfl
  | n + 1, d, h1, h2, x => by
    have ih := swr_get a b n d (by omega) (by omega)
    rw [swr, swp_get _ (by rw [swr_size]; omega) (by rw [swr_size]; omega)]
    by_cases hx : x = b + n
    · subst hx
      rw [if_pos rfl, ih]
      congr 1
      unfold swF
      rw [if_neg (by omega), if_neg (by omega), if_neg (by omega), if_pos (by omega)]; omega
    · rw [if_neg hx]
      by_cases hy : x = a + n
      · subst hy
        rw [if_pos rfl, ih]
        congr 1
        unfold swF
        rw [if_neg (by omega), if_neg (by omega), if_pos (by omega)]; omega
      · rw [if_neg hy, ih]
        congr 1
        unfold swF
        by_cases c1 : a ≤ x ∧ x < a + n
        · rw [if_pos c1, if_pos (by omega)]
        · rw [if_neg c1]
          by_cases c2 : b ≤ x ∧ x < b + n
          · rw [if_pos c2, if_neg (by omega), if_pos (by omega)]
          · rw [if_neg c2, if_neg (by omega), if_neg (by omega)]
/-- Turned round m: where what lies at a place comes from. -/
def rotF (a m b x : Nat) : Nat := if a ≤ x ∧ x < b then (if x < a + (b - m) then x + (m - a) else x - (b - m)) else x
theorem rotF_out {a m b x : Nat} (h : x < a ∨ b ≤ x) : rotF a m b x = x := by unfold rotF; rw [if_neg (by omega)]
theorem rotF_lo {a m b x : Nat} (h0 : a ≤ x) (h : x < a + (b - m)) (hm : m ≤ b) (ha : a ≤ m) : rotF a m b x = x + (m - a) := by unfold rotF; rw [if_pos (by omega), if_pos h]
theorem rotF_hi {a m b x : Nat} (h0 : a + (b - m) ≤ x) (h : x < b) (hm : m ≤ b) (ha : a ≤ m) : rotF a m b x = x - (b - m) := by unfold rotF; rw [if_pos (by omega), if_neg (by omega)]
theorem rotF_id {a m b : Nat} (h : a = m ∨ m = b) (x : Nat) : rotF a m b x = x := by
  unfold rotF
  split
  · split <;> omega
  · rfl
theorem rotF_eq {m i x : Nat} (hi : i ≤ m) : swF (m - i) m i x = rotF (m - i) m (m + i) x := by
  unfold swF rotF
  split
  · rw [if_pos (by omega), if_pos (by omega)]; omega
  · split
    · rw [if_pos (by omega), if_neg (by omega)]; omega
    · rw [if_neg (by omega)]
/-- One round of turning: the left part is the longer one. -/
theorem rot_left {m i j x : Nat} (hi : i ≤ m) (hj : j < i) : swF (m - i) m j (rotF (m - (i - j)) m (m + j) x) = rotF (m - i) m (m + j) x := by
  unfold rotF swF
  repeat' split
  all_goals omega
/-- One round of turning: the right part is the longer one. -/
theorem rot_right {m i j x : Nat} (hi : i ≤ m) (hj : i < j) : swF (m - i) (m + j - i) i (rotF (m - i) m (m + (j - i)) x) = rotF (m - i) m (m + j) x := by
  unfold rotF swF
  repeat' split
  all_goals omega

/-- d' is d turned round m. -/
structure Rot (a m b : Nat) (d d' : Array α) : Prop where
  intro ::
  get : ∀ x, d'[x]! = d[rotF a m b x]!
  perm : PermIn a b d d'
theorem Rot.none {a m b : Nat} (d : Array α) (h : a = m ∨ m = b) : Rot a m b d d := ⟨fun x => by rw [rotF_id h], permIn_refl _ _ _⟩
theorem Rot.size {a m b : Nat} {d d' : Array α} (h : Rot a m b d d') : d'.size = d.size := h.perm.1
/-- The first one moved behind the others, one place at a time. -/
theorem Rot.up {a k : Nat} {d d' : Array α} (hak : a ≤ k) (h : Rot a (a + 1) (k + 1) d d') (hk : k + 1 < d.size) : Rot a (a + 1) (k + 2) d (swp d' k (k + 1)) := by
  refine ⟨fun x => ?_, permIn_trans _ _ _ _ _ (permIn_mono _ _ a (k + 1) a (k + 2) (Nat.le_refl _) (by omega) (by omega) h.perm) (swp_permIn _ a (k + 2) k (k + 1) hak (by omega) (by omega) (by omega) (by rw [h.size]; omega))⟩
  rw [swp_get _ (by rw [h.size]; omega) (by rw [h.size]; omega)]
  by_cases h1 : x = k + 1
  · subst h1
    rw [if_pos rfl, h.get]
    congr 1
    unfold rotF
    by_cases h2 : a ≤ k ∧ k < k + 1
    · rw [if_pos h2, if_neg (by omega), if_pos (by omega), if_neg (by omega)]; omega
    · omega
  · rw [if_neg h1]
    by_cases h2 : x = k
    · subst h2
      rw [if_pos rfl, h.get]
      congr 1
      unfold rotF
      rw [if_neg (by omega), if_pos (by omega), if_pos (by omega)]; omega
    · rw [if_neg h2, h.get]
      congr 1
      unfold rotF
      by_cases h3 : a ≤ x ∧ x < k + 1
      · rw [if_pos h3, if_pos (by omega), if_pos (by omega), if_pos (by omega)]
      · rw [if_neg h3, if_neg (by omega)]
/-- The last one moved ahead of the others, one place at a time. -/
theorem Rot.down {k m : Nat} {d d' : Array α} (hk : k < m) (h : Rot (k + 1) m (m + 1) d d') (hm : m < d.size) : Rot k m (m + 1) d (swp d' (k + 1) k) := by
  refine ⟨fun x => ?_, permIn_trans _ _ _ _ _ (permIn_mono _ _ (k + 1) (m + 1) k (m + 1) (by omega) (Nat.le_refl _) (by omega) h.perm) (swp_permIn _ k (m + 1) (k + 1) k (by omega) (by omega) (by omega) (by omega) (by rw [h.size]; omega))⟩
  rw [swp_get _ (by rw [h.size]; omega) (by rw [h.size]; omega)]
  by_cases h1 : x = k
  · subst h1
    rw [if_pos rfl, h.get]
    congr 1
    unfold rotF
    rw [if_pos (by omega), if_pos (by omega), if_pos (by omega), if_pos (by omega)]; omega
  · rw [if_neg h1]
    by_cases h2 : x = k + 1
    · subst h2
      rw [if_pos rfl, h.get]
      congr 1
      unfold rotF
      rw [if_neg (by omega), if_pos (by omega), if_neg (by omega)]; omega
    · rw [if_neg h2, h.get]
      congr 1
      unfold rotF
      by_cases h3 : k + 1 ≤ x ∧ x < m + 1
      · rw [if_pos h3, if_neg (by omega), if_pos (by omega), if_neg (by omega)]
      · rw [if_neg h3, if_neg (by omega)]

variable {lt : α → α → Bool}
/-- Of all of a part none is ahead of one of another part. -/
def Cross (lt : α → α → Bool) (a m b : Nat) (d : Array α) : Prop := ∀ i j, a ≤ i → i < m → m ≤ j → j < b → lt d[j]! d[i]! = false
theorem sorted_join {a m b : Nat} {d : Array α} (h1 : SortedIn lt a m d) (h2 : SortedIn lt m b d) (h : Cross lt a m b d) : SortedIn lt a b d := fun i j hi hij hj => by
  by_cases hm : j < m
  · exact h1 i j hi hij hm
  · by_cases hm' : i < m
    · exact h i j hi hm' (by omega) hj
    · exact h2 i j (by omega) hij hj
theorem sorted_part {a b a' b' : Nat} {d : Array α} (h : SortedIn lt a b d) (ha : a ≤ a') (hb : b' ≤ b) : SortedIn lt a' b' d := fun i j hi hij hj => h i j (by omega) hij (by omega)
theorem sorted_same {a b : Nat} {d d' : Array α} (h : SortedIn lt a b d) (he : ∀ x, a ≤ x → x < b → d'[x]! = d[x]!) : SortedIn lt a b d' := fun i j hi hij hj => by rw [he i hi (by omega), he j (by omega) hj]; exact h i j hi hij hj
/-- Parts that are put in order by themselves. -/
theorem Cross.perm {a m b : Nat} {d d' d'' : Array α} (h : Cross lt a m b d) (ham : a ≤ m) (hmb : m ≤ b) (hb : b ≤ d.size) (h1 : PermIn a m d d') (h2 : PermIn m b d' d'') : Cross lt a m b d'' := by
  have s1 : b ≤ d'.size := by rw [h1.1]; exact hb
  have hA : ∀ j, m ≤ j → j < b → ∀ i, a ≤ i → i < m → lt d'[j]! d'[i]! = false := fun j hj hjb =>
    permIn_all d d' a m (fun x => lt d'[j]! x = false) (by omega) h1 fun i hi him => by rw [h1.2.1 j (.inr hj)]; exact h i j hi him hj hjb
  intro i j hi him hj hjb
  have := permIn_all d' d'' m b (fun x => lt x d''[i]! = false) s1 h2 (fun y hy hyb => by rw [h2.2.1 i (.inl him)]; exact hA y hy hyb i hi him) j hj hjb
  exact this

/-- Where the parts are cut: none of the first ones of both is behind one of the others. -/
structure CutAt (lt : α → α → Bool) (a m b s e : Nat) (d : Array α) : Prop where
  intro ::
  as : a ≤ s
  sm : s ≤ m
  me : m ≤ e
  eb : e ≤ b
  lo : ∀ i j, a ≤ i → i < s → e ≤ j → j < b → lt d[j]! d[i]! = false
  hi : ∀ i j, m ≤ i → i < e → s ≤ j → j < m → lt d[j]! d[i]! = false
theorem CutAt.cross {a m b s e : Nat} {d d1 : Array α} (h : CutAt lt a m b s e d) (hL : SortedIn lt a m d) (hR : SortedIn lt m b d) (hr : Rot s m e d d1) : Cross lt a (s + (e - m)) b d1 ∧ SortedIn lt a s d1 ∧ SortedIn lt s (s + (e - m)) d1 ∧ SortedIn lt (s + (e - m)) e d1 ∧ SortedIn lt e b d1 := by
  have g1 : ∀ x, x < s ∨ e ≤ x → d1[x]! = d[x]! := fun x hx => by rw [hr.get, rotF_out hx]
  have g2 : ∀ x, s ≤ x → x < s + (e - m) → d1[x]! = d[x + (m - s)]! := fun x h1 h2 => by rw [hr.get, rotF_lo h1 h2 h.me h.sm]
  have g3 : ∀ x, s + (e - m) ≤ x → x < e → d1[x]! = d[x - (e - m)]! := fun x h1 h2 => by rw [hr.get, rotF_hi h1 h2 h.me h.sm]
  have has := h.as; have hsm := h.sm; have hme := h.me; have heb := h.eb
  refine ⟨fun i j hi him hj hjb => ?_, sorted_same (sorted_part hL (Nat.le_refl _) hsm) fun x h1 h2 => g1 x (.inl h2), fun i j hi hij hj => ?_, fun i j hi hij hj => ?_, sorted_same (sorted_part hR hme (Nat.le_refl _)) fun x h1 h2 => g1 x (.inr h1)⟩
  · by_cases hs : i < s
    · rw [g1 i (.inl hs)]
      by_cases he : j < e
      · rw [g3 j hj he]; exact hL i _ hi (by omega) (by omega)
      · rw [g1 j (.inr (by omega))]; exact h.lo i j hi hs (by omega) hjb
    · rw [g2 i (by omega) him]
      by_cases he : j < e
      · rw [g3 j hj he]; exact h.hi _ _ (by omega) (by omega) (by omega) (by omega)
      · rw [g1 j (.inr (by omega))]; exact hR _ _ (by omega) (by omega) hjb
  · rw [g2 i hi (by omega), g2 j (by omega) hj]; exact hR _ _ (by omega) (by omega) (by omega)
  · rw [g3 i hi (by omega), g3 j (by omega) hj]; exact hL _ _ (by omega) (by omega) (by omega)
omit [Inhabited α] in
theorem lt_flip (hS : SWO lt) {x y : α} (h : lt x y = true) : lt y x = false := hS.asymmA h
/-- What the search between s0 and r0 finds. -/
theorem CutAt.found (hS : SWO lt) {a m b mid s : Nat} {d : Array α} (hL : SortedIn lt a m d) (hR : SortedIn lt m b d) (has : a ≤ s) (hsm : s ≤ m) (hsd : s ≤ mid) (heb : mid + m - s ≤ b)
    (h1 : s = a ∨ mid + m - s = b ∨ lt d[mid + m - s]! d[s - 1]! = false) (h2 : s = m ∨ s = mid ∨ lt d[mid + m - 1 - s]! d[s]! = true) : CutAt lt a m b s (mid + m - s) d := by
  refine ⟨has, hsm, by omega, heb, fun i j hi hs he hj => ?_, fun i j hi he hs hj => ?_⟩
  · rcases h1 with h1 | h1 | h1
    · omega
    · omega
    · have c1 : lt d[j]! d[mid + m - s]! = false := by
        by_cases hjj : j = mid + m - s
        · rw [hjj]; exact hS.irrefl _
        · exact hR _ _ (by omega) (by omega) hj
      have c2 : lt d[s - 1]! d[i]! = false := by
        by_cases hii : i = s - 1
        · rw [hii]; exact hS.irrefl _
        · exact hL _ _ hi (by omega) (by omega)
      exact hS.ntrans _ _ _ c1 (hS.ntrans _ _ _ h1 c2)
  · rcases h2 with h2 | h2 | h2
    · omega
    · omega
    · have c0 := lt_flip hS h2
      have c1 : lt d[j]! d[s]! = false := by
        by_cases hjj : j = s
        · rw [hjj]; exact hS.irrefl _
        · exact hL _ _ has (by omega) hj
      have c2 : lt d[mid + m - 1 - s]! d[i]! = false := by
        by_cases hii : i = mid + m - 1 - s
        · rw [hii]; exact hS.irrefl _
        · exact hR _ _ hi (by omega) (by omega)
      exact hS.ntrans _ _ _ c1 (hS.ntrans _ _ _ c0 c2)
/-- One that is put behind those that it is behind. -/
theorem sorted_up (hS : SWO lt) {a b i : Nat} {d d' : Array α} (hR : SortedIn lt (a + 1) b d) (h1 : a + 1 ≤ i) (hib : i ≤ b) (lo : ∀ x, a + 1 ≤ x → x < i → lt d[x]! d[a]! = true) (hi : ∀ x, i ≤ x → x < b → lt d[x]! d[a]! = false) (hr : Rot a (a + 1) i d d') : SortedIn lt a b d' := by
  have g1 : ∀ x, a ≤ x → x < i - 1 → d'[x]! = d[x + 1]! := fun x h2 h3 => by rw [hr.get, rotF_lo h2 (by omega) h1 (by omega)]; congr 1; omega
  have g2 : d'[i - 1]! = d[a]! := by rw [hr.get, rotF_hi (by omega) (by omega) h1 (by omega)]; congr 1; omega
  have g3 : ∀ x, i ≤ x → d'[x]! = d[x]! := fun x h2 => by rw [hr.get, rotF_out (.inr h2)]
  intro p q hp hpq hq
  by_cases q1 : q < i - 1
  · rw [g1 q (by omega) q1, g1 p hp (by omega)]; exact hR _ _ (by omega) (by omega) (by omega)
  · by_cases q2 : q = i - 1
    · subst q2
      rw [g2, g1 p hp hpq]
      exact lt_flip hS (lo _ (by omega) (by omega))
    · rw [g3 q (by omega)]
      by_cases p1 : p < i - 1
      · rw [g1 p hp p1]; exact hR _ _ (by omega) (by omega) hq
      · by_cases p2 : p = i - 1
        · subst p2; rw [g2]; exact hi q (by omega) hq
        · rw [g3 p (by omega)]; exact hR _ _ (by omega) hpq hq
/-- One that is put ahead of those that are behind it. -/
theorem sorted_down (hS : SWO lt) {a m i : Nat} {d d' : Array α} (hL : SortedIn lt a m d) (hai : a ≤ i) (him : i ≤ m) (lo : ∀ x, a ≤ x → x < i → lt d[m]! d[x]! = false) (hi : ∀ x, i ≤ x → x < m → lt d[m]! d[x]! = true) (hr : Rot i m (m + 1) d d') : SortedIn lt a (m + 1) d' := by
  have g1 : ∀ x, x < i → d'[x]! = d[x]! := fun x h2 => by rw [hr.get, rotF_out (.inl h2)]
  have g2 : d'[i]! = d[m]! := by rw [hr.get, rotF_lo (Nat.le_refl _) (by omega) (by omega) him]; congr 1; omega
  have g3 : ∀ x, i < x → x ≤ m → d'[x]! = d[x - 1]! := fun x h2 h3 => by rw [hr.get, rotF_hi (by omega) (by omega) (by omega) him]; congr 1; omega
  intro p q hp hpq hq
  by_cases q1 : q < i
  · rw [g1 q q1, g1 p (by omega)]; exact hL _ _ hp hpq (by omega)
  · by_cases q2 : q = i
    · subst q2
      rw [g2, g1 p hpq]
      exact lo _ hp hpq
    · rw [g3 q (by omega) (by omega)]
      by_cases p1 : p < i
      · rw [g1 p p1]; exact hL _ _ hp (by omega) (by omega)
      · by_cases p2 : p = i
        · subst p2; rw [g2]; exact lt_flip hS (hi _ (by omega) (by omega))
        · rw [g3 p (by omega) (by omega)]; exact hL _ _ (by omega) (by omega) (by omega)
omit [Inhabited α] in
/-- Below one that is less all are less. -/
theorem lt_before (hS : SWO lt) {x y z : α} (h : lt y z = true) (hx : lt y x = false) : lt x z = true := by
  cases e : lt x z with
  | true => rfl
  | false => rw [hS.ntrans _ _ _ hx e] at h; cases h
omit [Inhabited α] in
theorem lt_behind (hS : SWO lt) {x y z : α} (h : lt z y = true) (hx : lt x y = false) : lt z x = true := by
  cases e : lt z x with
  | true => rfl
  | false => rw [hS.ntrans _ _ _ e hx] at h; cases h
end
end Go.Proofs.Ytljbebeaahcjaaa
