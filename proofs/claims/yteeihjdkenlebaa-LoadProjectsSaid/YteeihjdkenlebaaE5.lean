/- loads in numbers: what comes of any that are added. -/
import Derived.Test.YteeihjdkenlebaaE1
namespace Go.Proofs.Yteeihjdkenlebaa
open Go.RowKit Go.Maps
set_option linter.unusedVariables false
set_option linter.unusedSimpArgs false

/-- api.Load. -/
structure Lo where
  intro ::
  i : Int
  n : Int
def Lo.zero : Lo := ⟨0, 0⟩
/-- All of an interface. -/
def totI (i : Int) : List Lo → Int
  | [] => 0
  | x :: t => (if x.i = i then near x.n else 0) + totI i t
theorem totI_nn (i : Int) (X : List Lo) : 0 ≤ totI i X := by
  induction X with
  | nil => exact Int.le_refl _
  | cons x t ih => have := near_lo x.n; simp only [totI]; split <;> omega
theorem totI_snoc (i : Int) (X : List Lo) (x : Lo) : totI i (X ++ [x]) = totI i X + if x.i = i then near x.n else 0 := by
  induction X with
  | nil => simp [totI]
  | cons y t ih => simp only [List.cons_append, totI, ih]; omega
theorem totI_perm (i : Int) {X Y : List Lo} (h : X.Perm Y) : totI i X = totI i Y := by
  induction h with
  | nil => rfl
  | cons x _ ih => simp only [totI, ih]
  | swap x y l => simp only [totI]; omega
  | trans _ _ ih ih2 => exact ih.trans ih2
def ldF (X : List Lo) : Int → Option Int := fun i => if i < 0 then none else if near (totI i X) = 0 then none else some (near (totI i X))
def ldO (X : List Lo) : Bool := X.any fun x => near x.n == 9007199254740991 || (decide (0 ≤ x.i) && (near (totI x.i X) == 9007199254740991))
theorem ldF_perm {X Y : List Lo} (h : X.Perm Y) : ldF X = ldF Y := by
  funext i
  unfold ldF
  rw [totI_perm i h]
theorem ldO_iff (X : List Lo) : ldO X = true ↔ ∃ x ∈ X, near x.n = 9007199254740991 ∨ (0 ≤ x.i ∧ near (totI x.i X) = 9007199254740991) := by
  unfold ldO
  simp [List.any_eq_true]
theorem ldO_perm {X Y : List Lo} (h : X.Perm Y) : ldO X = ldO Y := by
  rw [Bool.eq_iff_iff, ldO_iff, ldO_iff]
  constructor
  · rintro ⟨x, hx, h2⟩
    exact ⟨x, h.mem_iff.1 hx, by rw [← totI_perm x.i h]; exact h2⟩
  · rintro ⟨x, hx, h2⟩
    exact ⟨x, h.mem_iff.2 hx, by rw [totI_perm x.i h]; exact h2⟩
theorem ldF_at (X : List Lo) {i : Int} (hi : 0 ≤ i) : (ldF X i).getD 0 = near (totI i X) := by
  unfold ldF
  rw [if_neg (by omega)]
  by_cases h : near (totI i X) = 0
  · rw [if_pos h, h]; rfl
  · rw [if_neg h]; rfl
theorem near_add {a b : Int} (ha : 0 ≤ a) : near (near a) + near b ≤ near (near a) + near b := Int.le_refl _
theorem add_of {a n : Int} (ha : 0 ≤ a) : add (near a) n = near (a + near n) := by
  have h1 := near_lo n
  have h2 := near_hi n
  unfold add
  generalize near n = m at *
  unfold near
  repeat' split
  all_goals omega
theorem ld_step (X : List Lo) (x : Lo) (hx : 0 ≤ x.i) : setL (ldF X) x.i (add ((ldF X x.i).getD 0) x.n) = ldF (X ++ [x]) := by
  rw [ldF_at X hx, add_of (totI_nn _ _)]
  funext j
  unfold setL ldF
  rw [totI_snoc]
  by_cases e : j = x.i
  · subst e
    rw [if_pos rfl, if_neg (show ¬ x.i < 0 by omega)]
    by_cases h0 : near (totI x.i X + near x.n) = 0
    · rw [if_pos h0, if_pos h0]; unfold delF; rw [if_pos rfl]
    · rw [if_neg h0, if_neg h0]; unfold putF; rw [if_pos rfl]
  · rw [if_neg (show ¬ x.i = j from fun h => e h.symm), Int.add_zero]
    split
    · unfold delF; rw [if_neg e]
    · unfold putF; rw [if_neg e]
theorem ld_below (X : List Lo) (x : Lo) (hx : x.i < 0) : ldF (X ++ [x]) = ldF X := by
  funext j
  unfold ldF
  by_cases hj : j < 0
  · rw [if_pos hj, if_pos hj]
  · rw [if_neg hj, if_neg hj, totI_snoc, if_neg (show ¬ x.i = j by omega), Int.add_zero]
theorem ld_over (X : List Lo) (x : Lo) : (ldO X || (near x.n == 9007199254740991) || (decide (0 ≤ x.i) && (add ((ldF X x.i).getD 0) x.n == 9007199254740991))) = ldO (X ++ [x]) := by
  rw [Bool.eq_iff_iff]
  simp only [Bool.or_eq_true, Bool.and_eq_true, decide_eq_true_eq, beq_iff_eq]
  rw [ldO_iff, ldO_iff]
  constructor
  · rintro ((⟨y, hy, h⟩ | h) | ⟨h0, h⟩)
    · refine ⟨y, List.mem_append_left _ hy, h.imp id fun ⟨h0, h1⟩ => ⟨h0, ?_⟩⟩
      rw [totI_snoc]
      have hn := near_lo x.n
      have ht := totI_nn y.i X
      revert h1
      unfold near at *
      repeat' split
      all_goals omega
    · exact ⟨x, List.mem_append_right _ List.mem_cons_self, .inl h⟩
    · refine ⟨x, List.mem_append_right _ List.mem_cons_self, .inr ⟨h0, ?_⟩⟩
      rw [ldF_at X h0, add_of (totI_nn _ _)] at h
      rw [totI_snoc, if_pos rfl]
      exact h
  · rintro ⟨y, hy, h⟩
    rcases List.mem_append.1 hy with hy | hy
    · rcases h with h | ⟨h0, h1⟩
      · exact .inl (.inl ⟨y, hy, .inl h⟩)
      · rw [totI_snoc] at h1
        by_cases e : x.i = y.i
        · rw [if_pos e] at h1
          right
          rw [e, ldF_at X h0, add_of (totI_nn _ _)]
          exact ⟨h0, h1⟩
        · rw [if_neg e, Int.add_zero] at h1
          exact .inl (.inl ⟨y, hy, .inr ⟨h0, h1⟩⟩)
    · rw [List.mem_singleton] at hy
      subst hy
      rcases h with h | ⟨h0, h1⟩
      · exact .inl (.inr h)
      · right
        rw [ldF_at X h0, add_of (totI_nn _ _)]
        rw [totI_snoc, if_pos rfl] at h1
        exact ⟨h0, h1⟩
/-- In order of interfaces, each once. -/
structure AllL (f : Int → Option Int) (l : List Lo) : Prop where
  intro ::
  srt : l.Pairwise (fun x y : Lo => x.i < y.i)
  mem : ∀ i v, (⟨i, v⟩ : Lo) ∈ l ↔ f i = some v
theorem allL_unique : ∀ {l m : List Lo} {f : Int → Option Int}, AllL f l → AllL f m → l = m := by
  intro l
  induction l with
  | nil =>
    intro m f h k
    cases m with
    | nil => rfl
    | cons y t =>
      have := (h.mem y.i y.n).2 ((k.mem y.i y.n).1 List.mem_cons_self)
      cases this
  | cons x t ih =>
    intro m f h k
    cases m with
    | nil =>
      have := (k.mem x.i x.n).2 ((h.mem x.i x.n).1 List.mem_cons_self)
      cases this
    | cons y u =>
      have h1 := List.pairwise_cons.1 h.srt
      have k1 := List.pairwise_cons.1 k.srt
      have hxy : x = y := by
        have hx : x ∈ y :: u := (k.mem x.i x.n).2 ((h.mem x.i x.n).1 List.mem_cons_self)
        have hy : y ∈ x :: t := (h.mem y.i y.n).2 ((k.mem y.i y.n).1 List.mem_cons_self)
        rcases List.mem_cons.1 hx with e | hx
        · exact e
        · rcases List.mem_cons.1 hy with e | hy
          · exact e.symm
          · have a := k1.1 x hx
            have b := h1.1 y hy
            omega
      subst hxy
      congr 1
      refine ih (f := fun i => if i = x.i then none else f i) ⟨h1.2, fun i v => ?_⟩ ⟨k1.2, fun i v => ?_⟩
      · by_cases e : i = x.i
        · subst e
          rw [if_pos rfl]
          constructor
          · intro hm; have := h1.1 _ hm; simp at this
          · intro hm; cases hm
        · rw [if_neg e, ← h.mem i v, List.mem_cons]
          constructor
          · exact .inr
          · rintro (e2 | e2)
            · subst e2; exact absurd rfl e
            · exact e2
      · by_cases e : i = x.i
        · subst e
          rw [if_pos rfl]
          constructor
          · intro hm; have := k1.1 _ hm; simp at this
          · intro hm; cases hm
        · rw [if_neg e, ← k.mem i v, List.mem_cons]
          constructor
          · exact .inr
          · rintro (e2 | e2)
            · subst e2; exact absurd rfl e
            · exact e2
theorem rot_perm (X : List Lo) (n : Nat) : X.Perm (X.drop n ++ X.take n) := by
  have h : (X.take n ++ X.drop n).Perm (X.drop n ++ X.take n) := List.perm_append_comm
  rwa [List.take_append_drop] at h
theorem rot_get (X : List Lo) (n i : Nat) (hn : n ≤ X.length) (hi : i < X.length) : (X.drop n ++ X.take n)[i]? = X[(i + n) % X.length]? := by
  by_cases h : i < X.length - n
  · rw [List.getElem?_append_left (by rw [List.length_drop]; exact h), List.getElem?_drop, Nat.mod_eq_of_lt (by omega), Nat.add_comm]
  · rw [List.getElem?_append_right (by rw [List.length_drop]; omega), List.length_drop, List.getElem?_take_of_lt (by omega)]
    have e : (i + n) % X.length = i - (X.length - n) := by
      rw [Nat.mod_eq_sub_mod (by omega), Nat.mod_eq_of_lt (by omega)]
      omega
    rw [e]
end Go.Proofs.Yteeihjdkenlebaa
