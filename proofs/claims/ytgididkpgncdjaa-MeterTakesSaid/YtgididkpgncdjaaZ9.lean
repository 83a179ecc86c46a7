/- meter in numbers: sums of rates, demands. -/
import Derived.Test.YtgididkpgncdjaaZ8
import Derived.Test.YtgididkpgncdjaaZ7
namespace Go.Proofs.Ytgididkpgncdjaa
open Go.RowKit Go.Maps
set_option linter.unusedVariables false
set_option linter.unusedSimpArgs false

theorem add_near {a b : Int} (ha : 0 ≤ a) (hb : 0 ≤ b) : add (near a) b = near (a + b) := by
  unfold add near
  repeat' split
  all_goals omega
/-- All together; those of a prefix. -/
def tot : List Ct → Int
  | [] => 0
  | x :: t => x.c + tot t
def totP (p : Pf) : List Ct → Int
  | [] => 0
  | x :: t => (if x.p = p then x.c else 0) + totP p t
theorem tot_append (l m : List Ct) : tot (l ++ m) = tot l + tot m := by
  induction l with
  | nil => simp [tot]
  | cons x t ih => simp only [List.cons_append, tot, ih]; omega
theorem totP_append (p : Pf) (l m : List Ct) : totP p (l ++ m) = totP p l + totP p m := by
  induction l with
  | nil => simp [totP]
  | cons x t ih => simp only [List.cons_append, totP, ih]; omega
theorem tot_perm {l m : List Ct} (h : l.Perm m) : tot l = tot m := by
  induction h with
  | nil => rfl
  | cons x _ ih => simp only [tot, ih]
  | swap x y l => simp only [tot]; omega
  | trans _ _ ih ih2 => exact ih.trans ih2
theorem totP_perm (p : Pf) {l m : List Ct} (h : l.Perm m) : totP p l = totP p m := by
  induction h with
  | nil => rfl
  | cons x _ ih => simp only [totP, ih]
  | swap x y l => simp only [totP]; omega
  | trans _ _ ih ih2 => exact ih.trans ih2
theorem tot_nn {l : List Ct} (h : ∀ x ∈ l, 0 ≤ x.c) : 0 ≤ tot l := by
  induction l with
  | nil => exact Int.le_refl _
  | cons x t ih =>
    have h1 := h x List.mem_cons_self
    have h2 := ih fun y hy => h y (List.mem_cons_of_mem _ hy)
    simp only [tot]; omega
theorem totP_nn (p : Pf) {l : List Ct} (h : ∀ x ∈ l, 0 ≤ x.c) : 0 ≤ totP p l := by
  induction l with
  | nil => exact Int.le_refl _
  | cons x t ih =>
    have h1 := h x List.mem_cons_self
    have h2 := ih fun y hy => h y (List.mem_cons_of_mem _ hy)
    simp only [totP]; split <;> omega
theorem totP_no (p : Pf) {l : List Ct} (h : l.any (fun x => x.p == p) = false) : totP p l = 0 := by
  induction l with
  | nil => rfl
  | cons x t ih =>
    rw [List.any_cons, Bool.or_eq_false_iff] at h
    simp only [totP, ih h.2]
    rw [if_neg (by simpa using h.1)]; rfl
/-- What a source's rate of a prefix is. -/
def rateAt (v : Mv) (p : Pf) : Int := (fillT v.R p).getD 0
theorem totP_uniq {L : List Ct} (hu : Uniq L) (p : Pf) : totP p L = (fillT L p).getD 0 := by
  by_cases h : L.any (fun x => x.p == p) = true
  · obtain ⟨x, hx, hp⟩ := List.any_eq_true.1 h
    have hp : x.p = p := by simpa using hp
    subst hp
    rw [fillT_mem hu hx]
    show _ = x.c
    unfold Uniq at hu
    induction L with
    | nil => cases hx
    | cons y t ih =>
      rw [List.map_cons, List.nodup_cons] at hu
      simp only [totP]
      rcases List.mem_cons.1 hx with rfl | hm
      · rw [if_pos rfl, totP_no x.p (by
          rw [Bool.eq_false_iff]
          intro ha
          obtain ⟨z, hz, he⟩ := List.any_eq_true.1 ha
          have he : z.p = x.p := by simpa using he
          exact hu.1 (he ▸ List.mem_map_of_mem hz))]
        omega
      · rw [if_neg (show ¬ y.p = x.p from fun e => hu.1 (e ▸ List.mem_map_of_mem hm)), ih hu.2 hm (List.any_eq_true.2 ⟨x, hm, by simp⟩)]
        omega
  · rw [Bool.not_eq_true] at h
    rw [totP_no p h]
    have h2 := fillT_has L p
    rw [h] at h2
    rcases hf : fillT L p with _ | v
    · rfl
    · rw [hf] at h2; cases h2
/-- All rates of the first k sources. -/
def allR (V : Nat → Mv) (k : Nat) : List Ct := (List.range k).flatMap fun i => (V i).R
theorem allR_step (V : Nat → Mv) (k : Nat) : allR V (k + 1) = allR V k ++ (V k).R := by unfold allR; rw [List.range_succ, List.flatMap_append]; simp
theorem allR_mem {V : Nat → Mv} {k : Nat} {x : Ct} (h : x ∈ allR V k) : ∃ i, i < k ∧ x ∈ (V i).R := by
  unfold allR at h
  obtain ⟨i, hi, hx⟩ := List.mem_flatMap.1 h
  exact ⟨i, List.mem_range.1 hi, hx⟩
/-- The first k sources' rates of a prefix. -/
def demS (V : Nat → Mv) (p : Pf) : Nat → Int
  | 0 => 0
  | k + 1 => demS V p k + rateAt (V k) p
theorem rate_nn {v : Mv} (h : OkMv v) (p : Pf) : 0 ≤ rateAt v p := by
  unfold rateAt
  rcases hf : fillT v.R p with _ | c
  · exact Int.le_refl _
  · have := (h.inR _ (fillT_in hf)).2.1
    show 0 ≤ c
    have h2 : 1 ≤ c := this
    omega
theorem demS_nn {V : Nat → Mv} (h : ∀ i, i < 16 → OkMv (V i)) (p : Pf) : ∀ k, k ≤ 16 → 0 ≤ demS V p k
  | 0, _ => Int.le_refl _
  | k + 1, hk => by
    have h1 := demS_nn h p k (by omega)
    have h2 := rate_nn (h k (by omega)) p
    show 0 ≤ demS V p k + rateAt (V k) p
    omega
theorem demS_tot {V : Nat → Mv} (h : ∀ i, i < 16 → OkMv (V i)) (p : Pf) : ∀ k, k ≤ 16 → totP p (allR V k) = demS V p k
  | 0, _ => rfl
  | k + 1, hk => by
    rw [allR_step, totP_append, demS_tot h p k (by omega), totP_uniq (h k (by omega)).uR]
    rfl
def demV (V : Nat → Mv) (p : Pf) : Int := near (demS V p 16)
def overV (V : Nat → Mv) : Bool := near (tot (allR V 16)) == 9007199254740991
/-- The demands above 0, in order. -/
structure Dem (V : Nat → Mv) (l : List Ct) : Prop where
  intro ::
  srt : Srt (l.map (·.p))
  mem : ∀ p, p ∈ l.map (·.p) ↔ ∃ x ∈ allR V 16, x.p = p
  val : ∀ x ∈ l, x.c = demV V x.p
theorem Dem.unique {V : Nat → Mv} {l m : List Ct} (h : Dem V l) (k : Dem V m) : l = m := by
  have e := Srt.unique h.srt k.srt fun p => (h.mem p).trans (k.mem p).symm
  have h1 : ∀ (V : Nat → Mv) (l : List Ct), (∀ x ∈ l, x.c = demV V x.p) → l = (l.map (·.p)).map fun p => ⟨p, demV V p⟩ := fun V l hl => by
    rw [List.map_map]
    conv => lhs; rw [← List.map_id l]
    refine List.map_congr_left fun x hx => ?_
    obtain ⟨p, c⟩ := x
    have := hl _ hx
    simp only at this
    simp [this]
  rw [h1 V l h.val, h1 V m k.val, e]
end Go.Proofs.Ytgididkpgncdjaa
