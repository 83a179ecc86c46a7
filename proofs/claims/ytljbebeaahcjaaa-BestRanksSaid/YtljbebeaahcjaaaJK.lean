/- best in numbers: Meds of each AS. -/
import Derived.Test.YtljbebeaahcjaaaJA
import Derived.Test.YtljbebeaahcjaaaJB
namespace Go.Proofs.Ytljbebeaahcjaaa
open Go.RowKit Go.Maps
set_option linter.unusedVariables false
set_option linter.unusedSimpArgs false
set_option maxRecDepth 100000

/-- One more is seen. -/
def stG (f : Int → Option Int) (a x : Int) : Int → Option Int := match f a with
  | none => putF f a x
  | some m => if x < m then putF f a x else f
theorem stG_none {f : Int → Option Int} {a x : Int} (h : f a = none) : stG f a x = putF f a x := by unfold stG; rw [h]
theorem stG_lt {f : Int → Option Int} {a x m : Int} (h : f a = some m) (hx : x < m) : stG f a x = putF f a x := by unfold stG; rw [h]; exact if_pos hx
theorem stG_ge {f : Int → Option Int} {a x m : Int} (h : f a = some m) (hx : ¬ x < m) : stG f a x = f := by unfold stG; rw [h]; exact if_neg hx
/-- What the map holds: of each AS the least so far. -/
def mG (key asn : Nat → Int) (B : List Nat) : Nat → Int → Option Int
  | 0 => fun _ => none
  | k + 1 => stG (mG key asn B k) (asn (B.getD k 0)) (key (B.getD k 0))
theorem mG_none (key asn : Nat → Int) (B : List Nat) : ∀ k y, mG key asn B k y = none ↔ ∀ j, j < k → asn (B.getD j 0) ≠ y
  | 0, y => by simp [mG]
  | k + 1, y => by
    have ih := mG_none key asn B k
    have put : (putF (mG key asn B k) (asn (B.getD k 0)) (key (B.getD k 0)) y = none) ↔ mG key asn B k y = none ∧ asn (B.getD k 0) ≠ y := by
      unfold putF
      by_cases e : y = asn (B.getD k 0)
      · rw [if_pos e]
        constructor
        · intro h; cases h
        · rintro ⟨_, h2⟩; exact absurd e.symm h2
      · rw [if_neg e]
        exact ⟨fun h => ⟨h, fun h2 => e h2.symm⟩, fun h => h.1⟩
    have step : mG key asn B (k + 1) y = none ↔ mG key asn B k y = none ∧ asn (B.getD k 0) ≠ y := by
      show stG (mG key asn B k) (asn (B.getD k 0)) (key (B.getD k 0)) y = none ↔ _
      rcases h : mG key asn B k (asn (B.getD k 0)) with _ | m
      · rw [stG_none h]; exact put
      · by_cases hx : key (B.getD k 0) < m
        · rw [stG_lt h hx]; exact put
        · rw [stG_ge h hx]
          exact ⟨fun h1 => ⟨h1, fun h2 => by rw [← h2, h] at h1; cases h1⟩, fun h => h.1⟩
    rw [step, ih]
    constructor
    · rintro ⟨h1, h2⟩ j hj
      rcases Nat.lt_succ_iff_lt_or_eq.1 hj with h | rfl
      · exact h1 j h
      · exact h2
    · intro h
      exact ⟨fun j hj => h j (by omega), h k (by omega)⟩
theorem mG_some (key asn : Nat → Int) (B : List Nat) : ∀ k y m, mG key asn B k y = some m → (∃ j, j < k ∧ asn (B.getD j 0) = y ∧ key (B.getD j 0) = m) ∧ ∀ j, j < k → asn (B.getD j 0) = y → m ≤ key (B.getD j 0)
  | 0, y, m, h => by simp [mG] at h
  | k + 1, y, m, h => by
    have ih := mG_some key asn B k
    have put : ∀ (hold : ∀ m0, mG key asn B k (asn (B.getD k 0)) = some m0 → key (B.getD k 0) < m0), putF (mG key asn B k) (asn (B.getD k 0)) (key (B.getD k 0)) y = some m → (∃ j, j < k + 1 ∧ asn (B.getD j 0) = y ∧ key (B.getD j 0) = m) ∧ ∀ j, j < k + 1 → asn (B.getD j 0) = y → m ≤ key (B.getD j 0) := by
      intro hold h
      unfold putF at h
      by_cases e : y = asn (B.getD k 0)
      · rw [if_pos e] at h
        injection h with h
        subst h
        refine ⟨⟨k, by omega, e.symm, rfl⟩, fun j hj hy => ?_⟩
        rcases Nat.lt_succ_iff_lt_or_eq.1 hj with hj | rfl
        · rcases hm : mG key asn B k (asn (B.getD k 0)) with _ | m0
          · exact absurd (hy.trans e) ((mG_none key asn B k _).1 hm j hj)
          · have h1 := hold m0 hm
            have h2 := (ih _ m0 hm).2 j hj (hy.trans e)
            omega
        · exact Int.le_refl _
      · rw [if_neg e] at h
        obtain ⟨⟨j, hj, h1, h2⟩, h3⟩ := ih y m h
        refine ⟨⟨j, by omega, h1, h2⟩, fun j hj hy => ?_⟩
        rcases Nat.lt_succ_iff_lt_or_eq.1 hj with hj | rfl
        · exact h3 j hj hy
        · exact absurd hy.symm e
    have h : stG (mG key asn B k) (asn (B.getD k 0)) (key (B.getD k 0)) y = some m := h
    rcases hm0 : mG key asn B k (asn (B.getD k 0)) with _ | m0
    · rw [stG_none hm0] at h
      exact put (fun m0 h0 => by rw [hm0] at h0; cases h0) h
    · by_cases hlt : key (B.getD k 0) < m0
      · rw [stG_lt hm0 hlt] at h
        exact put (fun m1 h1 => by rw [hm0] at h1; injection h1 with h1; omega) h
      · rw [stG_ge hm0 hlt] at h
        obtain ⟨⟨j, hj, h1, h2⟩, h3⟩ := ih y m h
        refine ⟨⟨j, by omega, h1, h2⟩, fun j hj hy => ?_⟩
        rcases Nat.lt_succ_iff_lt_or_eq.1 hj with hj | rfl
        · exact h3 j hj hy
        · rw [← hy, hm0] at h
          injection h with h
          omega
/-- Those of the least Med of each AS. -/
def leastMV (key asn : Nat → Int) (B : List Nat) : List Nat := B.filter fun i => !decide ((mG key asn B B.length (asn i)).getD 0 < key i)
theorem mem_leastM (key asn : Nat → Int) (B : List Nat) (i : Nat) : i ∈ leastMV key asn B ↔ i ∈ B ∧ ∀ j ∈ B, asn j = asn i → key i ≤ key j := by
  unfold leastMV
  rw [List.mem_filter]
  refine and_congr_right fun hi => ?_
  obtain ⟨q, hq, e3⟩ := List.getElem_of_mem hi
  have hq2 : B.getD q 0 = i := by simp [List.getD, hq, e3]
  rcases hm : mG key asn B B.length (asn i) with _ | m
  · exact absurd (congrArg asn hq2) ((mG_none key asn B _ _).1 hm q hq)
  · obtain ⟨⟨j0, hj0, h1, h2⟩, h3⟩ := mG_some key asn B _ _ _ hm
    simp only [Option.getD_some, Bool.not_eq_true', decide_eq_false_iff_not]
    constructor
    · intro h j hj ha
      obtain ⟨p, hp, e4⟩ := List.getElem_of_mem hj
      have hp2 : B.getD p 0 = j := by simp [List.getD, hp, e4]
      have := h3 p hp (by rw [hp2]; exact ha)
      rw [hp2] at this
      omega
    · intro h
      have hj : B.getD j0 0 ∈ B := by simp [List.getD, hj0]
      have := h _ hj h1
      omega
theorem leastM_sub (key asn : Nat → Int) (B : List Nat) : (leastMV key asn B).Sublist B := List.filter_sublist
theorem leastM_ne (key asn : Nat → Int) {B : List Nat} (h : B ≠ []) : leastMV key asn B ≠ [] := by
  obtain ⟨i, hi, e⟩ := minK_mem key h
  intro e2
  have : i ∈ leastMV key asn B := (mem_leastM key asn B i).2 ⟨hi, fun j hj _ => e ▸ minK_le key hj⟩
  rw [e2] at this
  cases this
theorem leastM_eq (key asn : Nat → Int) (B : List Nat) {m : Nat} (hm : B.length = m) : (plc B).filter (fun x => !decide ((mG key asn B m (asn x.toNat)).getD 0 < key x.toNat)) = plc (leastMV key asn B) := by
  subst hm
  unfold plc leastMV
  rw [List.filter_map]
  congr 1
theorem mG_put {key asn : Nat → Int} {B : List Nat} {k : Nat} (h : mG key asn B k (asn (B.getD k 0)) = none ∨ ∃ m, mG key asn B k (asn (B.getD k 0)) = some m ∧ key (B.getD k 0) < m) : putF (mG key asn B k) (asn (B.getD k 0)) (key (B.getD k 0)) = mG key asn B (k + 1) := by
  show _ = stG (mG key asn B k) (asn (B.getD k 0)) (key (B.getD k 0))
  rcases h with h | ⟨m, h, h2⟩
  · rw [stG_none h]
  · rw [stG_lt h h2]
theorem mG_keep {key asn : Nat → Int} {B : List Nat} {k : Nat} {m : Int} (h : mG key asn B k (asn (B.getD k 0)) = some m) (h2 : ¬ key (B.getD k 0) < m) : mG key asn B k = mG key asn B (k + 1) := by
  show _ = stG (mG key asn B k) (asn (B.getD k 0)) (key (B.getD k 0))
  rw [stG_ge h h2]
/-- The AS that a route's path begins with. -/
def asAt (l : List Rv) (i : Int) : Int := firstL (l.getD i.toNat Rv.zero).x.L
theorem first_in {w : World} {x : Ao} (h : AoAt w x) : InI (firstL x.L) := by
  have hp := h.path
  clear h
  obtain ⟨og, p1, n1, c1, L, nx, md, pf, p2, n2, c2, K⟩ := x
  dsimp only at hp ⊢
  have h1 : ∀ s ∈ L, InSg s := hp.at_.ok
  have h2 : ∀ s ∈ L, IsAt w s.q s.A := hp.nums
  clear hp
  induction L with
  | nil => exact (by decide : (Lit.int .i64 0).wf = true)
  | cons s t ih =>
    unfold firstL
    split
    · exact (by decide : (Lit.int .i64 0).wf = true)
    · split
      · exact ih (fun s hs => h1 s (List.mem_cons_of_mem _ hs)) (fun s hs => h2 s (List.mem_cons_of_mem _ hs))
      · rename_i hn
        have h3 := (h1 s List.mem_cons_self).1
        have h4 := (h2 s List.mem_cons_self).ok
        refine h4 _ ?_
        have : 0 < s.A.length := by omega
        simp [List.getD, this]
end Go.Proofs.Ytljbebeaahcjaaa
