/- meter in numbers: a report. -/
import Derived.Test.YtgididkpgncdjaaZ9
namespace Go.Proofs.Ytgididkpgncdjaa
open Go.RowKit Go.Maps
set_option linter.unusedVariables false
set_option linter.unusedSimpArgs false

theorem distT_iff (l : List Ct) : ∀ acc, distT acc l = true → (∀ x ∈ l, fineCt x = true) ∧ Uniq l ∧ ∀ x ∈ l, ∀ y ∈ acc, y.p ≠ x.p := by
  induction l with
  | nil => intro acc _; exact ⟨fun x h => (by cases h), List.nodup_nil, fun x h => (by cases h)⟩
  | cons x t ih =>
    intro acc h
    rw [distT, oddCt_seen] at h
    simp only [Bool.and_eq_true] at h
    obtain ⟨⟨hf, ha⟩, ht⟩ := h
    obtain ⟨h1, h2, h3⟩ := ih _ ht
    have hax : ∀ y ∈ acc, y.p ≠ x.p := fun y hy e => by
      unfold apartT at ha
      rw [Bool.not_eq_true'] at ha
      have := List.any_eq_false.1 ha y hy
      simp [e] at this
    refine ⟨fun z hz => ?_, ?_, fun z hz y hy => ?_⟩
    · rcases List.mem_cons.1 hz with rfl | hz
      · exact hf
      · exact h1 z hz
    · unfold Uniq at h2 ⊢
      rw [List.map_cons, List.nodup_cons]
      refine ⟨fun hm => ?_, h2⟩
      obtain ⟨z, hz, e⟩ := List.mem_map.1 hm
      exact h3 z hz x (by simp) e.symm
    · rcases List.mem_cons.1 hz with rfl | hz
      · exact hax y hy
      · exact h3 z hz y (by simp [hy])
/-- How much more is counted, by the seconds. -/
def rateC (v : Mv) (now : Int) (x : Ct) : Int := match fillT v.L x.p with
  | none => 0
  | some n => if now ≤ v.a ∨ x.c < n then 0 else (x.c - n) / (now - v.a)
def ratesV (v : Mv) (now : Int) (L : List Ct) : List Ct := L.filterMap fun x => if 0 < rateC v now x then some ⟨x.p, rateC v now x⟩ else none
def thenV (v : Mv) (seq : Int) (L : List Ct) (now : Int) : Mv := ⟨seq, now, true, L, ratesV v now L⟩
theorem rateC_le {v : Mv} (hv : OkMv v) {now : Int} {x : Ct} (h0 : 0 ≤ x.c) (h1 : x.c ≤ 9007199254740991) : 0 ≤ rateC v now x ∧ rateC v now x ≤ 9007199254740991 := by
  unfold rateC
  rcases hf : fillT v.L x.p with _ | n
  · exact ⟨by simp, by simp⟩
  · have hn := (hv.inL _ (fillT_in hf)).2.1
    have hn : 0 ≤ n := hn
    simp only
    split
    · exact ⟨by omega, by omega⟩
    · rename_i hc
      have hd : 0 < now - v.a := by omega
      have hx : 0 ≤ x.c - n := by omega
      refine ⟨Int.ediv_nonneg hx (by omega), ?_⟩
      have := Int.ediv_le_self (now - v.a) hx
      omega
theorem ratesV_p (v : Mv) (now : Int) (L : List Ct) : ((ratesV v now L).map (·.p)).Sublist (L.map (·.p)) := by
  induction L with
  | nil => exact List.Sublist.refl _
  | cons x t ih =>
    unfold ratesV at *
    rw [List.filterMap_cons]
    split
    · exact ih.trans (List.sublist_cons_self _ _)
    · rename_i y hy
      split at hy
      · cases hy
        exact ih.cons_cons _
      · cases hy
theorem ratesV_snoc (v : Mv) (now : Int) (L : List Ct) (x : Ct) : ratesV v now (L ++ [x]) = ratesV v now L ++ (if 0 < rateC v now x then [⟨x.p, rateC v now x⟩] else []) := by
  unfold ratesV
  rw [List.filterMap_append]
  congr 1
  rw [List.filterMap_cons]
  split <;> rename_i h <;> split at h <;> simp_all
theorem ok_then {v : Mv} (hv : OkMv v) {src seq now : Int} {L : List Ct} (hL : ∀ x ∈ L, InCt x) (ho : okRep src seq L = true) (hn : isCap now = true) : OkMv (thenV v seq L now) := by
  unfold okRep at ho
  simp only [Bool.and_eq_true, decide_eq_true_eq] at ho
  obtain ⟨_, hs, hlen, hd⟩ := ho
  obtain ⟨hf, hu, _⟩ := distT_iff L [] hd
  have hc : ∀ x ∈ L, 0 ≤ x.c ∧ x.c ≤ 9007199254740991 := fun x hx => by
    have := hf x hx
    unfold fineCt at this
    simp only [Bool.and_eq_true] at this
    exact (isCap_iff _).1 this.2
  have hs := (isCap_iff _).1 hs
  have hn := (isCap_iff _).1 hn
  refine ⟨hlen, Nat.le_trans (List.length_filterMap_le _ _) hlen, fun x hx => ⟨hL x hx, hc x hx⟩, fun y hy => ?_, hu, (ratesV_p v now L).nodup hu, hn.1, hn.2, hs.1, fun e => (by cases e)⟩
  unfold thenV ratesV at hy
  obtain ⟨x, hx, he⟩ := List.mem_filterMap.1 hy
  split at he
  · rename_i h0
    cases he
    exact ⟨hL x hx, h0, (rateC_le hv (hc x hx).1 (hc x hx).2).2⟩
  · cases he
/-- A Take in numbers. -/
def takeE (V : Nat → Mv) (src seq : Int) (L : List Ct) (now : Int) : Int :=
  if !(okRep src seq L && isCap now) then 1 else if (V src.toNat).h && decide (seq ≤ (V src.toNat).q) then 170 else 0
def takeV (V : Nat → Mv) (src seq : Int) (L : List Ct) (now : Int) : Nat → Mv :=
  if takeE V src seq L now = 0 then setV V src.toNat (thenV (V src.toNat) seq L now) else V
def OkV (V : Nat → Mv) : Prop := ∀ i, i < 16 → OkMv (V i)
theorem okV_take {V : Nat → Mv} (h : OkV V) {src seq now : Int} {L : List Ct} (hL : ∀ x ∈ L, InCt x) : OkV (takeV V src seq L now) := by
  unfold takeV
  split
  · rename_i he
    unfold takeE at he
    split at he
    · omega
    · rename_i hok
      simp only [Bool.not_eq_true, Bool.not_eq_false', Bool.and_eq_true] at hok
      intro i hi
      unfold setV
      split
      · rename_i e
        subst e
        exact ok_then (h _ hi) hL hok.1 hok.2
      · exact h i hi
  · exact h
def V0 : Nat → Mv := fun _ => Mv.zero
theorem okMv_zero : OkMv Mv.zero := ⟨by simp [Mv.zero], by simp [Mv.zero], fun x h => (by cases h), fun x h => (by cases h), List.nodup_nil, List.nodup_nil, by decide, by decide, by decide, fun _ => rfl⟩
theorem okV0 : OkV V0 := fun _ _ => okMv_zero
end Go.Proofs.Ytgididkpgncdjaa
