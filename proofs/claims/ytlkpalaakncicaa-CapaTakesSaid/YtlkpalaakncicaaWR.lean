/- hop: the longest that holds, in numbers. -/
import Derived.Test.YtlkpalaakncicaaWM
namespace Go.Proofs.Ytlkpalaakncicaa
open Go.RowKit
set_option linter.unusedVariables false
set_option linter.unusedSimpArgs false
set_option maxRecDepth 100000

/-- An interface of a router that holds an address. -/
def mt (r a : Int) (y : Ifc) : Bool := decide (y.r = r) && holdsP y.a y.n a
theorem lngH_none (l : List Ifc) (r a : Int) : ∀ D : Nat, lngH l r a D = none → ∀ d : Nat, d < D → byNet l r (mk a d) d = none
  | 0, _, d, hd => absurd hd (Nat.not_lt_zero _)
  | D + 1, h, d, hd => by
    rw [lngH_s] at h
    rcases hb : byNet l r (mk a D) D with _ | y
    · rw [hb] at h
      rcases Nat.lt_or_ge d D with hlt | hge
      · exact lngH_none l r a D h d hlt
      · obtain rfl : d = D := by omega
        exact hb
    · rw [hb] at h; cases h
theorem lngH_some (l : List Ifc) (r a : Int) (x : Ifc) : ∀ D : Nat, lngH l r a D = some x → ∃ d : Nat, d < D ∧ byNet l r (mk a d) d = some x ∧ ∀ e : Nat, d < e → e < D → byNet l r (mk a e) e = none
  | 0, h => by cases h
  | D + 1, h => by
    rw [lngH_s] at h
    rcases hb : byNet l r (mk a D) D with _ | y
    · rw [hb] at h
      obtain ⟨d, h1, h2, h3⟩ := lngH_some l r a x D h
      refine ⟨d, by omega, h2, fun e he1 he2 => ?_⟩
      rcases Nat.lt_or_ge e D with hlt | hge
      · exact h3 e he1 hlt
      · obtain rfl : e = D := by omega
        exact hb
    · rw [hb] at h
      have h : some y = some x := h
      rw [Option.some.inj h] at hb
      exact ⟨D, Nat.lt_succ_self _, hb, fun e h1 h2 => by omega⟩
theorem mt_net {r a : Int} {y : Ifc} (h : mt r a y = true) : ∃ d : Nat, d < 33 ∧ y.r = r ∧ y.a = mk a d ∧ y.n = d := by
  unfold mt at h
  rw [Bool.and_eq_true, decide_eq_true_eq, ← holdsP_beq, Bool.and_eq_true, beq_iff_eq, beq_iff_eq] at h
  obtain ⟨h1, h2, h3⟩ := h
  have hn : 0 ≤ y.n ∧ y.n ≤ 32 := by have := bitsOf_le y.n; unfold cl at h3; omega
  refine ⟨y.n.toNat, by omega, h1, ?_, by omega⟩
  rw [show ((y.n.toNat : Nat) : Int) = y.n by omega]
  exact h2.symm
theorem net_mt {r a : Int} {y : Ifc} {d : Nat} (hd : d < 33) (h1 : y.r = r) (h2 : y.a = mk a d) (h3 : y.n = d) : mt r a y = true := by
  unfold mt
  rw [Bool.and_eq_true, decide_eq_true_eq, ← holdsP_beq, Bool.and_eq_true, beq_iff_eq, beq_iff_eq]
  refine ⟨h1, by rw [h3]; exact h2.symm, ?_⟩
  rw [h3]
  exact cl_in (by omega) (by omega)
/-- The best of the first so many. -/
def BestOf (l : List Ifc) (r a : Int) (k : Nat) : Option Nat → Prop
  | none => ∀ j, j < k → mt r a (l.getD j Ifc.zero) = false
  | some b => b < k ∧ mt r a (l.getD b Ifc.zero) = true ∧ ∀ j, j < k → mt r a (l.getD j Ifc.zero) = true → (l.getD j Ifc.zero).n ≤ (l.getD b Ifc.zero).n
theorem fine_r {x : Ifc} (h : fineIf x = true) : isR x.r = true := by
  unfold fineIf at h
  simp only [Bool.and_eq_true, decide_eq_true_eq] at h
  obtain ⟨_, _, h1, h2, _⟩ := h
  unfold isR
  rw [Bool.and_eq_true, decide_eq_true_eq, decide_eq_true_eq]
  omega
theorem find_end {l : List Ifc} {r a : Int} (hok : okIfs l = true) {o : Option Nat} (h : BestOf l r a l.length o) : findV l r a = o.map fun b => l.getD b Ifc.zero := by
  obtain ⟨_, hf, hp⟩ := (okIfs_iff l).1 hok
  have hget : ∀ y ∈ l, ∃ j, j < l.length ∧ l.getD j Ifc.zero = y := fun y hy => by
    obtain ⟨j, hj, e⟩ := List.getElem_of_mem hy
    exact ⟨j, hj, by simp [List.getD, hj, e]⟩
  have hmem : ∀ j, j < l.length → l.getD j Ifc.zero ∈ l := fun j hj => by simp [List.getD, hj]
  have hnone : (∀ y ∈ l, mt r a y = false) → findV l r a = none := fun hn => by
    unfold findV
    split
    · rcases hl : lngH l r a 33 with _ | x
      · rfl
      · obtain ⟨d, hd, hb, _⟩ := lngH_some l r a x 33 hl
        obtain ⟨hx, e1, e2, e3⟩ := (byNet_iff hp r (mk a d) d x).1 hb
        have := net_mt hd e1 e2 e3
        rw [hn x hx] at this
        cases this
    · rfl
  rcases o with _ | b
  · refine hnone fun y hy => ?_
    obtain ⟨j, hj, rfl⟩ := hget y hy
    exact h j hj
  · obtain ⟨hb, hm, hmax⟩ := h
    obtain ⟨d, hd, e1, e2, e3⟩ := mt_net hm
    have hbm := hmem b hb
    have hbn : byNet l r (mk a d) d = some (l.getD b Ifc.zero) := (byNet_iff hp r (mk a d) d _).2 ⟨hbm, e1, e2, e3⟩
    have hR : isR r = true := by rw [← e1]; exact fine_r (hf _ hbm)
    unfold findV
    rw [if_pos hR]
    rcases hl : lngH l r a 33 with _ | x
    · rw [lngH_none l r a 33 hl d hd] at hbn; cases hbn
    · obtain ⟨d2, hd2, hb2, hno⟩ := lngH_some l r a x 33 hl
      obtain ⟨hx, f1, f2, f3⟩ := (byNet_iff hp r (mk a d2) d2 x).1 hb2
      obtain ⟨j, hj, ej⟩ := hget x hx
      have h1 := hmax j hj (by rw [ej]; exact net_mt hd2 f1 f2 f3)
      rw [ej, e3, f3] at h1
      rcases Nat.lt_or_ge d2 d with hlt | hge
      · rw [hno d hlt hd] at hbn; cases hbn
      · obtain rfl : d2 = d := by omega
        rw [hbn] at hb2
        rw [Option.map_some, Option.some.inj hb2]
theorem best_step {l : List Ifc} {r a : Int} {k : Nat} {o : Option Nat} (h : BestOf l r a k o) (hm : mt r a (l.getD k Ifc.zero) = false) : BestOf l r a (k + 1) o := by
  rcases o with _ | b
  · intro j hj
    rcases Nat.lt_or_ge j k with hlt | hge
    · exact h j hlt
    · obtain rfl : j = k := by omega
      exact hm
  · obtain ⟨h1, h2, h3⟩ := h
    refine ⟨by omega, h2, fun j hj hmj => ?_⟩
    rcases Nat.lt_or_ge j k with hlt | hge
    · exact h3 j hlt hmj
    · obtain rfl : j = k := by omega
      rw [hm] at hmj; cases hmj
theorem best_keep {l : List Ifc} {r a : Int} {k b : Nat} (h : BestOf l r a k (some b)) (hn : (l.getD k Ifc.zero).n ≤ (l.getD b Ifc.zero).n) : BestOf l r a (k + 1) (some b) := by
  obtain ⟨h1, h2, h3⟩ := h
  refine ⟨by omega, h2, fun j hj hmj => ?_⟩
  rcases Nat.lt_or_ge j k with hlt | hge
  · exact h3 j hlt hmj
  · obtain rfl : j = k := by omega
    exact hn
theorem best_take {l : List Ifc} {r a : Int} {k : Nat} {o : Option Nat} (h : BestOf l r a k o) (hm : mt r a (l.getD k Ifc.zero) = true) (hn : ∀ b, o = some b → (l.getD b Ifc.zero).n < (l.getD k Ifc.zero).n) : BestOf l r a (k + 1) (some k) := by
  refine ⟨Nat.lt_succ_self _, hm, fun j hj hmj => ?_⟩
  rcases Nat.lt_or_ge j k with hlt | hge
  · rcases o with _ | b
    · rw [h j hlt] at hmj; cases hmj
    · have := h.2.2 j hlt hmj
      have := hn b rfl
      omega
  · obtain rfl : j = k := by omega
    exact Int.le_refl _
end Go.Proofs.Ytlkpalaakncicaa
