/- hop: HopOrders in numbers. -/
import Derived.Test.YtlkpalaakncicaaWI
namespace Go.Proofs.Ytlkpalaakncicaa
open Go.RowKit
set_option linter.unusedVariables false
set_option linter.unusedSimpArgs false
set_option maxRecDepth 100000

theorem clash_symm (y x : Ifc) : clash y x = clash x y := by
  unfold clash
  rw [Bool.eq_iff_iff]
  simp only [Bool.or_eq_true, Bool.and_eq_true, beq_iff_eq]
  constructor
  · rintro (h | ⟨h1, h2, h3⟩)
    · exact .inl h.symm
    · exact .inr ⟨h1.symm, h2.symm, h3.symm⟩
  · rintro (h | ⟨h1, h2, h3⟩)
    · exact .inl h.symm
    · exact .inr ⟨h1.symm, h2.symm, h3.symm⟩
theorem okFrom_iff : ∀ (l acc : List Ifc), okFrom acc l = true ↔ (∀ x ∈ l, fineIf x = true) ∧ (∀ y ∈ acc, ∀ x ∈ l, clash y x = false) ∧ l.Pairwise (fun y x => clash y x = false)
  | [], acc => by simp [okFrom]
  | x :: t, acc => by
    rw [okFrom, Bool.and_eq_true, okIf_fine, Bool.and_eq_true, okFrom_iff t (acc ++ [x]), List.pairwise_cons]
    unfold apartI
    simp only [List.all_eq_true, Bool.not_eq_true', List.mem_append, List.mem_cons, List.not_mem_nil, or_false]
    constructor
    · rintro ⟨⟨h1, h2⟩, h3, h4, h5⟩
      refine ⟨fun z hz => ?_, fun y hy z hz => ?_, fun z hz => h4 x (.inr rfl) z hz, h5⟩
      · rcases hz with rfl | hz
        · exact h1
        · exact h3 z hz
      · rcases hz with rfl | hz
        · exact h2 y hy
        · exact h4 y (.inl hy) z hz
    · rintro ⟨h1, h2, h3, h4⟩
      refine ⟨⟨h1 x (.inl rfl), fun y hy => h2 y hy x (.inl rfl)⟩, fun z hz => h1 z (.inr hz), fun y hy z hz => ?_, h4⟩
      rcases hy with hy | rfl
      · exact h2 y hy z (.inr hz)
      · exact h3 z hz
theorem okIfs_iff (l : List Ifc) : okIfs l = true ↔ l.length ≤ 256 ∧ (∀ x ∈ l, fineIf x = true) ∧ l.Pairwise (fun y x => clash y x = false) := by
  unfold okIfs
  rw [Bool.and_eq_true, decide_eq_true_eq, okFrom_iff]
  simp
theorem okIfs_perm {l m : List Ifc} (hp : l.Perm m) (h : okIfs l = true) : okIfs m = true := by
  rw [okIfs_iff] at h ⊢
  obtain ⟨h1, h2, h3⟩ := h
  exact ⟨by rw [← hp.length_eq]; exact h1, fun x hx => h2 x (hp.mem_iff.2 hx), hp.pairwise h3 fun h => by rw [clash_symm]; exact h⟩
theorem byNet_iff {l : List Ifc} (h : l.Pairwise (fun y x => clash y x = false)) (r a n : Int) (x : Ifc) : byNet l r a n = some x ↔ x ∈ l ∧ (x.r = r ∧ x.a = a ∧ x.n = n) := by
  constructor
  · intro hx
    unfold byNet at hx
    exact ⟨List.mem_of_find?_eq_some hx, by simpa using List.find?_some hx⟩
  · rintro ⟨hm, hx⟩
    induction l with
    | nil => cases hm
    | cons y t ih =>
      obtain ⟨h1, h2⟩ := List.pairwise_cons.1 h
      unfold byNet
      rw [List.find?_cons]
      by_cases hy : y.r = r ∧ y.a = a ∧ y.n = n
      · rw [show decide (y.r = r ∧ y.a = a ∧ y.n = n) = true from decide_eq_true hy]
        rcases List.mem_cons.1 hm with e | hm
        · rw [e]
        · exfalso
          have := h1 x hm
          unfold clash at this
          obtain ⟨e1, e2, e3⟩ := hx
          obtain ⟨f1, f2, f3⟩ := hy
          rw [e1, e2, e3, f1, f2, f3] at this
          simp at this
      · rw [show decide (y.r = r ∧ y.a = a ∧ y.n = n) = false from decide_eq_false hy]
        rcases List.mem_cons.1 hm with e | hm
        · subst e; exact absurd hx hy
        · exact ih h2 hm
theorem byNet_perm {l m : List Ifc} (hp : l.Perm m) (h : okIfs l = true) (r a n : Int) : byNet m r a n = byNet l r a n := by
  have h1 := (okIfs_iff l).1 h
  have h2 := (okIfs_iff m).1 (okIfs_perm hp h)
  have e : ∀ x, byNet m r a n = some x ↔ byNet l r a n = some x := fun x => by
    rw [byNet_iff h1.2.2, byNet_iff h2.2.2, hp.mem_iff]
  rcases hm : byNet m r a n with _ | x
  · rcases hl : byNet l r a n with _ | x
    · rfl
    · exact absurd ((e x).2 hl) (by rw [hm]; simp)
  · exact ((e x).1 hm).symm
theorem lngH_perm {l m : List Ifc} (hp : l.Perm m) (h : okIfs l = true) (r a : Int) : ∀ d : Nat, lngH m r a d = lngH l r a d
  | 0 => rfl
  | d + 1 => by rw [lngH_s, lngH_s, byNet_perm hp h, lngH_perm hp h r a d]
theorem findV_perm {l m : List Ifc} (hp : l.Perm m) (h : okIfs l = true) (r a : Int) : findV m r a = findV l r a := by
  unfold findV
  rw [lngH_perm hp h]
theorem turn_perm (l : List Ifc) (k : Nat) : l.Perm (l.drop k ++ l.take k) :=
  (List.perm_append_comm.trans (by rw [List.take_append_drop])).symm
end Go.Proofs.Ytlkpalaakncicaa
