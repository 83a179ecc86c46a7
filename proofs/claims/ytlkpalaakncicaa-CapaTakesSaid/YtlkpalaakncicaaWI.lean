/- hop: HopShorter in numbers. -/
import Derived.Test.YtlkpalaakncicaaWH
namespace Go.Proofs.Ytlkpalaakncicaa
open Go.RowKit
set_option linter.unusedVariables false
set_option linter.unusedSimpArgs false
set_option maxRecDepth 100000

theorem okFrom_app : ∀ (l acc m : List Ifc), okFrom acc (l ++ m) = (okFrom acc l && okFrom (acc ++ l) m)
  | [], acc, m => by simp [okFrom]
  | x :: t, acc, m => by
    rw [List.cons_append, okFrom, okFrom, okFrom_app t (acc ++ [x]) m, Bool.and_assoc, List.append_assoc]
    rfl
theorem okIfs_snoc {l : List Ifc} {x : Ifc} (h : okIfs (l ++ [x]) = true) : okIfs l = true ∧ okIf l x = true := by
  unfold okIfs at h ⊢
  rw [okFrom_app] at h
  simp only [Bool.and_eq_true, decide_eq_true_eq, List.length_append, List.length_singleton, List.nil_append] at h ⊢
  obtain ⟨h1, h2, h3⟩ := h
  refine ⟨⟨by omega, h2⟩, ?_⟩
  simpa [okFrom] using h3
theorem byNet_app (l m : List Ifc) (r a n : Int) : byNet (l ++ m) r a n = (byNet l r a n).or (byNet m r a n) := by
  unfold byNet; rw [List.find?_append]
theorem lngH_s (l : List Ifc) (r a : Int) (d : Nat) : lngH l r a (d + 1) = (byNet l r (mk a d) d).or (lngH l r a d) := by
  rw [lngH]
  rcases byNet l r (mk a d) d with _ | y <;> rfl
theorem lngH_more (l : List Ifc) (x : Ifc) (ha : x.a = 0) (hn : x.n = 0) (hf : byNet l x.r 0 0 = none) (a : Int) (a0 : 0 ≤ a) (a1 : a < 4294967296) : ∀ d : Nat, lngH (l ++ [x]) x.r a (d + 1) = some ((lngH l x.r a (d + 1)).getD x)
  | 0 => by
    have h1 : byNet [x] x.r 0 0 = some x := by unfold byNet; simp [ha, hn]
    have h2 : mk a ((0 : Nat) : Int) = 0 := mk_zero a a0 a1
    have e := lngH_s (l ++ [x]) x.r a 0
    have f := lngH_s l x.r a 0
    rw [h2, show ((0 : Nat) : Int) = 0 from rfl] at e f
    rw [byNet_app, hf, h1] at e
    rw [hf] at f
    rw [e, f]
    rfl
  | d + 1 => by
    have h1 : byNet [x] x.r (mk a ((d + 1 : Nat) : Int)) ((d + 1 : Nat) : Int) = none := by
      unfold byNet
      simp [hn]
      intro _ h
      omega
    have ih := lngH_more l x ha hn hf a a0 a1 d
    have e := lngH_s (l ++ [x]) x.r a (d + 1)
    have f := lngH_s l x.r a (d + 1)
    rw [byNet_app, h1] at e
    rcases hb : byNet l x.r (mk a ((d + 1 : Nat) : Int)) ((d + 1 : Nat) : Int) with _ | y
    · rw [hb] at e f
      rw [e, f, ih]; rfl
    · rw [hb] at e f
      rw [e, f]; rfl
theorem shorter_fact (l : List Ifc) (id r a : Int) (a0 : 0 ≤ a) (a1 : a < 4294967296) (h : okIfs (l ++ [⟨id, r, 0, 0, 0⟩]) = true) : okIfs l = true ∧ findV (l ++ [⟨id, r, 0, 0, 0⟩]) r a = some ((findV l r a).getD ⟨id, r, 0, 0, 0⟩) := by
  obtain ⟨h1, h2⟩ := okIfs_snoc h
  refine ⟨h1, ?_⟩
  unfold okIf at h2
  simp only [Bool.and_eq_true, Bool.not_eq_true', decide_eq_true_eq, Option.isSome_eq_false_iff, Option.isNone_iff_eq_none] at h2
  obtain ⟨_, _, _, hr, _, _, hn, _⟩ := h2
  unfold findV
  rw [if_pos hr, if_pos hr]
  exact lngH_more l ⟨id, r, 0, 0, 0⟩ rfl rfl hn a a0 a1 32
end Go.Proofs.Ytlkpalaakncicaa
