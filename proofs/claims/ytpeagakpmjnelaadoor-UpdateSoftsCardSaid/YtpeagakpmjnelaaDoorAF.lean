/- ref05: Check. -/
import Derived.Test.YtpeagakpmjnelaaDoorAE
import Derived.BigQuiet
namespace Go.Proofs.YtpeagakpmjnelaaDoor.Ax
open Go.RowKit
set_option maxRecDepth 100000

theorem rfits_any (n : Int) (wide : Nat) (w : World) (h4 : wide ≤ 4) :
    Calls Tryd.prog 46 #[.int .i64 n, .int .i64 wide] w fun e w' => e = .returned (.bool (fitsB n wide)) ∧ w = w' := by
  have hw : wide = 0 ∨ wide = 1 ∨ wide = 2 ∨ wide = 3 ∨ wide = 4 := by omega
  by_cases h1 : 0 ≤ n
  · rcases hw with rfl | rfl | rfl | rfl | rfl
    all_goals
      go_enter Tryd.func46, Tryd.ntmps46
      go_wp2
      go_ret
      exact ⟨ret_bool (by simp [fitsB, h1]), rfl⟩
  · go_enter Tryd.func46, Tryd.ntmps46
    go_wp2
    go_ret
    exact ⟨ret_bool (by unfold fitsB; rw [decide_eq_false (by omega)]; rfl), rfl⟩

theorem okA_head (a : At) (four : Bool) (h : a.origin < 0 ∨ 2 < a.origin ∨ a.next = 0 ∨ a.med < -1 ∨ 4294967295 < a.med ∨ a.pref < -1 ∨ 4294967295 < a.pref ∨ 8 < a.path.length ∨ 32 < a.comms.length) : okA a four = false := by
  rcases hh : okA a four with _ | _
  · rfl
  · simp only [okA, Bool.and_eq_true, Bool.not_eq_true', oddB, okPath, okComms, Bool.or_eq_false_iff, decide_eq_false_iff_not, decide_eq_true_eq, beq_eq_false_iff_ne, ne_eq] at hh
    obtain ⟨⟨_, _⟩, ⟨_, _⟩, _, ⟨_, _⟩, ⟨_, _⟩, _, _⟩ := hh
    omega
theorem okA_tail (a : At) (four : Bool) (h : ¬(a.origin < 0 ∨ 2 < a.origin ∨ a.next = 0 ∨ a.med < -1 ∨ 4294967295 < a.med ∨ a.pref < -1 ∨ 4294967295 < a.pref ∨ 8 < a.path.length ∨ 32 < a.comms.length)) : okA a four = (!(a.path.any (segOdd (mostA four))) && !(a.comms.any (oddB 0 4294967295))) := by
  have h0 : oddB 0 2 a.origin = false := by unfold oddB; rw [decide_eq_false (by omega), decide_eq_false (by omega)]; rfl
  have h1 : oddB (-1) 4294967295 a.med = false := by unfold oddB; rw [decide_eq_false (by omega), decide_eq_false (by omega)]; rfl
  have h2 : oddB (-1) 4294967295 a.pref = false := by unfold oddB; rw [decide_eq_false (by omega), decide_eq_false (by omega)]; rfl
  have h3 : (a.next == 0) = false := by simp only [beq_eq_false_iff_ne, ne_eq]; omega
  have h4 : decide (a.path.length ≤ 8) = true := decide_eq_true (by omega)
  have h5 : decide (a.comms.length ≤ 32) = true := decide_eq_true (by omega)
  unfold okA okPath okComms
  rw [h0, h1, h2, h3, h4, h5]
  simp
theorem fits_odd (x : Int) (four : Bool) : fitsB x (if four then 4 else 2) = !oddB 0 (mostA four) x := by
  have p4 : (2 : Int) ^ (8 * 4) = 4294967296 := rfl
  have p2 : (2 : Int) ^ (8 * 2) = 65536 := rfl
  cases four
  all_goals
    simp only [fitsB, oddB, mostA, p2, p4, Bool.not_or, Bool.false_eq_true, if_true, if_false]
    by_cases h1 : x < 0
    · rw [decide_eq_false (p := 0 ≤ x) (by omega), decide_eq_true h1]; rfl
    · rw [decide_eq_true (p := 0 ≤ x) (by omega), decide_eq_false h1, Bool.not_false, Bool.true_and, Bool.true_and, ← decide_not]
      exact decide_eq_decide.mpr (by omega)
end Go.Proofs.YtpeagakpmjnelaaDoor.Ax
