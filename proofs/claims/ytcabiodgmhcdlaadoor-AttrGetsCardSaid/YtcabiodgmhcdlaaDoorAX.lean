/- The document's flags of a type, and its communities. -/
import Derived.Test.YtcabiodgmhcdlaaDoorRq
import Derived.Test.YtcabiodgmhcdlaaDoorAB
namespace Go.Proofs.YtcabiodgmhcdlaaDoor
open Go.RowKit

def flagV (k : Nat) : Int := if flagsL.getD k 0 = 0 then -1 else flagsL.getD k 0
theorem rflags_any (k : Nat) (w : World) :
    Calls Tryd.prog 41 #[.int .i64 k] w fun e w' => e = .returned (.int .i64 (flagV k)) ∧ w = w' := by
  have key : k = 0 ∨ k = 1 ∨ k = 2 ∨ k = 3 ∨ k = 4 ∨ k = 5 ∨ k = 6 ∨ k = 7 ∨ k = 8 ∨ 9 ≤ k := by omega
  rcases key with rfl | rfl | rfl | rfl | rfl | rfl | rfl | rfl | rfl | hk
  case inr.inr.inr.inr.inr.inr.inr.inr.inr =>
    have hv : flagV k = -1 := by unfold flagV; rw [if_pos (flags_far hk)]
    rw [hv]
    obtain ⟨K, hK⟩ : ∃ K : Int, (k : Int) = K := ⟨_, rfl⟩
    have h9 : 9 ≤ K := by omega
    rw [hK]
    clear hv hK hk
    have e1 : (K == 1) = false := by simp; omega
    have e2 : (K == 2) = false := by simp; omega
    have e3 : (K == 3) = false := by simp; omega
    have e4 : (K == 4) = false := by simp; omega
    have e5 : (K == 5) = false := by simp; omega
    have e8 : (K == 8) = false := by simp; omega
    go_enter Tryd.func41, Tryd.ntmps41
    go_wp2
    go_ret
    exact ⟨rfl, rfl⟩
  all_goals
    go_enter Tryd.func41, Tryd.ntmps41
    go_wp2
    go_ret
    exact ⟨rfl, rfl⟩
end Go.Proofs.YtcabiodgmhcdlaaDoor
