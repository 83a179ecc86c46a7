/- attr: what must come of every program, in numbers. -/
import Derived.Test.YtcabiodgmhcdlaaDoorAI
import Derived.Test.YtcabiodgmhcdlaaDoorA6
import Derived.Test.YtcabiodgmhcdlaaDoorAB
import Derived.KernelRfl
namespace Go.Proofs.YtcabiodgmhcdlaaDoor
open Go.RowKit

def lvA : At := ⟨0, [], 167772161, -1, -1, []⟩
def lvAL : List Int := [64, 1, 1, 0, 64, 2, 0, 64, 3, 4, 10, 0, 0, 1]
def lvD : At := ⟨2, [⟨false, [7, 70000]⟩, ⟨true, [1, 2]⟩], 9, 5, 100, [2147483648]⟩
theorem lvA_ok : okA lvA true = true ∧ okA lvA false = true := by decide +kernel
theorem lvD_ok : okA lvD true = true ∧ okA lvD false = false := by decide +kernel
theorem lvA_put : putA lvA true = lvAL := by decide +kernel
theorem lvA_get : getA lvAL true = (lvA, 1) := by kernel_rfl
theorem lvD_len : (putA lvD true).length = 55 := by decide +kernel
theorem lvD_get : getA (putA lvD true) true = (lvD, 1) := by kernel_rfl
theorem lvN_get : getA [] true = (At.zero, 2) := by kernel_rfl
theorem lvB_get : getA [64, 1, 1, 3] true = (At.zero, 3) := by kernel_rfl
theorem lvD_has : hasA lvD 2 = true ∧ hasA lvD 3 = false := by decide +kernel
theorem lvD_lenV : lenV lvD.path = 3 := by decide +kernel
theorem lvA_err : errA lvA false = 0 := by decide +kernel
end Go.Proofs.YtcabiodgmhcdlaaDoor
