/- fsm: what FsmUps looks at, on numbers alone. -/
import Derived.Test.YtbacnjijfffobaaH1
namespace Go.Proofs.Ytbacnjijfffobaa
open Go.RowKit

/-- ActUp just when it becomes PhaseUp, ActDown just when it is so no more, ActClose where it leaves for a phase below PhaseSent; the phase is known. -/
def UpsOk (s : Ph) (R : Ph × List Ac) : Prop :=
  R.2.any (fun a => a.kind == 9) = (!(s.phase == 5) && (R.1.phase == 5)) ∧ R.2.any (fun a => a.kind == 10) = ((s.phase == 5) && !(R.1.phase == 5)) ∧
    (3 ≤ s.phase → R.1.phase < 3 → R.2.any (fun a => a.kind == 5) = true) ∧ 1 ≤ R.1.phase ∧ R.1.phase ≤ 5
set_option maxHeartbeats 4000000 in
theorem ups_fact (o : Op) (r : Int) (s : Ph) (kind : Int) (x : Op) (code sub : Int) (d : Dt) (h1 : 1 ≤ s.phase) (h5 : s.phase ≤ 5) : UpsOk s (stepV o r s kind x code sub d) := by
  unfold stepV
  by_cases hc : (okL o r && knownB s) = true
  · rw [if_pos hc]
    clear hc
    obtain ⟨ph, hold, four, paths, id⟩ := s
    dsimp only at h1 h5
    have hp : ph = 1 ∨ ph = 2 ∨ ph = 3 ∨ ph = 4 ∨ ph = 5 := by omega
    clear h1 h5
    unfold eventV stopV idleV connectV sessionV messageV meetV againV fallV leaveL noteL closeL downL tryL beatL metV noteAc ac Ph.at
    rcases hp with rfl | rfl | rfl | rfl | rfl <;> (repeat' split) <;> simp_all [UpsOk]
  · rw [if_neg hc]
    refine ⟨?_, ?_, fun a b => by dsimp only at b; omega, h1, h5⟩
    · rcases h : s.phase == 5 with _ | _ <;> simp
    · rcases h : s.phase == 5 with _ | _ <;> simp
end Go.Proofs.Ytbacnjijfffobaa
