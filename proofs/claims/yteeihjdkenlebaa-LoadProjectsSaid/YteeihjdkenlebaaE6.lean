/- load: Fits. -/
import Derived.Test.YteeihjdkenlebaaE3
namespace Go.Proofs.Yteeihjdkenlebaa
open Go.RowKit Go.Maps
set_option linter.unusedVariables false
set_option linter.unusedSimpArgs false
set_option maxRecDepth 100000

def fitsV (f : Int → Option Int) (ov : Bool) (i x l : Int) : Bool := decide (0 ≤ i) && !ov && decide (add ((f i).getD 0) x ≤ l)
theorem ldfits_any (w : World) (g b n s : Nat) (f : Int → Option Int) (ov : Bool) (H : LdAt w g b n s f ov) (i x l : Int) (hi : (Lit.int .i64 i).wf = true) :
    Calls Try.prog 19 #[.pointer (some ⟨g, 0, none⟩), .int .i64 i, .int .i64 x, .int .i64 l] w fun e w' => e = .returned (.bool (fitsV f ov i x l)) ∧ w = w' := by
  have HV := Lib.hid (ldover_any w g b n s f ov H)
  have HO := Lib.hid (ldof_any w g b n s f ov H i hi)
  obtain ⟨v, hv⟩ : ∃ v, (f i).getD 0 = v := ⟨_, rfl⟩
  rw [hv] at HO
  have HR := Lib.hid (add_any v x w)
  obtain ⟨y, hy⟩ : ∃ y, add v x = y := ⟨_, rfl⟩
  rw [hy] at HR
  have HF := Lib.hid (show fitsV f ov i x l = (decide (0 ≤ i) && !ov && decide (y ≤ l)) from by unfold fitsV; rw [hv, hy])
  clear hv hy H
  by_cases h0 : 0 ≤ i
  · have t0 : decide (0 ≤ i) = true := decide_eq_true h0
    rw [t0] at HF
    rcases ov with _ | _
    · go_enter Try.func19, Try.ntmps19
      go_wp2_with (first | (go_at_call 16; refine HV.out.mono ?_; rintro e w' ⟨rfl, rfl⟩) | (go_at_call 17; refine HO.out.mono ?_; rintro e w' ⟨rfl, rfl⟩) | (go_at_call 28; refine HR.out.mono ?_; rintro e w' ⟨rfl, rfl⟩))
      go_ret
      exact ⟨by rw [HF.out]; simp, rfl⟩
    · go_enter Try.func19, Try.ntmps19
      go_wp2_with (go_at_call 16; refine HV.out.mono ?_; rintro e w' ⟨rfl, rfl⟩)
      go_ret
      exact ⟨by rw [HF.out]; rfl, rfl⟩
  · have t0 : decide (0 ≤ i) = false := decide_eq_false h0
    rw [t0] at HF
    go_enter Try.func19, Try.ntmps19
    go_wp2_with fail
    go_ret
    exact ⟨by rw [HF.out]; rfl, rfl⟩
theorem ldfits_nil (w : World) (i x l : Int) : Calls Try.prog 19 #[.pointer none, .int .i64 i, .int .i64 x, .int .i64 l] w fun e w' => e = .returned (.bool false) ∧ w = w' := by
  by_cases h0 : 0 ≤ i
  · have t0 : decide (0 ≤ i) = true := decide_eq_true h0
    go_enter Try.func19, Try.ntmps19
    go_wp2_with (go_at_call 16; refine (ldover_nil _).mono ?_; rintro e w' ⟨rfl, rfl⟩)
    go_ret
    exact ⟨rfl, rfl⟩
  · have t0 : decide (0 ≤ i) = false := decide_eq_false h0
    go_enter Try.func19, Try.ntmps19
    go_wp2_with fail
    go_ret
    exact ⟨rfl, rfl⟩
end Go.Proofs.Yteeihjdkenlebaa
