/- load: Fits. -/
import Derived.Test.YtcofjjlnaepjcaaE3
namespace Go.Proofs.Ytcofjjlnaepjcaa
open Go.RowKit Go.Maps
set_option linter.unusedVariables false
set_option linter.unusedSimpArgs false
set_option maxRecDepth 100000

def fitsV (f : Int → Option Int) (ov : Bool) (i x l : Int) : Bool := decide (0 ≤ i) && !ov && decide ((f i).getD 0 + near x ≤ l)
theorem ldfits_any (w : World) (g b n s : Nat) (f : Int → Option Int) (ov : Bool) (H : LdAt w g b n s f ov) (i x l : Int) (hi : (Lit.int .i64 i).wf = true) :
    Calls Try.prog 20 #[.pointer (some ⟨g, 0, none⟩), .int .i64 i, .int .i64 x, .int .i64 l] w fun e w' => e = .returned (.bool (fitsV f ov i x l)) ∧ w = w' := by
  have HV := Lib.hid (ldover_any w g b n s f ov H)
  have HO := Lib.hid (ldof_any w g b n s f ov H i hi)
  have HR := Lib.hid (near_any x w)
  have hb := loadV_bd H.ok i
  have hn0 := near_lo x
  have hn1 := near_hi x
  obtain ⟨v, hv⟩ : ∃ v, (f i).getD 0 = v := ⟨_, rfl⟩
  obtain ⟨y, hy⟩ : ∃ y, near x = y := ⟨_, rfl⟩
  rw [hv] at HO hb
  rw [hy] at HR hn0 hn1
  have HF := Lib.hid (show fitsV f ov i x l = (decide (0 ≤ i) && !ov && decide (v + y ≤ l)) from by unfold fitsV; rw [hv, hy])
  clear hv hy H
  by_cases h0 : 0 ≤ i
  · have t0 : decide (0 ≤ i) = true := decide_eq_true h0
    rw [t0] at HF
    rcases ov with _ | _
    · go_enter Try.func20, Try.ntmps20
      go_wp2_with (first | (go_at_call 12; refine HV.out.mono ?_; rintro e w' ⟨rfl, rfl⟩) | (go_at_call 18; refine HO.out.mono ?_; rintro e w' ⟨rfl, rfl⟩) | (go_at_call 33; refine HR.out.mono ?_; rintro e w' ⟨rfl, rfl⟩))
      go_ret
      exact ⟨by rw [HF.out]; simp, rfl⟩
    · go_enter Try.func20, Try.ntmps20
      go_wp2_with (go_at_call 12; refine HV.out.mono ?_; rintro e w' ⟨rfl, rfl⟩)
      go_ret
      exact ⟨by rw [HF.out]; rfl, rfl⟩
  · have t0 : decide (0 ≤ i) = false := decide_eq_false h0
    rw [t0] at HF
    go_enter Try.func20, Try.ntmps20
    go_wp2_with fail
    go_ret
    exact ⟨by rw [HF.out]; rfl, rfl⟩
theorem ldfits_nil (w : World) (i x l : Int) : Calls Try.prog 20 #[.pointer none, .int .i64 i, .int .i64 x, .int .i64 l] w fun e w' => e = .returned (.bool false) ∧ w = w' := by
  by_cases h0 : 0 ≤ i
  · have t0 : decide (0 ≤ i) = true := decide_eq_true h0
    go_enter Try.func20, Try.ntmps20
    go_wp2_with (go_at_call 12; refine (ldover_nil _).mono ?_; rintro e w' ⟨rfl, rfl⟩)
    go_ret
    exact ⟨rfl, rfl⟩
  · have t0 : decide (0 ≤ i) = false := decide_eq_false h0
    go_enter Try.func20, Try.ntmps20
    go_wp2_with fail
    go_ret
    exact ⟨rfl, rfl⟩
end Go.Proofs.Ytcofjjlnaepjcaa
