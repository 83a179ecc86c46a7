/- nlri: its own order. -/
import Derived.Test.YtgmcjejgginpjaaNl8
import Derived.Deep.RegionHeldLaw
namespace Go.Proofs.Ytgmcjejgginpjaa
open Go.RowKit

def cmpI (i j : Int) : Int := if i < j then -1 else if j < i then 1 else 0
theorem nan_any (x : Int) (w : World) : Calls Try.prog 48 #[.int .i64 x] w fun e w' => e = .returned (.bool false) ∧ w = w' := by
  have t0 : (x != x) = false := by simp
  go_enter Try.func48, Try.ntmps48
  go_wp2
  go_ret
  exact ⟨by first | rfl | (rw [t0]), rfl⟩
theorem cmpI_any (i j : Int) (w : World) : Calls Try.prog 36 #[.int .i64 i, .int .i64 j] w fun e w' => e = .returned (.int .i64 (cmpI i j)) ∧ w = w' := by
  have H := fun x => Lib.hid (nan_any x w)
  by_cases h1 : i < j
  · have t1 : decide (i < j) = true := by simpa using h1
    rw [show cmpI i j = -1 from if_pos h1]
    go_enter Try.func36, Try.ntmps36
    go_wp2_with (go_at_call 48; refine (H _).out.mono ?_; rintro e w' ⟨rfl, rfl⟩)
    go_ret
    exact ⟨rfl, rfl⟩
  · have t1 : decide (i < j) = false := by simpa using h1
    by_cases h2 : j < i
    · have t2 : decide (j < i) = true := by simpa using h2
      rw [show cmpI i j = 1 from (if_neg h1).trans (if_pos h2)]
      go_enter Try.func36, Try.ntmps36
      go_wp2_with (go_at_call 48; refine (H _).out.mono ?_; rintro e w' ⟨rfl, rfl⟩)
      go_ret
      exact ⟨rfl, rfl⟩
    · have t2 : decide (j < i) = false := by simpa using h2
      rw [show cmpI i j = 0 from (if_neg h1).trans (if_neg h2)]
      go_enter Try.func36, Try.ntmps36
      go_wp2_with (go_at_call 48; refine (H _).out.mono ?_; rintro e w' ⟨rfl, rfl⟩)
      go_ret
      exact ⟨rfl, rfl⟩
theorem or2_any (C D : Int) (g : Nat) (w : World) (c0 : w.cell? ⟨g, 0, none⟩ = some (.int .i64 C)) (c1 : w.cell? ⟨g, 1, none⟩ = some (.int .i64 D)) :
    Calls Try.prog 34 #[.slice (some ⟨g, 0, none⟩) 2 2] w fun e w' => e = .returned (.int .i64 (if C ≠ 0 then C else D)) ∧ w = w' := by
  obtain ⟨E, hE⟩ : ∃ E, (if C ≠ 0 then C else D) = E := ⟨_, rfl⟩
  rw [hE]
  have HE := Lib.hid hE
  clear hE
  go_enter Try.func34, Try.ntmps34
  go_wp2_with fail
  go_loop [8] (fun v => v = .int .i64 0 ∨ (v = .int .i64 1 ∧ C = 0) ∨ (v = .int .i64 2 ∧ C = 0 ∧ D = 0)) (fun v => 2 - (intOf v).toNat)
  case atStart => exact .inl rfl
  case round =>
    rcases hrel with rfl | ⟨rfl, hC⟩ | ⟨rfl, hC, hD⟩
    · by_cases h : C = 0
      · have t0 : (C != 0) = false := by simpa using h
        go_wp2_with fail
        go_round
        case rel => exact .inr (.inl ⟨by first | rfl | go_num, h⟩)
        case measure => simp [intOf]
      · have t0 : (C != 0) = true := by simpa using h
        have HEE := Lib.hid (show E = C by rw [← HE.out, if_pos h])
        go_wp2_with fail
        go_ret
        exact ⟨by rw [HEE.out] <;> rfl, rfl⟩
    · by_cases h : D = 0
      · have t0 : (D != 0) = false := by simpa using h
        go_wp2_with fail
        go_round
        case rel => exact .inr (.inr ⟨by first | rfl | go_num, hC, h⟩)
        case measure => simp [intOf]
      · have t0 : (D != 0) = true := by simpa using h
        have HEE := Lib.hid (show E = D by rw [← HE.out, if_neg (fun hn => hn hC)])
        go_wp2_with fail
        go_ret
        exact ⟨by rw [HEE.out] <;> rfl, rfl⟩
    · have HEE := Lib.hid (show E = 0 by rw [← HE.out, if_neg (fun hn => hn hC), hD])
      go_wp2_with fail
      go_ret
      exact ⟨by rw [HEE.out] <;> rfl, rfl⟩
end Go.Proofs.Ytgmcjejgginpjaa
