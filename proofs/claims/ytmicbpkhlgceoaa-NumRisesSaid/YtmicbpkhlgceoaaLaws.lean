/- The walks of num's laws of numbers alone. -/
import Derived.Test.YtmicbpkhlgceoaaLives
namespace Go.Proofs.Ytmicbpkhlgceoaa
open Go.RowKit

theorem sums_walk (a b : Int) (w : World) :
    Calls Try.prog 5 #[.int .i64 a, .int .i64 b] w fun e w' => e = .returned (.bool true) ∧ Below w.heap.size w w' := by
  go_enter Try.func5, Try.ntmps5
  go_wp2_with fail
  refine (lives_any _).mono ?_; rintro e w1 ⟨rfl, hb⟩
  have HB := Lib.hid hb
  clear hb
  go_wp2_with fail
  refine (near_any _ _).mono ?_; rintro e w' ⟨rfl, rfl⟩
  go_wp2_with fail
  refine (rnear_any _ _).mono ?_; rintro e w' ⟨rfl, rfl⟩
  go_wp2_with fail
  refine (add_any _ _ _).mono ?_; rintro e w' ⟨rfl, rfl⟩
  go_wp2_with fail
  refine (radd_any _ _ _).mono ?_; rintro e w' ⟨rfl, rfl⟩
  go_wp2_with fail
  refine (sub_any _ _ _).mono ?_; rintro e w' ⟨rfl, rfl⟩
  go_wp2_with fail
  refine (rsub_any _ _ _).mono ?_; rintro e w' ⟨rfl, rfl⟩
  go_wp2_with fail
  refine (times_any _ _ _).mono ?_; rintro e w' ⟨rfl, n1, rfl⟩
  go_wp2_with fail
  refine (rtimes_any _ _ _).mono ?_; rintro e w' ⟨rfl, n2, rfl⟩
  go_wp2_with fail
  go_ret
  exact ⟨rfl, by first | exact below_drewN (below_drewN HB.out _) _ | exact below_drewN HB.out _⟩

theorem parts_walk (a b c n : Int) (w : World) :
    Calls Try.prog 6 #[.int .i64 a, .int .i64 b, .int .i64 c, .int .i64 n] w fun e w' => e = .returned (.bool true) ∧ Below w.heap.size w w' := by
  go_enter Try.func6, Try.ntmps6
  go_wp2_with fail
  refine (lives_any _).mono ?_; rintro e w1 ⟨rfl, hb⟩
  have HB := Lib.hid hb
  clear hb
  go_wp2_with fail
  refine (part_any _ _ _ _).mono ?_; rintro e w' ⟨rfl, n1, rfl⟩
  go_wp2_with fail
  refine (rpart_any _ _ _ _).mono ?_; rintro e w' ⟨rfl, n2, rfl⟩
  go_wp2_with fail
  refine (mask_any _ _).mono ?_; rintro e w' ⟨rfl, rfl⟩
  go_wp2_with fail
  refine (rmask_any _ _).mono ?_; rintro e w' ⟨rfl, rfl⟩
  go_wp2_with fail
  go_ret
  exact ⟨rfl, by first | exact below_drewN (below_drewN HB.out _) _ | exact below_drewN HB.out _⟩

theorem add_comm' (a c : Int) : add c a = add a c := by unfold add; rw [Int.add_comm]
theorem times_comm' (a c : Int) : times c a = times a c := by unfold times; rw [Int.mul_comm]
theorem near_mono {a b : Int} (h : a ≤ b) : near a ≤ near b := by unfold near; split <;> (try split) <;> (try split) <;> (try split) <;> omega
theorem add_mono {a b c : Int} (h : a ≤ b) : add a c ≤ add b c := near_mono (by have := near_mono h; omega)
theorem times_mono {a b c : Int} (h : a ≤ b) : times a c ≤ times b c := near_mono (Int.mul_le_mul_of_nonneg_right (near_mono h) (near_lo c))
theorem sub_zero' {a b : Int} (h : a ≤ b) : sub (add a 0) b = 0 := by
  have h0 : add a 0 = near a := by unfold add; rw [show near 0 = 0 from rfl, Int.add_zero, near_near]
  have := near_mono h
  rw [h0]; unfold sub; rw [near_near]
  rcases Int.lt_or_le (near a) (near b) with h1 | h1
  · exact near_neg (by omega)
  · rw [show near a - near b = 0 from by omega]; rfl

theorem rises_walk (a b c : Int) (w : World) :
    Calls Try.prog 7 #[.int .i64 a, .int .i64 b, .int .i64 c] w fun e w' => e = .returned (.bool true) ∧ Below w.heap.size w w' := by
  by_cases hab : a > b
  · go_enter Try.func7, Try.ntmps7
    go_wp2_with fail
    refine (lives_any _).mono ?_; rintro e w1 ⟨rfl, hb⟩
    have HB := Lib.hid hb
    clear hb
    go_wp2_with fail
    go_ret
    exact ⟨rfl, HB.out⟩
  · have hab' : a ≤ b := by omega
    have c1 := add_comm' a c
    have c2 := times_comm' a c
    have h3 := add_mono (c := c) hab'
    have h4 := times_mono (c := c) hab'
    have h5 := sub_zero' hab'
    have HC1 := Lib.hid c1; have HC2 := Lib.hid c2; have H5 := Lib.hid h5
    clear c1 c2 h5
    go_enter Try.func7, Try.ntmps7
    go_wp2_with fail
    refine (lives_any _).mono ?_; rintro e w1 ⟨rfl, hb⟩
    have HB := Lib.hid hb
    clear hb
    go_wp2_with fail
    refine (add_any _ _ _).mono ?_; rintro e w' ⟨rfl, rfl⟩
    go_wp2_with fail
    refine (add_any _ _ _).mono ?_; rintro e w' ⟨rfl, rfl⟩
    rw [HC1.out]
    go_wp2_with fail
    refine (times_any _ _ _).mono ?_; rintro e w' ⟨rfl, n1, rfl⟩
    go_wp2_with fail
    refine (times_any _ _ _).mono ?_; rintro e w' ⟨rfl, n2, rfl⟩
    rw [HC2.out]
    go_wp2_with fail
    refine (add_any _ _ _).mono ?_; rintro e w' ⟨rfl, rfl⟩
    go_wp2_with fail
    refine (add_any _ _ _).mono ?_; rintro e w' ⟨rfl, rfl⟩
    go_wp2_with fail
    refine (times_any _ _ _).mono ?_; rintro e w' ⟨rfl, n3, rfl⟩
    go_wp2_with fail
    refine (times_any _ _ _).mono ?_; rintro e w' ⟨rfl, n4, rfl⟩
    go_wp2_with fail
    refine (add_any _ _ _).mono ?_; rintro e w' ⟨rfl, rfl⟩
    go_wp2_with fail
    refine (sub_any _ _ _).mono ?_; rintro e w' ⟨rfl, rfl⟩
    rw [H5.out]
    go_wp2_with fail
    go_ret
    exact ⟨rfl, by repeat (first | exact HB.out | refine below_drewN ?_ _)⟩
end Go.Proofs.Ytmicbpkhlgceoaa
