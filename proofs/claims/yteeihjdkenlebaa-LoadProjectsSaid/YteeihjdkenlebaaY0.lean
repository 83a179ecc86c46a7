/- num's capped numbers over the base of addr: Near, Add, Sub, Part, Times, and the document's own. -/
import Derived.Test.YteeihjdkenlebaaAK
import Derived.Deep.RegionHeld3
import Derived.Laws.BitsAllLaws
namespace Go.Proofs.Yteeihjdkenlebaa
open Go.RowKit
set_option linter.unusedVariables false
set_option linter.unusedSimpArgs false

/-- The capped number. -/
def near (n : Int) : Int := if n < 0 then 0 else if 9007199254740991 < n then 9007199254740991 else n
theorem near_lo (n : Int) : 0 ≤ near n := by unfold near; split <;> (try split) <;> omega
theorem near_hi (n : Int) : near n ≤ 9007199254740991 := by unfold near; split <;> (try split) <;> omega
theorem near_id {n : Int} (h : 0 ≤ n) (h' : n ≤ 9007199254740991) : near n = n := by unfold near; rw [if_neg (by omega), if_neg (by omega)]
theorem near_neg {n : Int} (h : n < 0) : near n = 0 := by unfold near; rw [if_pos h]
theorem near_big {n : Int} (h : 9007199254740991 < n) : near n = 9007199254740991 := by unfold near; rw [if_neg (by omega), if_pos h]
theorem near_near (n : Int) : near (near n) = near n := near_id (near_lo n) (near_hi n)

theorem near_any (n : Int) (w : World) :
    Calls Try.prog 42 #[.int .i64 n] w fun e w' => e = .returned (.int .i64 (near n)) ∧ w = w' := by
  rcases Int.lt_or_le n 0 with h | h
  · go_enter Try.func42, Try.ntmps42
    go_wp2
    go_ret
    exact ⟨ret_int (near_neg h).symm, rfl⟩
  · have h0 : ¬ n < 0 := by omega
    rcases Int.lt_or_le 9007199254740991 n with h' | h'
    · go_enter Try.func42, Try.ntmps42
      go_wp2
      go_ret
      exact ⟨ret_int (near_big h').symm, rfl⟩
    · go_enter Try.func42, Try.ntmps42
      go_wp2
      go_ret
      exact ⟨ret_int (near_id h h').symm, rfl⟩

theorem rnear_any (n : Int) (w : World) :
    Calls Try.prog 29 #[.int .i64 n] w fun e w' => e = .returned (.int .i64 (near n)) ∧ w = w' := by
  go_enter Try.func29, Try.ntmps29
  go_wp2
  · go_ret
    exact ⟨ret_int (near_neg ‹_›).symm, rfl⟩
  · go_ret
    exact ⟨ret_int (near_big ‹_›).symm, rfl⟩
  · go_ret
    exact ⟨ret_int (near_id ‹_› ‹_›).symm, rfl⟩

/-- Sums and differences, capped. -/
def add (a b : Int) : Int := near (near a + near b)
def sub (a b : Int) : Int := near (near a - near b)

theorem add_any (a b : Int) (w : World) :
    Calls Try.prog 28 #[.int .i64 a, .int .i64 b] w fun e w' => e = .returned (.int .i64 (add a b)) ∧ w = w' := by
  have a0 := near_lo a; have a1 := near_hi a; have b0 := near_lo b; have b1 := near_hi b
  go_enter Try.func28, Try.ntmps28
  go_wp2_with (go_at_call 42; refine (near_any _ _).mono ?_; rintro e w' ⟨rfl, rfl⟩)
  go_ret
  exact ⟨rfl, rfl⟩
theorem radd_any (a b : Int) (w : World) :
    Calls Try.prog 30 #[.int .i64 a, .int .i64 b] w fun e w' => e = .returned (.int .i64 (add a b)) ∧ w = w' := by
  have a0 := near_lo a; have a1 := near_hi a; have b0 := near_lo b; have b1 := near_hi b
  go_enter Try.func30, Try.ntmps30
  go_wp2_with (go_at_call 29; refine (rnear_any _ _).mono ?_; rintro e w' ⟨rfl, rfl⟩)
  go_ret
  exact ⟨rfl, rfl⟩
theorem sub_any (a b : Int) (w : World) :
    Calls Try.prog 33 #[.int .i64 a, .int .i64 b] w fun e w' => e = .returned (.int .i64 (sub a b)) ∧ w = w' := by
  have a0 := near_lo a; have a1 := near_hi a; have b0 := near_lo b; have b1 := near_hi b
  go_enter Try.func33, Try.ntmps33
  go_wp2_with (go_at_call 42; refine (near_any _ _).mono ?_; rintro e w' ⟨rfl, rfl⟩)
  go_ret
  exact ⟨rfl, rfl⟩
theorem rsub_any (a b : Int) (w : World) :
    Calls Try.prog 34 #[.int .i64 a, .int .i64 b] w fun e w' => e = .returned (.int .i64 (sub a b)) ∧ w = w' := by
  have a0 := near_lo a; have a1 := near_hi a; have b0 := near_lo b; have b1 := near_hi b
  go_enter Try.func34, Try.ntmps34
  go_wp2_with (go_at_call 29; refine (rnear_any _ _).mono ?_; rintro e w' ⟨rfl, rfl⟩)
  go_ret
  exact ⟨rfl, rfl⟩
end Go.Proofs.Yteeihjdkenlebaa
namespace Go.Proofs.Yteeihjdkenlebaa

/-- A times B, divided by C, of numbers that are capped already. -/
def partV (A B C : Int) : Int := if C = 0 then 9007199254740991 else near (A * B / C)
def partQ (a b c : Int) : Int := partV (near a) (near b) (near c)

theorem quo_unique {X C O R : Int} (hC : 1 ≤ C) (h : O * C + R = X) (h0 : 0 ≤ R) (h1 : R < C) : X / C = O := by
  subst h
  rw [Int.add_comm, Int.add_mul_ediv_right _ _ (by omega), Int.ediv_eq_zero_of_lt h0 h1]; omega

theorem mul_bd {x y X Y : Int} (hx : 0 ≤ x) (hX : x ≤ X) (hy : 0 ≤ y) (hY : y ≤ Y) : 0 ≤ x * y ∧ x * y ≤ X * Y :=
  ⟨Int.mul_nonneg hx hy, Int.mul_le_mul hX hY hy (by omega)⟩

/-- One round: what was divided, and one digit D more of base 512. -/
theorem digit_step {A C O R P D : Int} (h : O * C + R = A * P) :
    (O * 512 + A / C * D) * C + (R * 512 + A % C * D) = A * (512 * P + D) := by
  have e : A = A / C * C + A % C := by have := Int.mul_ediv_add_emod A C; rw [Int.mul_comm] at this; omega
  generalize A / C = W at *
  generalize A % C = V at *
  subst e
  grind

theorem step_eq {X Y C : Int} : (X + Y / C) * C + Y % C = X * C + Y := by
  have e := Int.mul_ediv_add_emod Y C
  generalize Y / C = q at *
  generalize Y % C = r at *
  subst e
  grind

theorem quo_bd {R V D C : Int} (hC : 1 ≤ C) (hr0 : 0 ≤ R) (hr1 : R < C) (hv0 : 0 ≤ V) (hv1 : V < C) (hd0 : 0 ≤ D) (hd1 : D ≤ 511) :
    0 ≤ R * 512 + V * D ∧ 0 ≤ (R * 512 + V * D) / C ∧ (R * 512 + V * D) / C ≤ 1023 ∧ R * 512 + V * D ≤ C * 1023 := by
  have h1 := mul_bd hv0 (show V ≤ C - 1 by omega) hd0 hd1
  have h2 : R * 512 + V * D ≤ C * 1023 := by omega
  refine ⟨by omega, Int.ediv_nonneg (by omega) (by omega), ?_, h2⟩
  have := Int.ediv_le_ediv (show 0 < C by omega) h2
  rwa [Int.mul_ediv_cancel_left _ (by omega)] at this

theorem pow_part (B : Int) (j : Nat) (k : Nat) : B / 2 ^ (j + k) = B / 2 ^ j / 2 ^ k := by
  rw [Int.pow_add, Int.ediv_ediv_of_nonneg]
  exact Int.le_of_lt (Int.pow_pos (by omega))

theorem i64_and_nat (a b : Nat) (ha : a < 9223372036854775808) (hb : b < 9223372036854775808) : bits .and .i64 (a : Int) (b : Int) = ((a &&& b : Nat) : Int) := by
  have hx : a &&& b < 2 ^ 63 := Nat.and_lt_two_pow _ (by omega)
  show IntKind.i64.wrap ((BitVec.ofInt 64 (a : Int) &&& BitVec.ofInt 64 (b : Int)).toNat : Int) = _
  rw [BitVec.toNat_and, ofInt_u64 a (by omega), ofInt_u64 b (by omega), IntKind.wrap_i64]
  omega
theorem and511 (q : Int) (h0 : 0 ≤ q) (h1 : q ≤ 9007199254740991) : bits BinOp.and IntKind.i64 q 511 = q % 512 := by
  obtain ⟨n, rfl⟩ := Int.eq_ofNat_of_zero_le h0
  have := i64_and_nat n 511 (by omega) (by omega)
  rw [show n &&& 511 = n % 512 from Nat.and_two_pow_sub_one_eq_mod n 9] at this
  exact this
theorem and1 (q : Int) (h0 : 0 ≤ q) (h1 : q ≤ 9007199254740991) : bits BinOp.and IntKind.i64 q 1 = q % 2 := by
  obtain ⟨n, rfl⟩ := Int.eq_ofNat_of_zero_le h0
  have := i64_and_nat n 1 (by omega) (by omega)
  rw [show n &&& 1 = n % 2 from Nat.and_two_pow_sub_one_eq_mod n 1] at this
  exact this
end Go.Proofs.Yteeihjdkenlebaa
namespace Go.Proofs.Yteeihjdkenlebaa
open Go.RowKit

/-- Only draws of open orders are behind the world. -/
def Drew (w w' : World) : Prop := ∃ n, w' = w.drewN n

theorem part_pos (A B C : Int) (hz : 1 ≤ C) : partV A B C = near (A * B / C) := by unfold partV; rw [if_neg (by omega)]

/-- The loop's relation: j digits are left. -/
def PartRel (A B C : Int) (j : Nat) (O R : Int) : Prop := O * C + R = A * (B / 2 ^ (9 * j))

theorem partRel_end {A B C O R : Int} (hC : 1 ≤ C) (h : PartRel A B C 0 O R) (hr0 : 0 ≤ R) (hr1 : R < C) : A * B / C = O := by
  unfold PartRel at h
  rw [show 9 * 0 = 0 from rfl, Int.pow_zero, Int.ediv_one] at h
  exact quo_unique hC h hr0 hr1

theorem partRel_step {A B C O R q : Int} {j : Nat} (hj : j ≠ 0) (h : PartRel A B C j O R) (hq : B / 2 ^ (9 * j - 9) = q) :
    PartRel A B C (j - 1) (O * 512 + A / C * (q % 512) + (R * 512 + A % C * (q % 512)) / C) ((R * 512 + A % C * (q % 512)) % C) := by
  unfold PartRel at *
  have e : B / 2 ^ (9 * j) = q / 512 := by
    rw [show 9 * j = (9 * j - 9) + 9 from by omega, pow_part, hq]; rfl
  rw [e] at h
  rw [step_eq, digit_step h, show 9 * (j - 1) = 9 * j - 9 from by omega, hq]
  have : 512 * (q / 512) + q % 512 = q := by omega
  rw [this]

theorem partRel_big {A B C O R : Int} {j : Nat} (hA : 0 ≤ A) (hC : 1 ≤ C) (hB : 0 ≤ B) (h : PartRel A B C j O R) (hr0 : 0 ≤ R) (hr1 : R < C) (hO : 9007199254740991 < O) :
    9007199254740991 < A * B / C := by
  have e := quo_unique hC h hr0 hr1
  have hp : (1 : Int) ≤ 2 ^ (9 * j) := Int.pow_pos (by omega)
  have hle : B / 2 ^ (9 * j) ≤ B := Int.ediv_le_self _ hB
  have := Int.ediv_le_ediv (show 0 < C by omega) (Int.mul_le_mul_of_nonneg_left hle hA)
  omega

theorem q_bd {B : Int} {k : Nat} (h0 : 0 ≤ B) (h1 : B ≤ 9007199254740991) : 0 ≤ B / 2 ^ k ∧ B / 2 ^ k ≤ 9007199254740991 := by
  have hp : (0 : Int) < 2 ^ k := Int.pow_pos (by omega)
  exact ⟨Int.ediv_nonneg h0 (Int.le_of_lt hp), Int.le_trans (Int.ediv_le_self _ h0) h1⟩

/-- A product, capped. -/
def times (a b : Int) : Int := near (near a * near b)
theorem part_one (a b : Int) : partQ a b 1 = times a b := by
  unfold partQ partV times
  rw [near_id (n := 1) (by omega) (by omega), if_neg (by omega), Int.ediv_one]
theorem rtimes_big {A B : Int} (h0 : 0 < A) (h : 9007199254740991 / A < B) : 9007199254740991 = near (A * B) := by
  have := (Int.ediv_lt_iff_lt_mul h0).1 h
  rw [near_big (by rw [Int.mul_comm]; exact this)]
theorem rtimes_fits {A B : Int} (hb : 0 ≤ B) (h0 : 0 < A) (h : B ≤ 9007199254740991 / A) : wrap64 (A * B) = near (A * B) := by
  have h1 := (Int.le_ediv_iff_mul_le h0).1 h
  have h2 := Int.mul_nonneg hb (show 0 ≤ A by omega)
  rw [Int.mul_comm] at h1 h2
  rw [near_id h2 h1, IntWalk.wrap64_in _ ⟨by omega, by omega⟩]
theorem bit_step {A B C O R q t : Int} {j : Nat} (hj : j ≠ 0) (h : O * C + R = A / 2 ^ j * B) (hq : A / 2 ^ (j - 1) = q) (ht : q % 2 = t) :
    (O * 2 + (R * 2 + t * B) / C) * C + (R * 2 + t * B) % C = A / 2 ^ (j - 1) * B := by
  have e : A / 2 ^ j = q / 2 := by
    rw [show j = (j - 1) + 1 from by omega, pow_part, hq]; rfl
  rw [e] at h
  rw [step_eq, hq]
  have e2 : q = 2 * (q / 2) + t := by omega
  generalize q / 2 = p at *
  subst e2
  grind
theorem bit_big {A B C O R : Int} {j : Nat} (hA : 0 ≤ A) (hC : 1 ≤ C) (hB : 0 ≤ B) (h : O * C + R = A / 2 ^ j * B) (hr0 : 0 ≤ R) (hr1 : R < C) (hO : 9007199254740991 < O) :
    9007199254740991 < A * B / C := by
  have e := quo_unique hC h hr0 hr1
  have hle : A / 2 ^ j ≤ A := Int.ediv_le_self _ hA
  have := Int.ediv_le_ediv (show 0 < C by omega) (Int.mul_le_mul_of_nonneg_right hle hB)
  omega
end Go.Proofs.Yteeihjdkenlebaa
