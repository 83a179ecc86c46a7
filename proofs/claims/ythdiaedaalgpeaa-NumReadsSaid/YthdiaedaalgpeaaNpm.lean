/- Plain arithmetic of Part: long division, digit by digit. -/
import Derived.Test.YthdiaedaalgpeaaNn
import Derived.Laws.BitsAllLaws
namespace Go.Proofs.Ythdiaedaalgpeaa

/-- A times B, divided by C, of numbers that are capped already. -/
def partV (A B C : Int) : Int := if C = 0 then 9007199254740991 else near (A * B / C)
def part (a b c : Int) : Int := partV (near a) (near b) (near c)

theorem quo_unique {X C O R : Int} (hC : 1 ≤ C) (h : O * C + R = X) (h0 : 0 ≤ R) (h1 : R < C) : X / C = O := by
  subst h
  rw [Int.add_comm, Int.add_mul_ediv_right _ _ (by omega), Int.ediv_eq_zero_of_lt h0 h1]; omega

theorem mul_bd {x y X Y : Int} (hx : 0 ≤ x) (hX : x ≤ X) (hy : 0 ≤ y) (hY : y ≤ Y) : 0 ≤ x * y ∧ x * y ≤ X * Y :=
  ⟨Int.mul_nonneg hx hy, Int.mul_le_mul hX hY hy (by omega)⟩

/-- One round: what was divided, and one digit D more of base 512. -/
theorem digit_step {A C O R P D : Int} (h : O * C + R = A * P) :
    (O * 512 + A / C * D) * C + (R * 512 + A % C * D) = A * (512 * P + D) := by
  have e : A = A / C * C + A % C := by have := Int.mul_ediv_add_emod A C; rw [Int.mul_comm] at this; omega
  generalize A / C = W at *
  generalize A % C = V at *
  subst e
  grind

theorem step_eq {X Y C : Int} : (X + Y / C) * C + Y % C = X * C + Y := by
  have e := Int.mul_ediv_add_emod Y C
  generalize Y / C = q at *
  generalize Y % C = r at *
  subst e
  grind

theorem quo_bd {R V D C : Int} (hC : 1 ≤ C) (hr0 : 0 ≤ R) (hr1 : R < C) (hv0 : 0 ≤ V) (hv1 : V < C) (hd0 : 0 ≤ D) (hd1 : D ≤ 511) :
    0 ≤ R * 512 + V * D ∧ 0 ≤ (R * 512 + V * D) / C ∧ (R * 512 + V * D) / C ≤ 1023 ∧ R * 512 + V * D ≤ C * 1023 := by
  have h1 := mul_bd hv0 (show V ≤ C - 1 by omega) hd0 hd1
  have h2 : R * 512 + V * D ≤ C * 1023 := by omega
  refine ⟨by omega, Int.ediv_nonneg (by omega) (by omega), ?_, h2⟩
  have := Int.ediv_le_ediv (show 0 < C by omega) h2
  rwa [Int.mul_ediv_cancel_left _ (by omega)] at this

theorem pow_part (B : Int) (j : Nat) (k : Nat) : B / 2 ^ (j + k) = B / 2 ^ j / 2 ^ k := by
  rw [Int.pow_add, Int.ediv_ediv_of_nonneg]
  exact Int.le_of_lt (Int.pow_pos (by omega))

theorem i64_and_nat (a b : Nat) (ha : a < 9223372036854775808) (hb : b < 9223372036854775808) : bits .and .i64 (a : Int) (b : Int) = ((a &&& b : Nat) : Int) := by
  have hx : a &&& b < 2 ^ 63 := Nat.and_lt_two_pow _ (by omega)
  show IntKind.i64.wrap ((BitVec.ofInt 64 (a : Int) &&& BitVec.ofInt 64 (b : Int)).toNat : Int) = _
  rw [BitVec.toNat_and, ofInt_u64 a (by omega), ofInt_u64 b (by omega), IntKind.wrap_i64]
  omega
theorem and511 (q : Int) (h0 : 0 ≤ q) (h1 : q ≤ 9007199254740991) : bits BinOp.and IntKind.i64 q 511 = q % 512 := by
  obtain ⟨n, rfl⟩ := Int.eq_ofNat_of_zero_le h0
  have := i64_and_nat n 511 (by omega) (by omega)
  rw [show n &&& 511 = n % 512 from Nat.and_two_pow_sub_one_eq_mod n 9] at this
  exact this
theorem and1 (q : Int) (h0 : 0 ≤ q) (h1 : q ≤ 9007199254740991) : bits BinOp.and IntKind.i64 q 1 = q % 2 := by
  obtain ⟨n, rfl⟩ := Int.eq_ofNat_of_zero_le h0
  have := i64_and_nat n 1 (by omega) (by omega)
  rw [show n &&& 1 = n % 2 from Nat.and_two_pow_sub_one_eq_mod n 1] at this
  exact this
end Go.Proofs.Ythdiaedaalgpeaa
