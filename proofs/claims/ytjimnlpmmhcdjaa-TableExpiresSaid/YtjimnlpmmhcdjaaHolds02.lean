/- 'AddrHolds': the prefix of any length that holds an address; its halves. -/
import Derived.Test.YtjimnlpmmhcdjaaLaws02
import Derived.RegionTactic
import Derived.BigRegion
namespace Go.Proofs.Ytjimnlpmmhcdjaa
open Go.RowKit

theorem halves (A N : Nat) (hn : N ≤ 31) :
    A / 2 ^ (31 - N) * 2 ^ (31 - N) = A / 2 ^ (32 - N) * 2 ^ (32 - N) + A / 2 ^ (31 - N) % 2 * 2 ^ (31 - N) := by
  have e : 2 ^ (32 - N) = 2 ^ (31 - N) * 2 := by rw [← Nat.pow_succ]; congr 1; omega
  rw [e, ← Nat.div_div_eq_div_mul]
  generalize 2 ^ (31 - N) = p
  generalize A / p = X
  have := Nat.div_add_mod X 2
  calc X * p = (2 * (X / 2) + X % 2) * p := by rw [this]
    _ = X / 2 * (p * 2) + X % 2 * p := by rw [Nat.add_mul]; congr 1; rw [Nat.mul_comm 2, Nat.mul_assoc, Nat.mul_comm 2]

/-- What the law's prefixes are, and how they stand to each other. -/
def Halves (a n P H : Int) : Prop :=
  mk a n = P ∧ cl n = n ∧ bits .or .u32 P (2 ^ (31 - n).toNat) = H ∧ okP P n = true ∧ holdsP P n a = true ∧ holdsP P (n + 1) a = !decide (bitP a n = 1) ∧
  holdsP H (n + 1) a = decide (bitP a n = 1) ∧ withinP P n P (n + 1) = true ∧ withinP P n H (n + 1) = true

theorem pow_cast (k : Nat) : (2 : Int) ^ k = ((2 ^ k : Nat) : Int) := (Int.natCast_pow 2 k).symm
theorem div_mod_cast (A p : Nat) : (A : Int) / (p : Int) % 2 = ((A / p % 2 : Nat) : Int) := by simp

theorem halves_of (a n : Int) (h0 : 0 ≤ a) (h1 : a < 4294967296) (n0 : 0 ≤ n) (n1 : n ≤ 31) : ∃ P H, Halves a n P H := by
  obtain ⟨A, rfl⟩ := Int.eq_ofNat_of_zero_le h0
  obtain ⟨N, rfl⟩ := Int.eq_ofNat_of_zero_le n0
  have hp : 0 < 2 ^ (31 - N) := Nat.pow_pos (by omega)
  have hpb : 2 ^ (31 - N) ≤ 2147483648 := Nat.pow_le_pow_right (n := 2) (by omega) (show 31 - N ≤ 31 by omega)
  have e2 : 2 ^ (32 - N) = 2 ^ (31 - N) * 2 := by rw [← Nat.pow_succ]; congr 1; omega
  have eq1 : 32 - (N + 1) = 31 - N := by omega
  have et : ((31 : Int) - N).toNat = 31 - N := by omega
  have hcl : cl (N : Int) = N := by unfold cl bitsOf; rw [if_neg (by omega), if_neg (by omega)]; rfl
  have hcl1 : cl ((N : Int) + 1) = N + 1 := by unfold cl bitsOf; rw [if_neg (by omega), if_neg (by omega)]; omega
  have hmk : ∀ X : Nat, X < 4294967296 → mk X N = ((X / 2 ^ (32 - N) * 2 ^ (32 - N) : Nat) : Int) := fun X hX => mk_div X N hX (by omega)
  have hmk1 : ∀ X : Nat, X < 4294967296 → mk X (N + 1) = ((X / 2 ^ (31 - N) * 2 ^ (31 - N) : Nat) : Int) := fun X hX => by have := mk_div X (N + 1) hX (by omega); rwa [eq1] at this
  have hbit : bitP (A : Int) N = ((A / 2 ^ (31 - N) % 2 : Nat) : Int) := by
    unfold bitP
    rw [if_neg (by omega), if_neg (by omega), et, pow_cast, div_mod_cast]
  have hh := halves A N (by omega)
  have hle1 := div_le' A (31 - N)
  have hle := div_le' A (32 - N)
  have hb2 : A / 2 ^ (31 - N) % 2 < 2 := Nat.mod_lt _ (by omega)
  have hor := nat_join (32 - N) (A / 2 ^ (32 - N) * 2 ^ (32 - N)) (2 ^ (31 - N)) (Nat.mul_mod_left _ _) (by omega)
  have q0 : 0 < 2 ^ (32 - N) := Nat.pow_pos (by omega)
  have hpw : 2 ^ N * 2 ^ (32 - N) = 4294967296 := by rw [← Nat.pow_add, show N + (32 - N) = 32 by omega]
  have hQ : A / 2 ^ (32 - N) < 2 ^ N := Nat.div_lt_of_lt_mul (by rw [Nat.mul_comm, hpw]; omega)
  generalize hq : A / 2 ^ (32 - N) = Q at hh hle hor hQ
  have hQ2 : (Q + 1) * 2 ^ (32 - N) ≤ 2 ^ N * 2 ^ (32 - N) := Nat.mul_le_mul_right _ hQ
  rw [hpw, Nat.add_mul, Nat.one_mul] at hQ2
  have dP : Q * 2 ^ (32 - N) / 2 ^ (32 - N) = Q := Nat.mul_div_cancel _ q0
  have dP1 : Q * 2 ^ (32 - N) / 2 ^ (31 - N) * 2 ^ (31 - N) = Q * 2 ^ (32 - N) := by rw [e2, ← Nat.mul_assoc, Nat.mul_right_comm, Nat.mul_div_cancel _ hp]
  have dH : (Q * 2 ^ (32 - N) + 2 ^ (31 - N)) / 2 ^ (32 - N) = Q := by
    rw [Nat.add_comm, Nat.add_mul_div_right _ _ q0, Nat.div_eq_of_lt (by omega)]; omega
  have dH1 : (Q * 2 ^ (32 - N) + 2 ^ (31 - N)) / 2 ^ (31 - N) * 2 ^ (31 - N) = Q * 2 ^ (32 - N) + 2 ^ (31 - N) := by
    rw [show Q * 2 ^ (32 - N) + 2 ^ (31 - N) = (Q * 2 + 1) * 2 ^ (31 - N) by rw [e2, Nat.add_mul, Nat.one_mul, Nat.mul_assoc, Nat.mul_comm 2], Nat.mul_div_cancel _ hp]
  refine ⟨((Q * 2 ^ (32 - N) : Nat) : Int), ((Q * 2 ^ (32 - N) + 2 ^ (31 - N) : Nat) : Int), ?_, hcl, ?_, ?_, ?_, ?_, ?_, ?_, ?_⟩
  · rw [hmk A (by omega), hq]
  · rw [et, pow_cast, u32_or_nat _ _ (by omega) (by omega), hor]
  · unfold okP
    rw [hmk _ (by omega), dP, hcl]; simp
  · unfold holdsP
    rw [hmk A (by omega), hq, hcl]; simp
  · unfold holdsP
    rw [hmk1 A (by omega), hcl1, hh, hbit]
    generalize A / 2 ^ (31 - N) % 2 = B at hb2
    generalize 2 ^ (31 - N) = p1 at hp
    generalize Q * 2 ^ (32 - N) = X
    have hB : B = 0 ∨ B = 1 := by omega
    rcases hB with rfl | rfl
    · simp
    · have : ((X : Nat) : Int) ≠ ((X + 1 * p1 : Nat) : Int) := by omega
      simp only [beq_eq_false_iff_ne.2 this]; simp
  · unfold holdsP
    rw [hmk1 A (by omega), hcl1, hh, hbit]
    generalize A / 2 ^ (31 - N) % 2 = B at hb2
    generalize 2 ^ (31 - N) = p1 at hp
    generalize Q * 2 ^ (32 - N) = X
    have hB : B = 0 ∨ B = 1 := by omega
    rcases hB with rfl | rfl
    · have : ((X + p1 : Nat) : Int) ≠ ((X + 0 * p1 : Nat) : Int) := by omega
      simp only [beq_eq_false_iff_ne.2 this]; simp
    · simp
  · unfold withinP okP holdsP
    rw [hmk1 _ (by omega), dP1, hcl1, hmk _ (by omega), dP, hcl]; simp; omega
  · unfold withinP okP holdsP
    rw [hmk1 _ (by omega), dH1, hcl1, hmk _ (by omega), dH, hcl]; simp; omega
end Go.Proofs.Ytjimnlpmmhcdjaa
