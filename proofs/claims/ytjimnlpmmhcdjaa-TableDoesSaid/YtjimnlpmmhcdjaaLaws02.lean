/- The laws of addr that hold by what its functions tell. -/
import Derived.Test.YtjimnlpmmhcdjaaPreN
namespace Go.Proofs.Ytjimnlpmmhcdjaa
open Go.RowKit

theorem mk_div (X K : Nat) (hx : X < 4294967296) (hk : K ≤ 32) : mk X K = ((X / 2 ^ (32 - K) * 2 ^ (32 - K) : Nat) : Int) := by
  have hb : bitsOf (K : Int) = K := by unfold bitsOf; rw [if_neg (by omega), if_neg (by omega)]; rfl
  have hp : 2 ^ (32 - K) ≤ 4294967296 := Nat.pow_le_pow_right (n := 2) (by omega) (show 32 - K ≤ 32 by omega)
  have hp0 : 0 < 2 ^ (32 - K) := Nat.pow_pos (by omega)
  unfold mk mask
  rw [hb, u32_and_nat X (4294967296 - 2 ^ (32 - K)) hx (by omega)]
  have := nat_midmask 32 (32 - K) X (by omega)
  rw [show (2 : Nat) ^ 32 = 4294967296 from rfl, Nat.mod_eq_of_lt hx] at this
  rw [this]

theorem div_le' (X p : Nat) : X / 2 ^ p * 2 ^ p ≤ X := Nat.div_mul_le_self X _
theorem nest (X p q : Nat) (h : p ≤ q) : X / 2 ^ p * 2 ^ p / 2 ^ q * 2 ^ q = X / 2 ^ q * 2 ^ q := by
  have e : 2 ^ q = 2 ^ p * 2 ^ (q - p) := by rw [← Nat.pow_add]; congr 1; omega
  have hp0 : 0 < 2 ^ p := Nat.pow_pos (by omega)
  congr 1
  rw [e, ← Nat.div_div_eq_div_mul, Nat.mul_div_cancel _ hp0, Nat.div_div_eq_div_mul]

theorem mk_mk (x n m : Int) (h0 : 0 ≤ x) (h1 : x < 4294967296) (n0 : 0 ≤ n) (hnm : n ≤ m) (m1 : m ≤ 32) : mk (mk x m) n = mk x n := by
  obtain ⟨X, rfl⟩ := Int.eq_ofNat_of_zero_le h0
  obtain ⟨N, rfl⟩ := Int.eq_ofNat_of_zero_le n0
  obtain ⟨M, rfl⟩ := Int.eq_ofNat_of_zero_le (show 0 ≤ m by omega)
  have := div_le' X (32 - M)
  rw [mk_div X M (by omega) (by omega), mk_div _ N (by omega) (by omega), mk_div X N (by omega) (by omega), nest X (32 - M) (32 - N) (by omega)]

theorem cl_len {n : Int} (h : n = cl n) : 0 ≤ n ∧ n ≤ 32 := by
  have := bitsOf_le n
  unfold cl at h; omega

theorem holds_parts {a n x : Int} (h : holdsP a n x = true) : a = mk x n ∧ n = cl n ∧ 0 ≤ n ∧ n ≤ 32 := by
  unfold holdsP at h
  rw [Bool.and_eq_true, beq_iff_eq, beq_iff_eq] at h
  exact ⟨h.1, h.2, cl_len h.2⟩

theorem within_of {a n b m x : Int} (h0 : 0 ≤ x) (h1 : x < 4294967296) (h : holdsP a n x = true) (h' : holdsP b m x = true) (hnm : n ≤ m) : withinP a n b m = true := by
  obtain ⟨ea, ec, n0, n1⟩ := holds_parts h
  obtain ⟨eb, ed, m0, m1⟩ := holds_parts h'
  have e1 : b = mk b m := by rw [eb, mk_mk x m m h0 h1 m0 (Int.le_refl _) m1]
  have e2 : a = mk b n := by rw [eb, mk_mk x n m h0 h1 n0 hnm m1]; exact ea
  unfold withinP okP holdsP
  rw [decide_eq_true e1, decide_eq_true ed, decide_eq_true hnm, beq_iff_eq.2 e2, beq_iff_eq.2 ec]
  rfl
end Go.Proofs.Ytjimnlpmmhcdjaa
