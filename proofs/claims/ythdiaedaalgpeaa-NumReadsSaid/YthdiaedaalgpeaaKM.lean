/- num's Mask. -/
import Derived.Test.YthdiaedaalgpeaaK0
namespace Go.Proofs.Ythdiaedaalgpeaa
open Go.RowKit
/-- How many bits, 0 to 32; and the number whose highest ones are 1. -/
def bitsOf (n : Int) : Nat := if n < 0 then 0 else if 32 < n then 32 else n.toNat
def mask (n : Int) : Int := ((4294967296 - 2 ^ (32 - bitsOf n) : Nat) : Int)
theorem bitsOf_le (n : Int) : bitsOf n ≤ 32 := by unfold bitsOf; split <;> (try split) <;> omega
theorem mask_nat : ∀ k : Nat, k < 33 → 4294967295 * 2 ^ (32 - k) % 4294967296 = 4294967296 - 2 ^ (32 - k) := by decide
theorem mask_any (n : Int) (w : World) :
    Calls Try.prog 15 #[.int .i64 n] w fun e w' => e = .returned (.int .u32 (mask n)) ∧ w = w' := by
  rcases Int.lt_or_le n 0 with h | h
  · go_enter Try.func15, Try.ntmps15
    go_wp2
    go_ret
    exact ⟨ret_int (by unfold mask bitsOf; rw [if_pos h]; rfl), rfl⟩
  · have h0 : ¬ n < 0 := by omega
    rcases Int.lt_or_le 32 n with h' | h'
    · go_enter Try.func15, Try.ntmps15
      go_wp2
      go_ret
      exact ⟨ret_int (by unfold mask bitsOf; rw [if_neg (by omega), if_pos h']; rfl), rfl⟩
    · have e : (4294967295 * 2 ^ (32 - n).toNat % 4294967296 : Int) = mask n := by
        have := mask_nat n.toNat (by omega)
        unfold mask bitsOf
        rw [if_neg h0, if_neg (by omega), ← this, show (32 - n).toNat = 32 - n.toNat from by omega]
        simp
      have E := Lib.hid e; clear e
      go_enter Try.func15, Try.ntmps15
      go_wp2
      go_ret
      exact ⟨ret_int E.out, rfl⟩
end Go.Proofs.Ythdiaedaalgpeaa
