/- Contracts of num's capped numbers: Near, Add, Sub, Mask, and the document's own beside them. -/
import Derived.Test.YtmicbpkhlgceoaaRows
import Derived.WalkKit
import Derived.WalkSpells
import Derived.WalkLawsBesides
import Derived.Outline
import Derived.Lib.Hide
import Derived.Deep.QuietTactic
import Derived.BigQuiet
import Derived.Deep.DeepCutAuto
import Derived.Deep.RegionHeld3
import Derived.Deep.DeepMust
import Derived.IntWalk
namespace Go.Proofs.Ytmicbpkhlgceoaa
open Go.RowKit

theorem ret_int {k : IntKind} {a b : Int} (h : a = b) : Ending.returned (.int k a) = .returned (.int k b) := by rw [h]
theorem ret_bool {a b : Bool} (h : a = b) : Ending.returned (.bool a) = .returned (.bool b) := by rw [h]

/-- The capped number. -/
def near (n : Int) : Int := if n < 0 then 0 else if 9007199254740991 < n then 9007199254740991 else n
theorem near_lo (n : Int) : 0 ≤ near n := by unfold near; split <;> (try split) <;> omega
theorem near_hi (n : Int) : near n ≤ 9007199254740991 := by unfold near; split <;> (try split) <;> omega
theorem near_id {n : Int} (h : 0 ≤ n) (h' : n ≤ 9007199254740991) : near n = n := by unfold near; rw [if_neg (by omega), if_neg (by omega)]
theorem near_neg {n : Int} (h : n < 0) : near n = 0 := by unfold near; rw [if_pos h]
theorem near_big {n : Int} (h : 9007199254740991 < n) : near n = 9007199254740991 := by unfold near; rw [if_neg (by omega), if_pos h]
theorem near_near (n : Int) : near (near n) = near n := near_id (near_lo n) (near_hi n)

theorem near_any (n : Int) (w : World) :
    Calls Try.prog 24 #[.int .i64 n] w fun e w' => e = .returned (.int .i64 (near n)) ∧ w = w' := by
  rcases Int.lt_or_le n 0 with h | h
  · go_enter Try.func24, Try.ntmps24
    go_wp2
    go_ret
    exact ⟨ret_int (near_neg h).symm, rfl⟩
  · have h0 : ¬ n < 0 := by omega
    rcases Int.lt_or_le 9007199254740991 n with h' | h'
    · go_enter Try.func24, Try.ntmps24
      go_wp2
      go_ret
      exact ⟨ret_int (near_big h').symm, rfl⟩
    · go_enter Try.func24, Try.ntmps24
      go_wp2
      go_ret
      exact ⟨ret_int (near_id h h').symm, rfl⟩

theorem rnear_any (n : Int) (w : World) :
    Calls Try.prog 25 #[.int .i64 n] w fun e w' => e = .returned (.int .i64 (near n)) ∧ w = w' := by
  go_enter Try.func25, Try.ntmps25
  go_wp2
  · go_ret
    exact ⟨ret_int (near_neg ‹_›).symm, rfl⟩
  · go_ret
    exact ⟨ret_int (near_big ‹_›).symm, rfl⟩
  · go_ret
    exact ⟨ret_int (near_id ‹_› ‹_›).symm, rfl⟩

/-- Sums and differences, capped. -/
def add (a b : Int) : Int := near (near a + near b)
def sub (a b : Int) : Int := near (near a - near b)

theorem add_any (a b : Int) (w : World) :
    Calls Try.prog 26 #[.int .i64 a, .int .i64 b] w fun e w' => e = .returned (.int .i64 (add a b)) ∧ w = w' := by
  have a0 := near_lo a; have a1 := near_hi a; have b0 := near_lo b; have b1 := near_hi b
  go_enter Try.func26, Try.ntmps26
  go_wp2_with (go_at_call 24; refine (near_any _ _).mono ?_; rintro e w' ⟨rfl, rfl⟩)
  go_ret
  exact ⟨rfl, rfl⟩
theorem radd_any (a b : Int) (w : World) :
    Calls Try.prog 27 #[.int .i64 a, .int .i64 b] w fun e w' => e = .returned (.int .i64 (add a b)) ∧ w = w' := by
  have a0 := near_lo a; have a1 := near_hi a; have b0 := near_lo b; have b1 := near_hi b
  go_enter Try.func27, Try.ntmps27
  go_wp2_with (go_at_call 25; refine (rnear_any _ _).mono ?_; rintro e w' ⟨rfl, rfl⟩)
  go_ret
  exact ⟨rfl, rfl⟩
theorem sub_any (a b : Int) (w : World) :
    Calls Try.prog 28 #[.int .i64 a, .int .i64 b] w fun e w' => e = .returned (.int .i64 (sub a b)) ∧ w = w' := by
  have a0 := near_lo a; have a1 := near_hi a; have b0 := near_lo b; have b1 := near_hi b
  go_enter Try.func28, Try.ntmps28
  go_wp2_with (go_at_call 24; refine (near_any _ _).mono ?_; rintro e w' ⟨rfl, rfl⟩)
  go_ret
  exact ⟨rfl, rfl⟩
theorem rsub_any (a b : Int) (w : World) :
    Calls Try.prog 29 #[.int .i64 a, .int .i64 b] w fun e w' => e = .returned (.int .i64 (sub a b)) ∧ w = w' := by
  have a0 := near_lo a; have a1 := near_hi a; have b0 := near_lo b; have b1 := near_hi b
  go_enter Try.func29, Try.ntmps29
  go_wp2_with (go_at_call 25; refine (rnear_any _ _).mono ?_; rintro e w' ⟨rfl, rfl⟩)
  go_ret
  exact ⟨rfl, rfl⟩

/-- How many bits, 0 to 32; and the number whose highest ones are 1. -/
def bitsOf (n : Int) : Nat := if n < 0 then 0 else if 32 < n then 32 else n.toNat
def mask (n : Int) : Int := ((4294967296 - 2 ^ (32 - bitsOf n) : Nat) : Int)
theorem bitsOf_le (n : Int) : bitsOf n ≤ 32 := by unfold bitsOf; split <;> (try split) <;> omega
theorem mask_nat : ∀ k : Nat, k < 33 → 4294967295 * 2 ^ (32 - k) % 4294967296 = 4294967296 - 2 ^ (32 - k) := by decide
theorem mask_any (n : Int) (w : World) :
    Calls Try.prog 34 #[.int .i64 n] w fun e w' => e = .returned (.int .u32 (mask n)) ∧ w = w' := by
  rcases Int.lt_or_le n 0 with h | h
  · go_enter Try.func34, Try.ntmps34
    go_wp2
    go_ret
    exact ⟨ret_int (by unfold mask bitsOf; rw [if_pos h]; rfl), rfl⟩
  · have h0 : ¬ n < 0 := by omega
    rcases Int.lt_or_le 32 n with h' | h'
    · go_enter Try.func34, Try.ntmps34
      go_wp2
      go_ret
      exact ⟨ret_int (by unfold mask bitsOf; rw [if_neg (by omega), if_pos h']; rfl), rfl⟩
    · have e : (4294967295 * 2 ^ (32 - n).toNat % 4294967296 : Int) = mask n := by
        have := mask_nat n.toNat (by omega)
        unfold mask bitsOf
        rw [if_neg h0, if_neg (by omega), ← this, show (32 - n).toNat = 32 - n.toNat from by omega]
        simp
      have E := Lib.hid e; clear e
      go_enter Try.func34, Try.ntmps34
      go_wp2
      go_ret
      exact ⟨ret_int E.out, rfl⟩

/-- The first k rounds of the document's Mask. -/
def maskTo (k : Nat) : Int := ((4294967296 - 2 ^ (32 - k) : Nat) : Int)
theorem mask_step : ∀ k : Nat, k < 32 → (maskTo k + 2 ^ (31 - k) % 4294967296) % 4294967296 = maskTo (k + 1) := by decide +kernel
theorem mask_end (n : Int) (k : Nat) (hk : k ≤ bitsOf n) (h : n ≤ k ∨ 32 ≤ k) : maskTo k = mask n := by
  have : k = bitsOf n := by unfold bitsOf at *; split at hk <;> (try split at hk) <;> (try split) <;> omega
  subst this; rfl
theorem rmask_any (n : Int) (w : World) :
    Calls Try.prog 35 #[.int .i64 n] w fun e w' => e = .returned (.int .u32 (mask n)) ∧ w = w' := by
  go_enter Try.func35, Try.ntmps35
  go_wp2
  go_loop [3, 4] (fun o i => ∃ k : Nat, k ≤ bitsOf n ∧ i = .int .i64 k ∧ o = .int .u32 (maskTo k)) (fun _ i => 32 - (intOf i).toNat)
  case atStart => exact ⟨0, by omega, rfl, rfl⟩
  case round =>
    obtain ⟨k, hk, rfl, rfl⟩ := hrel
    have hb := bitsOf_le n
    go_wp2
    · have hs := Lib.hid (mask_step k (by omega))
      have hk' : k + 1 ≤ bitsOf n := by unfold bitsOf at *; split at hk <;> (try split at hk) <;> (try split) <;> omega
      go_round
      case rel => exact ⟨k + 1, hk', by go_num, by rw [hs.out]⟩
      case measure => simp [intOf]; omega
    · go_ret
      exact ⟨ret_int (mask_end n k hk (by omega)), rfl⟩
    · go_ret
      exact ⟨ret_int (mask_end n k hk (by omega)), rfl⟩
end Go.Proofs.Ytmicbpkhlgceoaa
