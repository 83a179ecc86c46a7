/- Contracts of num's capped numbers: Near, Add, Sub, Mask, and the document's own beside them. -/
import Derived.Test.YthdiaedaalgpeaaKB
import Derived.WalkKit
import Derived.WalkSpells
import Derived.WalkLawsBesides
import Derived.Outline
import Derived.Lib.Hide
import Derived.Deep.QuietTactic
import Derived.BigQuiet
import Derived.Deep.DeepCutAuto
import Derived.Deep.RegionHeld3
import Derived.Deep.DeepMust
import Derived.IntWalk
namespace Go.Proofs.Ythdiaedaalgpeaa
open Go.RowKit
/-- The capped number. -/
def near (n : Int) : Int := if n < 0 then 0 else if 9007199254740991 < n then 9007199254740991 else n
theorem near_lo (n : Int) : 0 ≤ near n := by unfold near; split <;> (try split) <;> omega
theorem near_hi (n : Int) : near n ≤ 9007199254740991 := by unfold near; split <;> (try split) <;> omega
theorem near_id {n : Int} (h : 0 ≤ n) (h' : n ≤ 9007199254740991) : near n = n := by unfold near; rw [if_neg (by omega), if_neg (by omega)]
theorem near_neg {n : Int} (h : n < 0) : near n = 0 := by unfold near; rw [if_pos h]
theorem near_big {n : Int} (h : 9007199254740991 < n) : near n = 9007199254740991 := by unfold near; rw [if_neg (by omega), if_pos h]
theorem near_near (n : Int) : near (near n) = near n := near_id (near_lo n) (near_hi n)

theorem near_any (n : Int) (w : World) :
    Calls Try.prog 20 #[.int .i64 n] w fun e w' => e = .returned (.int .i64 (near n)) ∧ w = w' := by
  rcases Int.lt_or_le n 0 with h | h
  · go_enter Try.func20, Try.ntmps20
    go_wp2
    go_ret
    exact ⟨ret_int (by first | exact (near_neg h).symm | (rw [near_neg h]; omega)), rfl⟩
  · have h0 : ¬ n < 0 := by omega
    rcases Int.lt_or_le 9007199254740991 n with h' | h'
    · go_enter Try.func20, Try.ntmps20
      go_wp2
      go_ret
      exact ⟨ret_int (by first | exact (near_big h').symm | (rw [near_big h']; omega)), rfl⟩
    · go_enter Try.func20, Try.ntmps20
      go_wp2
      go_ret
      exact ⟨ret_int (by first | exact (near_id h h').symm | (rw [near_id h h']; omega)), rfl⟩

/-- Sums and differences, capped. -/
def add (a b : Int) : Int := near (near a + near b)
def sub (a b : Int) : Int := near (near a - near b)

theorem add_any (a b : Int) (w : World) :
    Calls Try.prog 16 #[.int .i64 a, .int .i64 b] w fun e w' => e = .returned (.int .i64 (add a b)) ∧ w = w' := by
  have a0 := near_lo a; have a1 := near_hi a; have b0 := near_lo b; have b1 := near_hi b
  go_enter Try.func16, Try.ntmps16
  go_wp2_with (go_at_call 20; refine (near_any _ _).mono ?_; rintro e w' ⟨rfl, rfl⟩)
  go_ret
  exact ⟨rfl, rfl⟩
theorem sub_any (a b : Int) (w : World) :
    Calls Try.prog 17 #[.int .i64 a, .int .i64 b] w fun e w' => e = .returned (.int .i64 (sub a b)) ∧ w = w' := by
  have a0 := near_lo a; have a1 := near_hi a; have b0 := near_lo b; have b1 := near_hi b
  go_enter Try.func17, Try.ntmps17
  go_wp2_with (go_at_call 20; refine (near_any _ _).mono ?_; rintro e w' ⟨rfl, rfl⟩)
  go_ret
  exact ⟨rfl, rfl⟩
/-- The first k rounds of the document's Mask. -/
def maskTo (k : Nat) : Int := ((4294967296 - 2 ^ (32 - k) : Nat) : Int)
theorem mask_step : ∀ k : Nat, k < 32 → (maskTo k + 2 ^ (31 - k) % 4294967296) % 4294967296 = maskTo (k + 1) := by decide +kernel
theorem mask_end (n : Int) (k : Nat) (hk : k ≤ bitsOf n) (h : n ≤ k ∨ 32 ≤ k) : maskTo k = mask n := by
  have : k = bitsOf n := by unfold bitsOf at *; split at hk <;> (try split at hk) <;> (try split) <;> omega
  subst this; rfl
end Go.Proofs.Ythdiaedaalgpeaa
