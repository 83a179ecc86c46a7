/- The walks of NumWhole and NumMasks. -/
import Derived.Test.YtmicbpkhlgceoaaLives
namespace Go.Proofs.Ytmicbpkhlgceoaa
open Go.RowKit

theorem part_back {a b : Int} (h0 : 0 ≤ a) (h1 : a ≤ 9007199254740991) (h2 : 1 ≤ b) (h3 : b ≤ 9007199254740991) : part a b b = a ∧ part b a b = a := by
  unfold part partV
  rw [near_id h0 h1, near_id (show 0 ≤ b by omega) h3, if_neg (by omega), if_neg (by omega), Int.mul_ediv_cancel _ (by omega), Int.mul_ediv_cancel_left _ (by omega), near_id h0 h1]
  exact ⟨rfl, rfl⟩

theorem whole_walk (a b : Int) (w : World) :
    Calls Try.prog 9 #[.int .i64 a, .int .i64 b] w fun e w' => e = .returned (.bool true) ∧ Below w.heap.size w w' := by
  by_cases h : 0 ≤ a ∧ a ≤ 9007199254740991 ∧ 1 ≤ b ∧ b ≤ 9007199254740991
  · obtain ⟨h0, h1, h2, h3⟩ := h
    have HP := Lib.hid (part_back h0 h1 h2 h3)
    go_enter Try.func9, Try.ntmps9
    go_wp2_with fail
    refine (lives_any _).mono ?_; rintro e w1 ⟨rfl, hb⟩
    have HB := Lib.hid hb
    clear hb
    go_wp2_with fail
    refine (part_any _ _ _ _).mono ?_; rintro e w' ⟨rfl, n1, rfl⟩
    rw [HP.out.1]
    go_wp2_with fail
    refine (part_any _ _ _ _).mono ?_; rintro e w' ⟨rfl, n2, rfl⟩
    rw [HP.out.2]
    go_wp2_with fail
    go_ret
    exact ⟨rfl, by repeat (first | exact HB.out | refine below_drewN ?_ _)⟩
  · go_enter Try.func9, Try.ntmps9
    by_cases c0 : a < 0
    · go_wp2_with (go_at_call 10; refine (lives_any _).mono ?_; rintro e w1 ⟨rfl, hb⟩; have HB := Lib.hid hb; clear hb)
      go_ret
      exact ⟨rfl, HB.out⟩
    · by_cases c1 : 9007199254740991 < a
      · go_wp2_with (go_at_call 10; refine (lives_any _).mono ?_; rintro e w1 ⟨rfl, hb⟩; have HB := Lib.hid hb; clear hb)
        go_ret
        exact ⟨rfl, HB.out⟩
      · by_cases c2 : b < 1
        · go_wp2_with (go_at_call 10; refine (lives_any _).mono ?_; rintro e w1 ⟨rfl, hb⟩; have HB := Lib.hid hb; clear hb)
          go_ret
          exact ⟨rfl, HB.out⟩
        · have c3 : 9007199254740991 < b := by omega
          go_wp2_with (go_at_call 10; refine (lives_any _).mono ?_; rintro e w1 ⟨rfl, hb⟩; have HB := Lib.hid hb; clear hb)
          go_ret
          exact ⟨rfl, HB.out⟩

theorem mask_to {k : Nat} (h : k ≤ 32) : mask k = maskTo k := by
  unfold mask maskTo bitsOf
  rw [if_neg (by omega), if_neg (by omega), Int.toNat_natCast]
theorem mask_and : ∀ b : Nat, b < 33 → ∀ a : Nat, a < b + 1 → bits BinOp.and IntKind.u32 (maskTo a) (maskTo b) = maskTo a := by decide +kernel
theorem mask_bit : ∀ a : Nat, a < 33 → ∀ i : Nat, i < 32 → bits BinOp.and IntKind.u32 (maskTo a / 2 ^ i) 1 = if 32 - a ≤ i then 1 else 0 := by decide +kernel

theorem masks_main (a b : Nat) (w : World) (hab : a ≤ b) (hb : b ≤ 32) :
    Calls Try.prog 8 #[.int .i64 a, .int .i64 b] w fun e w' => e = .returned (.bool true) ∧ Below w.heap.size w w' := by
  have HA := Lib.hid (mask_and b (by omega) a (by omega))
  have HI := Lib.hid (mask_bit a (by omega))
  go_enter Try.func8, Try.ntmps8
  go_wp2_with fail
  refine (mask_any _ _).mono ?_; rintro e w' ⟨rfl, rfl⟩
  rw [mask_to (by omega)]
  go_wp2_with fail
  refine (mask_any _ _).mono ?_; rintro e w' ⟨rfl, rfl⟩
  rw [mask_to hb]
  go_wp2_with fail
  go_loop [7, 8] (fun n i => ∃ k : Nat, k ≤ 32 ∧ i = .int .i64 k ∧ n = .int .i64 ((k - (32 - a) : Nat) : Int)) (fun _ i => 32 - (intOf i).toNat)
  case atStart => exact ⟨0, by omega, rfl, by rw [Nat.zero_sub]; rfl⟩
  case round =>
    obtain ⟨k, hk, rfl, rfl⟩ := hrel
    by_cases hlt : k < 32
    · by_cases hbit : 32 - a ≤ k
      · have hi := HI.out k hlt
        rw [if_pos hbit] at hi
        obtain ⟨m, hm⟩ : ∃ m, k - (32 - a) = m := ⟨_, rfl⟩
        have hm1 : m ≤ 32 := by omega
        have hm2 := Lib.hid (show k + 1 - (32 - a) = m + 1 by omega)
        rw [hm]
        clear hm
        go_wp2
        go_round
        case rel => exact ⟨k + 1, by omega, by go_num, by rw [hm2.out]; go_num⟩
        case measure => simp [intOf]; omega
      · have hi := HI.out k hlt
        rw [if_neg hbit] at hi
        have hm2 := Lib.hid (show k - (32 - a) = 0 ∧ k + 1 - (32 - a) = 0 by omega)
        rw [hm2.out.1]
        go_wp2
        go_round
        case rel => exact ⟨k + 1, by omega, by go_num, by rw [hm2.out.2]⟩
        case measure => simp [intOf]; omega
    · have e : k - (32 - a) = a := by omega
      rw [e]
      clear e
      have ha := HA.out
      go_wp2_with fail
      refine (lives_any _).mono ?_; rintro e w1 ⟨rfl, hb⟩
      have HB := Lib.hid hb
      clear hb
      go_wp2_with fail
      go_ret
      exact ⟨rfl, HB.out⟩

theorem masks_walk (a b : Int) (w : World) :
    Calls Try.prog 8 #[.int .i64 a, .int .i64 b] w fun e w' => e = .returned (.bool true) ∧ Below w.heap.size w w' := by
  by_cases c0 : a < 0
  · go_enter Try.func8, Try.ntmps8
    go_wp2_with (go_at_call 10; refine (lives_any _).mono ?_; rintro e w1 ⟨rfl, hb⟩; have HB := Lib.hid hb; clear hb)
    go_ret
    exact ⟨rfl, HB.out⟩
  · by_cases c1 : b < a
    · go_enter Try.func8, Try.ntmps8
      go_wp2_with (go_at_call 10; refine (lives_any _).mono ?_; rintro e w1 ⟨rfl, hb⟩; have HB := Lib.hid hb; clear hb)
      go_ret
      exact ⟨rfl, HB.out⟩
    · by_cases c2 : 32 < b
      · go_enter Try.func8, Try.ntmps8
        go_wp2_with (go_at_call 10; refine (lives_any _).mono ?_; rintro e w1 ⟨rfl, hb⟩; have HB := Lib.hid hb; clear hb)
        go_ret
        exact ⟨rfl, HB.out⟩
      · obtain ⟨A, rfl⟩ := Int.eq_ofNat_of_zero_le (show 0 ≤ a by omega)
        obtain ⟨B, rfl⟩ := Int.eq_ofNat_of_zero_le (show 0 ≤ b by omega)
        exact masks_main A B w (by omega) (by omega)
end Go.Proofs.Ytmicbpkhlgceoaa
