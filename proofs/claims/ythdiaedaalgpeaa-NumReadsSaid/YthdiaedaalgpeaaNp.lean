/- Contracts of Part and Times, and of the document's own beside them. -/
import Derived.Test.YthdiaedaalgpeaaNpm
namespace Go.Proofs.Ythdiaedaalgpeaa
open Go.RowKit
/-- Only draws of open orders are behind the world. -/
def Drew (w w' : World) : Prop := ∃ n, w' = w.drewN n

theorem part_pos (A B C : Int) (hz : 1 ≤ C) : partV A B C = near (A * B / C) := by unfold partV; rw [if_neg (by omega)]

/-- The loop's relation: j digits are left. -/
def PartRel (A B C : Int) (j : Nat) (O R : Int) : Prop := O * C + R = A * (B / 2 ^ (9 * j))

theorem partRel_end {A B C O R : Int} (hC : 1 ≤ C) (h : PartRel A B C 0 O R) (hr0 : 0 ≤ R) (hr1 : R < C) : A * B / C = O := by
  unfold PartRel at h
  rw [show 9 * 0 = 0 from rfl, Int.pow_zero, Int.ediv_one] at h
  exact quo_unique hC h hr0 hr1

theorem partRel_step {A B C O R q : Int} {j : Nat} (hj : j ≠ 0) (h : PartRel A B C j O R) (hq : B / 2 ^ (9 * j - 9) = q) :
    PartRel A B C (j - 1) (O * 512 + A / C * (q % 512) + (R * 512 + A % C * (q % 512)) / C) ((R * 512 + A % C * (q % 512)) % C) := by
  unfold PartRel at *
  have e : B / 2 ^ (9 * j) = q / 512 := by
    rw [show 9 * j = (9 * j - 9) + 9 from by omega, pow_part, hq]; rfl
  rw [e] at h
  rw [step_eq, digit_step h, show 9 * (j - 1) = 9 * j - 9 from by omega, hq]
  have : 512 * (q / 512) + q % 512 = q := by omega
  rw [this]

theorem partRel_big {A B C O R : Int} {j : Nat} (hA : 0 ≤ A) (hC : 1 ≤ C) (hB : 0 ≤ B) (h : PartRel A B C j O R) (hr0 : 0 ≤ R) (hr1 : R < C) (hO : 9007199254740991 < O) :
    9007199254740991 < A * B / C := by
  have e := quo_unique hC h hr0 hr1
  have hp : (1 : Int) ≤ 2 ^ (9 * j) := Int.pow_pos (by omega)
  have hle : B / 2 ^ (9 * j) ≤ B := Int.ediv_le_self _ hB
  have := Int.ediv_le_ediv (show 0 < C by omega) (Int.mul_le_mul_of_nonneg_left hle hA)
  omega

theorem q_bd {B : Int} {k : Nat} (h0 : 0 ≤ B) (h1 : B ≤ 9007199254740991) : 0 ≤ B / 2 ^ k ∧ B / 2 ^ k ≤ 9007199254740991 := by
  have hp : (0 : Int) < 2 ^ k := Int.pow_pos (by omega)
  exact ⟨Int.ediv_nonneg h0 (Int.le_of_lt hp), Int.le_trans (Int.ediv_le_self _ h0) h1⟩

set_option maxHeartbeats 1000000 in
theorem part_any (a b c : Int) (w : World) :
    Calls Try.prog 19 #[.int .i64 a, .int .i64 b, .int .i64 c] w fun e w' => e = .returned (.int .i64 (part a b c)) ∧ Drew w w' := by
  show Calls _ _ _ _ fun e w' => e = .returned (.int .i64 (partV (near a) (near b) (near c))) ∧ Drew w w'
  have a0 := near_lo a; have a1 := near_hi a; have b0 := near_lo b; have b1 := near_hi b; have c0 := near_lo c; have c1 := near_hi c
  generalize hA : near a = A at *
  generalize hB : near b = B at *
  generalize hC : near c = C at *
  have HA := Lib.hid hA; have HB := Lib.hid hB; have HC := Lib.hid hC; clear hA hB hC
  by_cases hz : C = 0
  · subst hz
    go_enter Try.func19, Try.ntmps19
    go_wp2_with fail
    refine (near_any _ _).mono ?_; rintro e w' ⟨rfl, rfl⟩; rw [HA.out]
    go_wp2_with fail
    refine (near_any _ _).mono ?_; rintro e w' ⟨rfl, rfl⟩; rw [HB.out]
    go_wp2_with fail
    refine (near_any _ _).mono ?_; rintro e w' ⟨rfl, rfl⟩; rw [HC.out]
    go_wp2_with fail
    go_ret
    exact ⟨rfl, 0, rfl⟩
  · have hz' : 1 ≤ C := by omega
    clear hz
    have hw0 : 0 ≤ A / C := Int.ediv_nonneg a0 (by omega)
    have hw1 : A / C ≤ 9007199254740991 := Int.le_trans (Int.ediv_le_self _ a0) a1
    have hv0 : 0 ≤ A % C := Int.emod_nonneg _ (by omega)
    have hv1 : A % C < C := Int.emod_lt_of_pos _ (by omega)
    go_enter Try.func19, Try.ntmps19
    go_wp2_with fail
    refine (near_any _ _).mono ?_; rintro e w' ⟨rfl, rfl⟩; rw [HA.out]
    go_wp2_with fail
    refine (near_any _ _).mono ?_; rintro e w' ⟨rfl, rfl⟩; rw [HB.out]
    go_wp2_with fail
    refine (near_any _ _).mono ?_; rintro e w' ⟨rfl, rfl⟩; rw [HC.out]
    go_wp2_with fail
    go_quiet (fail)
    go_wp2_with fail
    go_loop [9, 10, 11, 12] (fun o r i d => ∃ j : Nat, j ≤ 6 ∧ i = .int .i64 (9 * (j : Int) - 9) ∧ ∃ O R : Int, o = .int .i64 O ∧ r = .int .i64 R ∧ 0 ≤ R ∧ R < C ∧ 0 ≤ O ∧ O ≤ 9007199254740991 ∧ PartRel A B C j O R) (fun _ _ i _ => (9 + intOf i).toNat)
    case atStart =>
      refine ⟨6, by omega, rfl, 0, 0, rfl, rfl, by omega, by omega, by omega, by omega, ?_⟩
      unfold PartRel
      rw [Int.ediv_eq_zero_of_lt b0 (by omega)]; omega
    case round =>
      obtain ⟨j, hj, rfl, O, R, rfl, rfl, hr0, hr1, ho0, ho1, hP⟩ := hrel
      by_cases hjj : j = 0
      · subst hjj
        have HP := Lib.hid hP; clear hP
        go_wp2
        go_ret
        refine ⟨ret_int ?_, _, rfl⟩
        rw [part_pos A B C hz', partRel_end hz' HP.out hr0 hr1, near_id ho0 ho1]
      · obtain ⟨q, hq⟩ : ∃ q, B / 2 ^ (9 * j - 9) = q := ⟨_, rfl⟩
        have hqb := q_bd (k := 9 * j - 9) b0 b1
        rw [hq] at hqb
        have hq0 := hqb.1
        have h511 := and511 q hqb.1 hqb.2
        have hstep := partRel_step hjj hP hq
        have hd0 : 0 ≤ q % 512 := by omega
        have hd1 : q % 512 ≤ 511 := by omega
        have ⟨k1, k2⟩ := mul_bd hw0 hw1 hd0 hd1
        have ⟨k5, k6⟩ := mul_bd hv0 (show A % C ≤ C - 1 by omega) hd0 hd1
        have ⟨k7, k8, k9, k10⟩ := quo_bd hz' hr0 hr1 hv0 hv1 hd0 hd1
        have k11 : 0 ≤ (R * 512 + A % C * (q % 512)) % C := Int.emod_nonneg _ (by omega)
        have k12 : (R * 512 + A % C * (q % 512)) % C < C := Int.emod_lt_of_pos _ (by omega)
        have HS := Lib.hid hstep
        have HP := Lib.hid hP; clear hP hstep hqb
        have hq' := hq
        go_wp2
        · go_ret
          refine ⟨ret_int ?_, _, rfl⟩
          have hb := partRel_big a0 hz' b0 HS.out k11 k12 (by assumption)
          rw [part_pos A B C hz', near_big hb]
        · go_round
          case rel =>
            refine ⟨j - 1, by omega, by rw [show (9 * (j : Int) - 9 - 9) = 9 * ((j - 1 : Nat) : Int) - 9 from by omega], _, _, rfl, rfl, k11, k12, by omega, by assumption, HS.out⟩
          case measure => simp [intOf]; omega

/-- A product, capped. -/
def times (a b : Int) : Int := near (near a * near b)
theorem part_one (a b : Int) : part a b 1 = times a b := by
  unfold part partV times
  rw [near_id (n := 1) (by omega) (by omega), if_neg (by omega), Int.ediv_one]
theorem times_any (a b : Int) (w : World) :
    Calls Try.prog 18 #[.int .i64 a, .int .i64 b] w fun e w' => e = .returned (.int .i64 (times a b)) ∧ Drew w w' := by
  go_enter Try.func18, Try.ntmps18
  go_wp2_with fail
  refine (part_any _ _ _ _).mono ?_; rintro e w' ⟨rfl, n, rfl⟩; rw [part_one]
  go_wp2_with fail
  go_ret
  exact ⟨rfl, _, rfl⟩

theorem rtimes_big {A B : Int} (h0 : 0 < A) (h : 9007199254740991 / A < B) : 9007199254740991 = near (A * B) := by
  have := (Int.ediv_lt_iff_lt_mul h0).1 h
  rw [near_big (by rw [Int.mul_comm]; exact this)]
theorem rtimes_fits {A B : Int} (hb : 0 ≤ B) (h0 : 0 < A) (h : B ≤ 9007199254740991 / A) : wrap64 (A * B) = near (A * B) := by
  have h1 := (Int.le_ediv_iff_mul_le h0).1 h
  have h2 := Int.mul_nonneg hb (show 0 ≤ A by omega)
  rw [Int.mul_comm] at h1 h2
  rw [near_id h2 h1, IntWalk.wrap64_in _ ⟨by omega, by omega⟩]
theorem bit_step {A B C O R q t : Int} {j : Nat} (hj : j ≠ 0) (h : O * C + R = A / 2 ^ j * B) (hq : A / 2 ^ (j - 1) = q) (ht : q % 2 = t) :
    (O * 2 + (R * 2 + t * B) / C) * C + (R * 2 + t * B) % C = A / 2 ^ (j - 1) * B := by
  have e : A / 2 ^ j = q / 2 := by
    rw [show j = (j - 1) + 1 from by omega, pow_part, hq]; rfl
  rw [e] at h
  rw [step_eq, hq]
  have e2 : q = 2 * (q / 2) + t := by omega
  generalize q / 2 = p at *
  subst e2
  grind
theorem bit_big {A B C O R : Int} {j : Nat} (hA : 0 ≤ A) (hC : 1 ≤ C) (hB : 0 ≤ B) (h : O * C + R = A / 2 ^ j * B) (hr0 : 0 ≤ R) (hr1 : R < C) (hO : 9007199254740991 < O) :
    9007199254740991 < A * B / C := by
  have e := quo_unique hC h hr0 hr1
  have hle : A / 2 ^ j ≤ A := Int.ediv_le_self _ hA
  have := Int.ediv_le_ediv (show 0 < C by omega) (Int.mul_le_mul_of_nonneg_right hle hB)
  omega
end Go.Proofs.Ythdiaedaalgpeaa
