/- 'AddrHolds': the prefix of any length that holds an address; its halves. -/
import Derived.Test.YtbkpbjjddgmilaaDoorCard02
import Derived.RegionTactic
import Derived.BigRegion
namespace Go.Proofs.YtbkpbjjddgmilaaDoor
open Go.RowKit

theorem halves (A N : Nat) (hn : N ≤ 31) :
    A / 2 ^ (31 - N) * 2 ^ (31 - N) = A / 2 ^ (32 - N) * 2 ^ (32 - N) + A / 2 ^ (31 - N) % 2 * 2 ^ (31 - N) := by
  have e : 2 ^ (32 - N) = 2 ^ (31 - N) * 2 := by rw [← Nat.pow_succ]; congr 1; omega
  rw [e, ← Nat.div_div_eq_div_mul]
  generalize 2 ^ (31 - N) = p
  generalize A / p = X
  have := Nat.div_add_mod X 2
  calc X * p = (2 * (X / 2) + X % 2) * p := by rw [this]
    _ = X / 2 * (p * 2) + X % 2 * p := by rw [Nat.add_mul]; congr 1; rw [Nat.mul_comm 2, Nat.mul_assoc, Nat.mul_comm 2]

/-- What the law's prefixes are, and how they stand to each other. -/
def Halves (a n P H : Int) : Prop :=
  mk a n = P ∧ cl n = n ∧ bits .or .u32 P (2 ^ (31 - n).toNat) = H ∧ okP P n = true ∧ holdsP P n a = true ∧ holdsP P (n + 1) a = !decide (bitP a n = 1) ∧
  holdsP H (n + 1) a = decide (bitP a n = 1) ∧ withinP P n P (n + 1) = true ∧ withinP P n H (n + 1) = true

theorem pow_cast (k : Nat) : (2 : Int) ^ k = ((2 ^ k : Nat) : Int) := (Int.natCast_pow 2 k).symm
theorem div_mod_cast (A p : Nat) : (A : Int) / (p : Int) % 2 = ((A / p % 2 : Nat) : Int) := by simp

theorem halves_of (a n : Int) (h0 : 0 ≤ a) (h1 : a < 4294967296) (n0 : 0 ≤ n) (n1 : n ≤ 31) : ∃ P H, Halves a n P H := by
  obtain ⟨A, rfl⟩ := Int.eq_ofNat_of_zero_le h0
  obtain ⟨N, rfl⟩ := Int.eq_ofNat_of_zero_le n0
  have hp : 0 < 2 ^ (31 - N) := Nat.pow_pos (by omega)
  have hpb : 2 ^ (31 - N) ≤ 2147483648 := Nat.pow_le_pow_right (n := 2) (by omega) (show 31 - N ≤ 31 by omega)
  have e2 : 2 ^ (32 - N) = 2 ^ (31 - N) * 2 := by rw [← Nat.pow_succ]; congr 1; omega
  have eq1 : 32 - (N + 1) = 31 - N := by omega
  have et : ((31 : Int) - N).toNat = 31 - N := by omega
  have hcl : cl (N : Int) = N := by unfold cl bitsOf; rw [if_neg (by omega), if_neg (by omega)]; rfl
  have hcl1 : cl ((N : Int) + 1) = N + 1 := by unfold cl bitsOf; rw [if_neg (by omega), if_neg (by omega)]; omega
  have hmk : ∀ X : Nat, X < 4294967296 → mk X N = ((X / 2 ^ (32 - N) * 2 ^ (32 - N) : Nat) : Int) := fun X hX => mk_div X N hX (by omega)
  have hmk1 : ∀ X : Nat, X < 4294967296 → mk X (N + 1) = ((X / 2 ^ (31 - N) * 2 ^ (31 - N) : Nat) : Int) := fun X hX => by have := mk_div X (N + 1) hX (by omega); rwa [eq1] at this
  have hbit : bitP (A : Int) N = ((A / 2 ^ (31 - N) % 2 : Nat) : Int) := by
    unfold bitP
    rw [if_neg (by omega), if_neg (by omega), et, pow_cast, div_mod_cast]
  have hh := halves A N (by omega)
  have hle1 := div_le' A (31 - N)
  have hle := div_le' A (32 - N)
  have hb2 : A / 2 ^ (31 - N) % 2 < 2 := Nat.mod_lt _ (by omega)
  have hor := nat_join (32 - N) (A / 2 ^ (32 - N) * 2 ^ (32 - N)) (2 ^ (31 - N)) (Nat.mul_mod_left _ _) (by omega)
  have q0 : 0 < 2 ^ (32 - N) := Nat.pow_pos (by omega)
  have hpw : 2 ^ N * 2 ^ (32 - N) = 4294967296 := by rw [← Nat.pow_add, show N + (32 - N) = 32 by omega]
  have hQ : A / 2 ^ (32 - N) < 2 ^ N := Nat.div_lt_of_lt_mul (by rw [Nat.mul_comm, hpw]; omega)
  generalize hq : A / 2 ^ (32 - N) = Q at hh hle hor hQ
  have hQ2 : (Q + 1) * 2 ^ (32 - N) ≤ 2 ^ N * 2 ^ (32 - N) := Nat.mul_le_mul_right _ hQ
  rw [hpw, Nat.add_mul, Nat.one_mul] at hQ2
  have dP : Q * 2 ^ (32 - N) / 2 ^ (32 - N) = Q := Nat.mul_div_cancel _ q0
  have dP1 : Q * 2 ^ (32 - N) / 2 ^ (31 - N) * 2 ^ (31 - N) = Q * 2 ^ (32 - N) := by rw [e2, ← Nat.mul_assoc, Nat.mul_right_comm, Nat.mul_div_cancel _ hp]
  have dH : (Q * 2 ^ (32 - N) + 2 ^ (31 - N)) / 2 ^ (32 - N) = Q := by
    rw [Nat.add_comm, Nat.add_mul_div_right _ _ q0, Nat.div_eq_of_lt (by omega)]; omega
  have dH1 : (Q * 2 ^ (32 - N) + 2 ^ (31 - N)) / 2 ^ (31 - N) * 2 ^ (31 - N) = Q * 2 ^ (32 - N) + 2 ^ (31 - N) := by
    rw [show Q * 2 ^ (32 - N) + 2 ^ (31 - N) = (Q * 2 + 1) * 2 ^ (31 - N) by rw [e2, Nat.add_mul, Nat.one_mul, Nat.mul_assoc, Nat.mul_comm 2], Nat.mul_div_cancel _ hp]
  refine ⟨((Q * 2 ^ (32 - N) : Nat) : Int), ((Q * 2 ^ (32 - N) + 2 ^ (31 - N) : Nat) : Int), ?_, hcl, ?_, ?_, ?_, ?_, ?_, ?_, ?_⟩
  · rw [hmk A (by omega), hq]
  · rw [et, pow_cast, u32_or_nat _ _ (by omega) (by omega), hor]
  · unfold okP
    rw [hmk _ (by omega), dP, hcl]; simp
  · unfold holdsP
    rw [hmk A (by omega), hq, hcl]; simp
  · unfold holdsP
    rw [hmk1 A (by omega), hcl1, hh, hbit]
    generalize A / 2 ^ (31 - N) % 2 = B at hb2
    generalize 2 ^ (31 - N) = p1 at hp
    generalize Q * 2 ^ (32 - N) = X
    have hB : B = 0 ∨ B = 1 := by omega
    rcases hB with rfl | rfl
    · simp
    · have : ((X : Nat) : Int) ≠ ((X + 1 * p1 : Nat) : Int) := by omega
      simp only [beq_eq_false_iff_ne.2 this]; simp
  · unfold holdsP
    rw [hmk1 A (by omega), hcl1, hh, hbit]
    generalize A / 2 ^ (31 - N) % 2 = B at hb2
    generalize 2 ^ (31 - N) = p1 at hp
    generalize Q * 2 ^ (32 - N) = X
    have hB : B = 0 ∨ B = 1 := by omega
    rcases hB with rfl | rfl
    · have : ((X + p1 : Nat) : Int) ≠ ((X + 0 * p1 : Nat) : Int) := by omega
      simp only [beq_eq_false_iff_ne.2 this]; simp
    · simp
  · unfold withinP okP holdsP
    rw [hmk1 _ (by omega), dP1, hcl1, hmk _ (by omega), dP, hcl]; simp; omega
  · unfold withinP okP holdsP
    rw [hmk1 _ (by omega), dH1, hcl1, hmk _ (by omega), dH, hcl]; simp; omega

/-- The law's walk. -/
theorem holds_out (a n : Int) (w : World) (ht : Tab w) (hn : n < 0 ∨ 31 < n) :
    Calls Tryd.prog 9 #[.int .u32 a, .int .i64 n] w fun e w' => e = .returned (.bool true) ∧ Below w.heap.size w w' := by
  rcases hn with hn | hn
  · go_enter Tryd.func9, Tryd.ntmps9
    go_wp2_with fail
    refine (lives_any _ ht).mono ?_; rintro e w1 ⟨rfl, hb⟩
    go_wp2_with fail
    go_ret
    exact ⟨rfl, hb⟩
  · go_enter Tryd.func9, Tryd.ntmps9
    go_wp2_with fail
    refine (lives_any _ ht).mono ?_; rintro e w1 ⟨rfl, hb⟩
    go_wp2_with fail
    go_ret
    exact ⟨rfl, hb⟩

theorem holds_in (a n P H : Int) (w : World) (ht : Tab w) (h0 : 0 ≤ a) (h1 : a < 4294967296) (n0 : 0 ≤ n) (n1 : n ≤ 31) (hH : Halves a n P H) :
    Calls Tryd.prog 9 #[.int .u32 a, .int .i64 n] w fun e w' => e = .returned (.bool true) ∧ Below w.heap.size w w' := by
  have S0 := Lib.hid (show St w w [] none from ⟨ht, Below.refl _ _, fun x hx => (List.not_mem_nil hx).elim, fun x hx => by cases hx⟩)
  have HH := Lib.hid hH
  clear ht hH
  obtain ⟨p2, hp2⟩ : ∃ p2, (2 : Int) ^ (31 - n).toNat = p2 := ⟨_, rfl⟩
  have hp0 : 0 < p2 ∧ p2 ≤ 2147483648 := by
    obtain ⟨N, rfl⟩ := Int.eq_ofNat_of_zero_le n0
    rw [← hp2, show ((31 : Int) - N).toNat = 31 - N by omega, pow_cast]
    have hp : 0 < 2 ^ (31 - N) := Nat.pow_pos (by omega)
    have hpb : 2 ^ (31 - N) ≤ 2147483648 := Nat.pow_le_pow_right (n := 2) (by omega) (show 31 - N ≤ 31 by omega)
    omega
  have hm2 : p2 % 4294967296 = p2 := by omega
  have hor := HH.out.2.2.1
  rw [hp2] at hor
  have H31 : 0 ≤ 31 - n := by omega
  go_enter Tryd.func9, Tryd.ntmps9
  go_wp2_with fail
  refine (make_any a n _).mono ?_; rintro e w1 ⟨rfl, hb⟩
  rw [HH.out.1, HH.out.2.1]
  have S2 := Lib.hid (((S0.out.below hb).push P n).push P (n + 1))
  rw [size_alloc1] at S2
  obtain ⟨b, hbz⟩ : ∃ b, w1.heap.size = b := ⟨_, rfl⟩
  rw [hbz] at S2
  have HB := Lib.hid hbz
  clear hb S0
  go_wp2_with fail
  obtain ⟨W, hW⟩ : ∃ W, (w1.alloc (.cells #[.int .u32 P, .int .i64 n] 24)).alloc (.cells #[.int .u32 P, .int .i64 (n + 1)] 24) = W := ⟨_, rfl⟩
  have hz : W.heap.size = b + 2 := by rw [← hW]; simp [hbz]
  rw [hW] at S2
  rw [hW]
  have c50 := S2.out.c0 (.tail _ (.head _))
  have c51 := S2.out.c1 (.tail _ (.head _))
  clear hW hbz HB
  go_region
  go_wp2_with fail
  have S3 := Lib.hid (show St w (W.alloc (.cells #[.int .u32 H, .int .i64 (n + 1)] 24)).drew [(b + 2, H, n + 1), (b + 1, P, n + 1), (b, P, n)] none by
    have := S2.out.push H (n + 1)
    rw [hz] at this
    exact this.below (Below.refl _ _).drew)
  clear c50 c51 S2
  refine (bit_any a n _ h0 h1).mono ?_; rintro e w2 ⟨rfl, rfl⟩
  rcases HH.out with ⟨-, -, -, hok, hholds, hlow, hhigh, hinl, hinh⟩
  have HOK := Lib.hid hok
  have HHO := Lib.hid hholds
  have HLO := Lib.hid hlow
  have HHI := Lib.hid hhigh
  have HIL := Lib.hid hinl
  have HIH := Lib.hid hinh
  clear hok hholds hlow hhigh hinl hinh HH hor
  obtain ⟨q, hq⟩ : ∃ q, bitP a n = q := ⟨_, rfl⟩
  rw [hq] at HLO HHI ⊢
  clear hq
  by_cases hq1 : q = 1
  · subst hq1
    rw [show decide ((1 : Int) = 1) = true from rfl] at HLO HHI
    go_wp2_with fail
    refine (lives_any _ S3.out.1).mono ?_; rintro e w3 ⟨rfl, hb⟩
    have S4 := Lib.hid (S3.out.below hb)
    clear hb S3
    have c70 := S4.out.c0 (.head _)
    have c71 := S4.out.c1 (.head _)
    have c60 := S4.out.c0 (.tail _ (.head _))
    have c61 := S4.out.c1 (.tail _ (.head _))
    have c50 := S4.out.c0 (.tail _ (.tail _ (.head _)))
    have c51 := S4.out.c1 (.tail _ (.tail _ (.head _)))
    go_wp2_with fail
    refine (check_true P n _ HOK.out).mono ?_; rintro e w4 ⟨rfl, hb⟩
    have S5 := Lib.hid (S4.out.below hb)
    clear hb S4 c50 c51 c60 c61 c70 c71
    have c70 := S5.out.c0 (.head _)
    have c71 := S5.out.c1 (.head _)
    have c60 := S5.out.c0 (.tail _ (.head _))
    have c61 := S5.out.c1 (.tail _ (.head _))
    have c50 := S5.out.c0 (.tail _ (.tail _ (.head _)))
    have c51 := S5.out.c1 (.tail _ (.tail _ (.head _)))
    go_wp2_with fail
    refine (holds_any P n a _).mono ?_; rintro e w5 ⟨rfl, hb⟩
    rw [HHO.out]
    have S6 := Lib.hid (S5.out.below hb)
    clear hb S5 c50 c51 c60 c61 c70 c71
    have c70 := S6.out.c0 (.head _)
    have c71 := S6.out.c1 (.head _)
    have c60 := S6.out.c0 (.tail _ (.head _))
    have c61 := S6.out.c1 (.tail _ (.head _))
    have c50 := S6.out.c0 (.tail _ (.tail _ (.head _)))
    have c51 := S6.out.c1 (.tail _ (.tail _ (.head _)))
    go_wp2_with fail
    refine (holds_any P (n + 1) a _).mono ?_; rintro e w6 ⟨rfl, hb⟩
    rw [HLO.out]
    have S7 := Lib.hid (S6.out.below hb)
    clear hb S6 c50 c51 c60 c61 c70 c71
    have c70 := S7.out.c0 (.head _)
    have c71 := S7.out.c1 (.head _)
    have c60 := S7.out.c0 (.tail _ (.head _))
    have c61 := S7.out.c1 (.tail _ (.head _))
    have c50 := S7.out.c0 (.tail _ (.tail _ (.head _)))
    have c51 := S7.out.c1 (.tail _ (.tail _ (.head _)))
    go_wp2_with fail
    refine (holds_any H (n + 1) a _).mono ?_; rintro e w7 ⟨rfl, hb⟩
    rw [HHI.out]
    have S8 := Lib.hid (S7.out.below hb)
    clear hb S7 c50 c51 c60 c61 c70 c71
    have c70 := S8.out.c0 (.head _)
    have c71 := S8.out.c1 (.head _)
    have c60 := S8.out.c0 (.tail _ (.head _))
    have c61 := S8.out.c1 (.tail _ (.head _))
    have c50 := S8.out.c0 (.tail _ (.tail _ (.head _)))
    have c51 := S8.out.c1 (.tail _ (.tail _ (.head _)))
    go_wp2_with fail
    refine (within_any P n P (n + 1) _).mono ?_; rintro e w8 ⟨rfl, hb⟩
    rw [HIL.out]
    have S9 := Lib.hid (S8.out.below hb)
    clear hb S8 c50 c51 c60 c61 c70 c71
    have c70 := S9.out.c0 (.head _)
    have c71 := S9.out.c1 (.head _)
    have c60 := S9.out.c0 (.tail _ (.head _))
    have c61 := S9.out.c1 (.tail _ (.head _))
    have c50 := S9.out.c0 (.tail _ (.tail _ (.head _)))
    have c51 := S9.out.c1 (.tail _ (.tail _ (.head _)))
    go_wp2_with fail
    refine (within_any P n H (n + 1) _).mono ?_; rintro e w9 ⟨rfl, hb⟩
    rw [HIH.out]
    have S10 := Lib.hid (S9.out.below hb)
    clear hb S9 c50 c51 c60 c61 c70 c71
    go_wp2_with fail
    go_ret
    exact ⟨rfl, S10.out.2.1⟩
  · rw [decide_eq_false hq1] at HLO HHI
    have hq2 : (q == 1) = false := beq_eq_false_iff_ne.2 hq1
    go_wp2_with fail
    refine (lives_any _ S3.out.1).mono ?_; rintro e w3 ⟨rfl, hb⟩
    have S4 := Lib.hid (S3.out.below hb)
    clear hb S3
    have c70 := S4.out.c0 (.head _)
    have c71 := S4.out.c1 (.head _)
    have c60 := S4.out.c0 (.tail _ (.head _))
    have c61 := S4.out.c1 (.tail _ (.head _))
    have c50 := S4.out.c0 (.tail _ (.tail _ (.head _)))
    have c51 := S4.out.c1 (.tail _ (.tail _ (.head _)))
    go_wp2_with fail
    refine (check_true P n _ HOK.out).mono ?_; rintro e w4 ⟨rfl, hb⟩
    have S5 := Lib.hid (S4.out.below hb)
    clear hb S4 c50 c51 c60 c61 c70 c71
    have c70 := S5.out.c0 (.head _)
    have c71 := S5.out.c1 (.head _)
    have c60 := S5.out.c0 (.tail _ (.head _))
    have c61 := S5.out.c1 (.tail _ (.head _))
    have c50 := S5.out.c0 (.tail _ (.tail _ (.head _)))
    have c51 := S5.out.c1 (.tail _ (.tail _ (.head _)))
    go_wp2_with fail
    refine (holds_any P n a _).mono ?_; rintro e w5 ⟨rfl, hb⟩
    rw [HHO.out]
    have S6 := Lib.hid (S5.out.below hb)
    clear hb S5 c50 c51 c60 c61 c70 c71
    have c70 := S6.out.c0 (.head _)
    have c71 := S6.out.c1 (.head _)
    have c60 := S6.out.c0 (.tail _ (.head _))
    have c61 := S6.out.c1 (.tail _ (.head _))
    have c50 := S6.out.c0 (.tail _ (.tail _ (.head _)))
    have c51 := S6.out.c1 (.tail _ (.tail _ (.head _)))
    go_wp2_with fail
    refine (holds_any P (n + 1) a _).mono ?_; rintro e w6 ⟨rfl, hb⟩
    rw [HLO.out]
    have S7 := Lib.hid (S6.out.below hb)
    clear hb S6 c50 c51 c60 c61 c70 c71
    have c70 := S7.out.c0 (.head _)
    have c71 := S7.out.c1 (.head _)
    have c60 := S7.out.c0 (.tail _ (.head _))
    have c61 := S7.out.c1 (.tail _ (.head _))
    have c50 := S7.out.c0 (.tail _ (.tail _ (.head _)))
    have c51 := S7.out.c1 (.tail _ (.tail _ (.head _)))
    go_wp2_with fail
    refine (holds_any H (n + 1) a _).mono ?_; rintro e w7 ⟨rfl, hb⟩
    rw [HHI.out]
    have S8 := Lib.hid (S7.out.below hb)
    clear hb S7 c50 c51 c60 c61 c70 c71
    have c70 := S8.out.c0 (.head _)
    have c71 := S8.out.c1 (.head _)
    have c60 := S8.out.c0 (.tail _ (.head _))
    have c61 := S8.out.c1 (.tail _ (.head _))
    have c50 := S8.out.c0 (.tail _ (.tail _ (.head _)))
    have c51 := S8.out.c1 (.tail _ (.tail _ (.head _)))
    go_wp2_with fail
    refine (within_any P n P (n + 1) _).mono ?_; rintro e w8 ⟨rfl, hb⟩
    rw [HIL.out]
    have S9 := Lib.hid (S8.out.below hb)
    clear hb S8 c50 c51 c60 c61 c70 c71
    have c70 := S9.out.c0 (.head _)
    have c71 := S9.out.c1 (.head _)
    have c60 := S9.out.c0 (.tail _ (.head _))
    have c61 := S9.out.c1 (.tail _ (.head _))
    have c50 := S9.out.c0 (.tail _ (.tail _ (.head _)))
    have c51 := S9.out.c1 (.tail _ (.tail _ (.head _)))
    go_wp2_with fail
    refine (within_any P n H (n + 1) _).mono ?_; rintro e w9 ⟨rfl, hb⟩
    rw [HIH.out]
    have S10 := Lib.hid (S9.out.below hb)
    clear hb S9 c50 c51 c60 c61 c70 c71
    go_wp2_with fail
    go_ret
    exact ⟨rfl, S10.out.2.1⟩

theorem holds_law (a : Int) (h0 : 0 ≤ a) (h1 : a < 4294967296) (n : Int) (w : World) (ht : Tab w) :
    Calls Tryd.prog 9 #[.int .u32 a, .int .i64 n] w fun e w' => e = .returned (.bool true) ∧ Below w.heap.size w w' := by
  by_cases hn : n < 0 ∨ 31 < n
  · exact holds_out a n w ht hn
  · obtain ⟨P, H, hh⟩ := halves_of a n h0 h1 (by omega) (by omega)
    exact holds_in a n P H w ht h0 h1 (by omega) (by omega) hh
end Go.Proofs.YtbkpbjjddgmilaaDoor
