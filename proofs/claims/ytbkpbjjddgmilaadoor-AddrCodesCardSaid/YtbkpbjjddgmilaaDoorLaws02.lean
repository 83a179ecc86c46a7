/- The laws of addr that hold by what its functions tell. -/
import Derived.Test.YtbkpbjjddgmilaaDoorLives02
namespace Go.Proofs.YtbkpbjjddgmilaaDoor
open Go.RowKit

theorem mk_div (X K : Nat) (hx : X < 4294967296) (hk : K ≤ 32) : mk X K = ((X / 2 ^ (32 - K) * 2 ^ (32 - K) : Nat) : Int) := by
  have hb : bitsOf (K : Int) = K := by unfold bitsOf; rw [if_neg (by omega), if_neg (by omega)]; rfl
  have hp : 2 ^ (32 - K) ≤ 4294967296 := Nat.pow_le_pow_right (n := 2) (by omega) (show 32 - K ≤ 32 by omega)
  have hp0 : 0 < 2 ^ (32 - K) := Nat.pow_pos (by omega)
  unfold mk mask
  rw [hb, u32_and_nat X (4294967296 - 2 ^ (32 - K)) hx (by omega)]
  have := nat_midmask 32 (32 - K) X (by omega)
  rw [show (2 : Nat) ^ 32 = 4294967296 from rfl, Nat.mod_eq_of_lt hx] at this
  rw [this]

theorem div_le' (X p : Nat) : X / 2 ^ p * 2 ^ p ≤ X := Nat.div_mul_le_self X _
theorem nest (X p q : Nat) (h : p ≤ q) : X / 2 ^ p * 2 ^ p / 2 ^ q * 2 ^ q = X / 2 ^ q * 2 ^ q := by
  have e : 2 ^ q = 2 ^ p * 2 ^ (q - p) := by rw [← Nat.pow_add]; congr 1; omega
  have hp0 : 0 < 2 ^ p := Nat.pow_pos (by omega)
  congr 1
  rw [e, ← Nat.div_div_eq_div_mul, Nat.mul_div_cancel _ hp0, Nat.div_div_eq_div_mul]

theorem mk_mk (x n m : Int) (h0 : 0 ≤ x) (h1 : x < 4294967296) (n0 : 0 ≤ n) (hnm : n ≤ m) (m1 : m ≤ 32) : mk (mk x m) n = mk x n := by
  obtain ⟨X, rfl⟩ := Int.eq_ofNat_of_zero_le h0
  obtain ⟨N, rfl⟩ := Int.eq_ofNat_of_zero_le n0
  obtain ⟨M, rfl⟩ := Int.eq_ofNat_of_zero_le (show 0 ≤ m by omega)
  have := div_le' X (32 - M)
  rw [mk_div X M (by omega) (by omega), mk_div _ N (by omega) (by omega), mk_div X N (by omega) (by omega), nest X (32 - M) (32 - N) (by omega)]

theorem cl_len {n : Int} (h : n = cl n) : 0 ≤ n ∧ n ≤ 32 := by
  have := bitsOf_le n
  unfold cl at h; omega

theorem holds_parts {a n x : Int} (h : holdsP a n x = true) : a = mk x n ∧ n = cl n ∧ 0 ≤ n ∧ n ≤ 32 := by
  unfold holdsP at h
  rw [Bool.and_eq_true, beq_iff_eq, beq_iff_eq] at h
  exact ⟨h.1, h.2, cl_len h.2⟩

theorem within_of {a n b m x : Int} (h0 : 0 ≤ x) (h1 : x < 4294967296) (h : holdsP a n x = true) (h' : holdsP b m x = true) (hnm : n ≤ m) : withinP a n b m = true := by
  obtain ⟨ea, ec, n0, n1⟩ := holds_parts h
  obtain ⟨eb, ed, m0, m1⟩ := holds_parts h'
  have e1 : b = mk b m := by rw [eb, mk_mk x m m h0 h1 m0 (Int.le_refl _) m1]
  have e2 : a = mk b n := by rw [eb, mk_mk x n m h0 h1 n0 hnm m1]; exact ea
  unfold withinP okP holdsP
  rw [decide_eq_true e1, decide_eq_true ed, decide_eq_true hnm, beq_iff_eq.2 e2, beq_iff_eq.2 ec]
  rfl

theorem apart_law (a n b m x : Int) (w : World) (ht : Tab w) (h0 : 0 ≤ x) (h1 : x < 4294967296) :
    Calls Tryd.prog 8 #[.agg #[.int .u32 a, .int .i64 n], .agg #[.int .u32 b, .int .i64 m], .int .u32 x] w fun e w' => e = .returned (.bool true) ∧ Below w.heap.size w w' := by
  have S0 := Lib.hid (show St w _ [(w.heap.size + 1, b, m), (w.heap.size, a, n)] none from by
    have h : St w w [] none := ⟨ht, Below.refl _ _, fun x hx => (List.not_mem_nil hx).elim, fun x hx => by cases hx⟩
    have := (h.push a n).push b m
    rwa [size_alloc1] at this)
  have HW : (holdsP a n x = true → holdsP b m x = true → withinP a n b m = false → withinP b m a n = true) := fun h h' hn => by
    rcases Int.le_total n m with hl | hl
    · rw [within_of h0 h1 h h' hl] at hn; cases hn
    · exact within_of h0 h1 h' h hl
  clear ht
  have HW := Lib.hid HW
  go_enter Tryd.func8, Tryd.ntmps8
  go_wp2_with fail
  refine (lives_any _ S0.out.1).mono ?_; rintro e w1 ⟨rfl, hb⟩
  have S1 := Lib.hid (S0.out.below hb)
  clear hb
  have c0 := S1.out.c0 (.tail _ (.head _))
  have c1 := S1.out.c1 (.tail _ (.head _))
  go_wp2_with fail
  refine (holds_any a n x _).mono ?_; rintro e w2 ⟨rfl, hb⟩
  have S2 := Lib.hid (S1.out.below hb)
  clear hb c0 c1
  rcases hh1 : holdsP a n x with _ | _
  · go_wp2_with fail
    go_ret
    exact ⟨rfl, S2.out.2.1⟩
  have c0 := S2.out.c0 (.head _)
  have c1 := S2.out.c1 (.head _)
  go_wp2_with fail
  refine (holds_any b m x _).mono ?_; rintro e w3 ⟨rfl, hb⟩
  have S3 := Lib.hid (S2.out.below hb)
  clear hb c0 c1
  rcases hh2 : holdsP b m x with _ | _
  · go_wp2_with fail
    go_ret
    exact ⟨rfl, S3.out.2.1⟩
  have c0 := S3.out.c0 (.head _)
  have c1 := S3.out.c1 (.head _)
  have d0 := S3.out.c0 (.tail _ (.head _))
  have d1 := S3.out.c1 (.tail _ (.head _))
  go_wp2_with fail
  refine (within_any a n b m _).mono ?_; rintro e w4 ⟨rfl, hb⟩
  have S4 := Lib.hid (S3.out.below hb)
  clear hb c0 c1 d0 d1
  rcases hh3 : withinP a n b m with _ | _
  · have c0 := S4.out.c0 (.head _)
    have c1 := S4.out.c1 (.head _)
    have d0 := S4.out.c0 (.tail _ (.head _))
    have d1 := S4.out.c1 (.tail _ (.head _))
    go_wp2_with fail
    refine (within_any b m a n _).mono ?_; rintro e w5 ⟨rfl, hb⟩
    rw [HW.out hh1 hh2 hh3]
    have S5 := Lib.hid (S4.out.below hb)
    clear hb c0 c1 d0 d1
    go_wp2_with fail
    go_ret
    exact ⟨rfl, S5.out.2.1⟩
  · go_wp2_with fail
    go_ret
    exact ⟨rfl, S4.out.2.1⟩
end Go.Proofs.YtbkpbjjddgmilaaDoor
