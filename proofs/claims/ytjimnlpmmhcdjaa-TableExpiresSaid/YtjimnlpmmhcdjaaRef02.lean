/- The document's own prefixes, beside addr's: bit, Make, Check, Holds, Within, Compare, Bit. -/
import Derived.Test.YtjimnlpmmhcdjaaHolds02
import Derived.StillTailTactics
namespace Go.Proofs.Ytjimnlpmmhcdjaa
open Go.RowKit

theorem pow_pos2 (i : Int) (n0 : 0 ≤ i) (n1 : i ≤ 31) : 0 < (2 : Int) ^ (31 - i).toNat ∧ (2 : Int) ^ (31 - i).toNat ≤ 2147483648 := by
  obtain ⟨N, rfl⟩ := Int.eq_ofNat_of_zero_le n0
  rw [show ((31 : Int) - N).toNat = 31 - N by omega, pow_cast]
  have hp : 0 < 2 ^ (31 - N) := Nat.pow_pos (by omega)
  have hpb : 2 ^ (31 - N) ≤ 2147483648 := Nat.pow_le_pow_right (n := 2) (by omega) (show 31 - N ≤ 31 by omega)
  omega
theorem bitP_in {a i : Int} (n0 : 0 ≤ i) (n1 : i ≤ 31) : bitP a i = a / 2 ^ (31 - i).toNat % 2 := by
  unfold bitP; rw [if_neg (by omega), if_neg (by omega)]
theorem bitP_bd (a i : Int) : 0 ≤ bitP a i ∧ bitP a i ≤ 1 := by
  unfold bitP
  split
  · omega
  · split <;> omega

theorem rbit_any (a i : Int) (w : World) (h0 : 0 ≤ a) (h1 : a < 4294967296) (n0 : 0 ≤ i) (n1 : i ≤ 31) :
    Calls Try.prog 37 #[.int .u32 a, .int .i64 i] w fun e w' => e = .returned (.int .u32 (bitP a i)) ∧ w = w' := by
  have ⟨p0, p1⟩ := pow_pos2 i n0 n1
  have HK := Lib.hid (bitP_in (a := a) n0 n1)
  obtain ⟨p, hp⟩ : ∃ p, (2 : Int) ^ (31 - i).toNat = p := ⟨_, rfl⟩
  rw [hp] at p0 p1 HK
  have hm : p % 4294967296 = p := by omega
  have ht : Int.tdiv a p = a / p := Int.tdiv_eq_ediv_of_nonneg h0
  have hq0 : 0 ≤ a / p ∧ a / p ≤ a := ⟨Int.ediv_nonneg h0 (Int.le_of_lt p0), Int.ediv_le_self _ h0⟩
  obtain ⟨q, hq⟩ : ∃ q, a / p = q := ⟨_, rfl⟩
  rw [hq] at ht hq0 HK
  obtain ⟨q0, q1⟩ := hq0
  have hqt : Int.tmod q 2 = q % 2 := Int.tmod_eq_emod_of_nonneg q0
  have hpz : ¬ p = 0 := by omega
  go_enter Try.func37, Try.ntmps37
  go_wp2_with fail
  go_ret
  exact ⟨by rw [HK.out]; rfl, rfl⟩

theorem mk_zero (a : Int) (h0 : 0 ≤ a) (h1 : a < 4294967296) : mk a 0 = 0 := by
  obtain ⟨A, rfl⟩ := Int.eq_ofNat_of_zero_le h0
  have := mk_div A 0 (by omega) (by omega)
  rw [show A / 2 ^ (32 - 0) = 0 from Nat.div_eq_of_lt (by omega)] at this
  simpa using this
theorem mk_step (a : Int) (k : Nat) (h0 : 0 ≤ a) (h1 : a < 4294967296) (hk : k ≤ 31) : mk a (k + 1) = mk a k + bitP a k * 2 ^ (31 - (k : Int)).toNat := by
  obtain ⟨A, rfl⟩ := Int.eq_ofNat_of_zero_le h0
  have e1 := mk_div A (k + 1) (by omega) (by omega)
  have e2 := mk_div A k (by omega) (by omega)
  have hh := halves A k hk
  rw [show 32 - (k + 1) = 31 - k by omega] at e1
  rw [show ((k : Int) + 1) = ((k + 1 : Nat) : Int) by omega, e1, e2, hh, bitP_in (by omega) (by omega), show ((31 : Int) - k).toNat = 31 - k by omega, pow_cast, div_mod_cast]
  simp
theorem bits_bits (n : Int) : bitsOf ((bitsOf n : Nat) : Int) = bitsOf n := by
  have := bitsOf_le n
  generalize bitsOf n = k at *
  unfold bitsOf
  rw [if_neg (by omega), if_neg (by omega)]; rfl
theorem mk_bd (a n : Int) (h0 : 0 ≤ a) (h1 : a < 4294967296) : 0 ≤ mk a n ∧ mk a n ≤ a := by
  obtain ⟨A, rfl⟩ := Int.eq_ofNat_of_zero_le h0
  have e : mk A n = mk A (bitsOf n : Nat) := by unfold mk mask; rw [bits_bits]
  rw [e, mk_div A _ (by omega) (bitsOf_le n)]
  have := div_le' A (32 - bitsOf n)
  omega
theorem mk_cl (a n : Int) : mk a (cl n) = mk a n := by
  unfold mk mask cl; rw [bits_bits]

theorem Box.set0 {w : World} {g : Nat} {v0 v1 : Value} (h : Box w g v0 v1) (u0 : Value) : Box (w.setCell ⟨g, 0, none⟩ u0) g u0 v1 :=
  (World.rowIs.set h 0 u0).congr fun i hi => by
    have : i = 0 ∨ i = 1 := by omega
    rcases this with rfl | rfl <;> rfl

def MkRel (a c : Int) (w : World) (i : Value) (wr : World) : Prop :=
  ∃ k : Nat, (k : Int) ≤ c ∧ i = .int .i64 k ∧ Box wr (w.heap.size + 1) (.int .u32 (mk a k)) (.int .i64 c) ∧ Box wr w.heap.size (.int .u32 0) (.int .i64 0) ∧ Below w.heap.size w wr

set_option maxRecDepth 100000 in
theorem rmake_any (a n : Int) (w : World) (h0 : 0 ≤ a) (h1 : a < 4294967296) :
    Calls Try.prog 32 #[.int .u32 a, .int .i64 n] w fun e w' => e = .returned (.agg #[.int .u32 (mk a n), .int .i64 (cl n)]) ∧ Below w.heap.size w w' := by
  have HA := Lib.hid (And.intro h0 h1)
  rw [← mk_cl a n]
  have hz := mk_zero a h0 h1
  have HB0 := Lib.hid ((Below.refl w.heap.size w).alloc (Nat.le_refl _) (.cells #[.int .u32 0, .int .i64 0] 32))
  rcases Int.lt_or_le n 0 with hn | hn
  · skip
    have HC := Lib.hid (show cl n = 0 by unfold cl bitsOf; rw [if_pos hn]; rfl)
    rw [HC.out, hz]
    go_enter Try.func32, Try.ntmps32
    go_wp2_with fail
    have HB := Lib.hid (below_two w (.cells #[.int .u32 0, .int .i64 0] 32) (.cells #[.int .u32 0, .int .i64 0] 32))
    have HX := Lib.hid (Box.two w (.int .u32 0) (.int .i64 0) (.int .u32 0) (.int .i64 0))
    go_loopw [6] (fun i wr => i = .int .i64 0 ∧ Box wr (w.heap.size + 1) (.int .u32 0) (.int .i64 0) ∧ Box wr w.heap.size (.int .u32 0) (.int .i64 0) ∧ Below w.heap.size w wr) (fun _ _ => 0)
    case atStart => exact ⟨rfl, HX.out.2, HX.out.1, HB.out⟩
    case round =>
      obtain ⟨rfl, hx, hy, hb⟩ := hrel
      have BB := Lib.hid hb
      have c0 := hx.c0
      have c1 := hx.c1
      have d0 := hy.c0
      have d1 := hy.c1
      have f0 := hy.f 0
      have f1 := hy.f 1
      clear hx hy hb
      go_wp2_with fail
      exact bodyPost_ret (v := .agg #[.int .u32 0, .int .i64 0]) (by simp [results, Try.results32, go_sem, d0, d1]) rfl ⟨rfl, (BB.out.setCell (Nat.le_refl _) _).setCell (Nat.le_refl _) _⟩
  · have hn0 : ¬ n < 0 := by omega
    rcases Int.lt_or_le 32 n with hm | hm
    · skip
      have HC := Lib.hid (show cl n = 32 by unfold cl bitsOf; rw [if_neg hn0, if_pos hm]; rfl)
      rw [HC.out]
      go_enter Try.func32, Try.ntmps32
      go_wp2_with fail
      have HX := Lib.hid (show Box _ (w.heap.size + 1) (.int .u32 0) (.int .i64 32) from (Box.two w (.int .u32 0) (.int .i64 0) (.int .u32 0) (.int .i64 32)).2)
      have HB := Lib.hid (below_two w (.cells #[.int .u32 0, .int .i64 0] 32) (.cells #[.int .u32 0, .int .i64 32] 32))
      have HX0 := Lib.hid (show Box _ w.heap.size (.int .u32 0) (.int .i64 0) from (Box.two w (.int .u32 0) (.int .i64 0) (.int .u32 0) (.int .i64 32)).1)
      go_loopw [6] (fun i wr => MkRel a 32 w i wr) (fun i _ => 32 - (intOf i).toNat)
      case atStart => exact ⟨0, by omega, rfl, by rw [show mk a ((0 : Nat) : Int) = 0 from hz]; exact HX.out, HX0.out, HB.out⟩
      case round =>
        obtain ⟨k, hk, rfl, hx, hy, hb⟩ := hrel
        have BX := Lib.hid hx
        have BY := Lib.hid hy
        have BB := Lib.hid hb
        by_cases hlt : (k : Int) < 32
        · have hbit := rbit_any a k wr.drew HA.out.1 HA.out.2 (by omega) (by omega)
          have hbit' : Calls Try.prog 37 #[.int .u32 a, .int .i64 k] wr.drew (fun e w'' => e = .returned (.int .u32 (bitP a k)) ∧ w'' = wr.drew) := hbit.mono fun e w'' h => ⟨h.1, h.2.symm⟩
          have hst := mk_step a k HA.out.1 HA.out.2 (by omega)
          have ⟨b0, b1⟩ := bitP_bd a k
          have ⟨q0, q1⟩ := pow_pos2 k (by omega) (by omega)
          have ⟨m0, m1⟩ := mk_bd a k HA.out.1 HA.out.2
          have ⟨m2, m3⟩ := mk_bd a (k + 1) HA.out.1 HA.out.2
          have a1 := HA.out.2
          obtain ⟨B, hB⟩ : ∃ B, bitP a k = B := ⟨_, rfl⟩
          rw [show (31 - (k : Int)).toNat = 31 - k by omega] at hst q0 q1
          obtain ⟨q, hq⟩ : ∃ q, (2 : Int) ^ (31 - k) = q := ⟨_, rfl⟩
          obtain ⟨M, hM⟩ : ∃ M, mk a k = M := ⟨_, rfl⟩
          obtain ⟨M1, hM1⟩ : ∃ M, mk a (k + 1) = M := ⟨_, rfl⟩
          rw [hB] at hbit' hst b0 b1
          rw [hq] at hst q0 q1
          rw [hM] at hst m0 m1
          rw [hM1] at hst m2 m3
          have hpr : 0 ≤ B * q ∧ B * q ≤ 2147483648 := by
            have hB2 : B = 0 ∨ B = 1 := by omega
            rcases hB2 with rfl | rfl <;> omega
          have hsh : B * q % 4294967296 = B * q := by omega
          have had : (M + B * q) % 4294967296 = M1 := by omega
          have hwr : IntKind.i64.wrap (31 - (k : Int)) = 31 - (k : Int) := by rw [IntKind.wrap_i64]; omega
          have hsh' : IntKind.u32.wrap (B * q) = B * q := by rw [IntKind.wrap_u32']; exact hsh
          have had' : IntKind.u32.wrap (M + B * q) = M1 := by rw [IntKind.wrap_u32']; exact had
          have c0 : wr.drew.cell? ⟨w.heap.size + 1, 0, none⟩ = some (.int .u32 M) := by rw [← hM]; exact BX.out.c0
          have f0 : wr.drew.frozen? ⟨w.heap.size + 1, 0, none⟩ = false := BX.out.f 0
          have HM1 := Lib.hid hM1
          clear hx hy hb hbit hst hB hM hM1
          go_wp2_with fail
          go_still_tail 10, (by kernel_rfl)
          still_call hbit'
          repeat still_step
          refine wpStill_nil ?_
          change wpList _ _ _ _ _ wr.drew
          go_wp2_with fail
          go_roundw
          case rel =>
            refine ⟨k + 1, by omega, by go_num, ?_, World.rowIs.of_block (w := wr.drew) BY.out (Below.block ((Below.refl (w.heap.size + 1) wr.drew).setCell (Nat.le_refl _) _) _ (by omega)), (BB.out.trans (Below.refl _ _).drew).setCell (Nat.le_succ _) _⟩
            rw [show ((k + 1 : Nat) : Int) = (k : Int) + 1 by omega, HM1.out]
            exact Box.set0 (w := wr.drew) BX.out _
          case measure => simp [intOf]; omega
        · have hkc : (k : Int) = 32 := by omega
          rw [hkc] at hx
          have c0 := hx.c0
          have c1 := hx.c1
          have d0 := hy.c0
          have d1 := hy.c1
          have f0 := hy.f 0
          have f1 := hy.f 1
          skip
          clear hx hy hb
          go_wp2_with fail
          exact bodyPost_ret (v := .agg #[.int .u32 (mk a 32), .int .i64 32]) (by simp [results, Try.results32, go_sem, d0, d1]) rfl ⟨rfl, (BB.out.setCell (Nat.le_refl _) _).setCell (Nat.le_refl _) _⟩
    · have hm0 : ¬ 32 < n := by omega
      have HC := Lib.hid (show cl n = n by unfold cl bitsOf; rw [if_neg hn0, if_neg hm0]; omega)
      rw [HC.out]
      go_enter Try.func32, Try.ntmps32
      go_wp2_with fail
      have HX := Lib.hid (show Box _ (w.heap.size + 1) (.int .u32 0) (.int .i64 n) from (Box.two w (.int .u32 0) (.int .i64 0) (.int .u32 0) (.int .i64 n)).2)
      have HB := Lib.hid (below_two w (.cells #[.int .u32 0, .int .i64 0] 32) (.cells #[.int .u32 0, .int .i64 n] 32))
      have HX0 := Lib.hid (show Box _ w.heap.size (.int .u32 0) (.int .i64 0) from (Box.two w (.int .u32 0) (.int .i64 0) (.int .u32 0) (.int .i64 n)).1)
      go_loopw [6] (fun i wr => MkRel a n w i wr) (fun i _ => 32 - (intOf i).toNat)
      case atStart => exact ⟨0, by omega, rfl, by rw [show mk a ((0 : Nat) : Int) = 0 from hz]; exact HX.out, HX0.out, HB.out⟩
      case round =>
        obtain ⟨k, hk, rfl, hx, hy, hb⟩ := hrel
        have BX := Lib.hid hx
        have BY := Lib.hid hy
        have BB := Lib.hid hb
        by_cases hlt : (k : Int) < n
        · have hbit := rbit_any a k wr.drew HA.out.1 HA.out.2 (by omega) (by omega)
          have hbit' : Calls Try.prog 37 #[.int .u32 a, .int .i64 k] wr.drew (fun e w'' => e = .returned (.int .u32 (bitP a k)) ∧ w'' = wr.drew) := hbit.mono fun e w'' h => ⟨h.1, h.2.symm⟩
          have hst := mk_step a k HA.out.1 HA.out.2 (by omega)
          have ⟨b0, b1⟩ := bitP_bd a k
          have ⟨q0, q1⟩ := pow_pos2 k (by omega) (by omega)
          have ⟨m0, m1⟩ := mk_bd a k HA.out.1 HA.out.2
          have ⟨m2, m3⟩ := mk_bd a (k + 1) HA.out.1 HA.out.2
          have a1 := HA.out.2
          obtain ⟨B, hB⟩ : ∃ B, bitP a k = B := ⟨_, rfl⟩
          rw [show (31 - (k : Int)).toNat = 31 - k by omega] at hst q0 q1
          obtain ⟨q, hq⟩ : ∃ q, (2 : Int) ^ (31 - k) = q := ⟨_, rfl⟩
          obtain ⟨M, hM⟩ : ∃ M, mk a k = M := ⟨_, rfl⟩
          obtain ⟨M1, hM1⟩ : ∃ M, mk a (k + 1) = M := ⟨_, rfl⟩
          rw [hB] at hbit' hst b0 b1
          rw [hq] at hst q0 q1
          rw [hM] at hst m0 m1
          rw [hM1] at hst m2 m3
          have hpr : 0 ≤ B * q ∧ B * q ≤ 2147483648 := by
            have hB2 : B = 0 ∨ B = 1 := by omega
            rcases hB2 with rfl | rfl <;> omega
          have hsh : B * q % 4294967296 = B * q := by omega
          have had : (M + B * q) % 4294967296 = M1 := by omega
          have hwr : IntKind.i64.wrap (31 - (k : Int)) = 31 - (k : Int) := by rw [IntKind.wrap_i64]; omega
          have hsh' : IntKind.u32.wrap (B * q) = B * q := by rw [IntKind.wrap_u32']; exact hsh
          have had' : IntKind.u32.wrap (M + B * q) = M1 := by rw [IntKind.wrap_u32']; exact had
          have c0 : wr.drew.cell? ⟨w.heap.size + 1, 0, none⟩ = some (.int .u32 M) := by rw [← hM]; exact BX.out.c0
          have f0 : wr.drew.frozen? ⟨w.heap.size + 1, 0, none⟩ = false := BX.out.f 0
          have HM1 := Lib.hid hM1
          clear hx hy hb hbit hst hB hM hM1
          go_wp2_with fail
          go_still_tail 10, (by kernel_rfl)
          still_call hbit'
          repeat still_step
          refine wpStill_nil ?_
          change wpList _ _ _ _ _ wr.drew
          go_wp2_with fail
          go_roundw
          case rel =>
            refine ⟨k + 1, by omega, by go_num, ?_, World.rowIs.of_block (w := wr.drew) BY.out (Below.block ((Below.refl (w.heap.size + 1) wr.drew).setCell (Nat.le_refl _) _) _ (by omega)), (BB.out.trans (Below.refl _ _).drew).setCell (Nat.le_succ _) _⟩
            rw [show ((k + 1 : Nat) : Int) = (k : Int) + 1 by omega, HM1.out]
            exact Box.set0 (w := wr.drew) BX.out _
          case measure => simp [intOf]; omega
        · have hkc : (k : Int) = n := by omega
          rw [hkc] at hx
          have c0 := hx.c0
          have c1 := hx.c1
          have d0 := hy.c0
          have d1 := hy.c1
          have f0 := hy.f 0
          have f1 := hy.f 1
          skip
          clear hx hy hb
          go_wp2_with fail
          exact bodyPost_ret (v := .agg #[.int .u32 (mk a n), .int .i64 n]) (by simp [results, Try.results32, go_sem, d0, d1]) rfl ⟨rfl, (BB.out.setCell (Nat.le_refl _) _).setCell (Nat.le_refl _) _⟩
end Go.Proofs.Ytjimnlpmmhcdjaa
