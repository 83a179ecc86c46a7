/- 'AddrCodes': any prefix's bytes; what any bytes begin with. -/
import Derived.Test.YtbkpbjjddgmilaaDoorRGetB02
import Derived.Test.YtbkpbjjddgmilaaDoorByA
import Derived.Test.YtbkpbjjddgmilaaDoorLaws02
namespace Go.Proofs.YtbkpbjjddgmilaaDoor
open Go.RowKit

theorem nat_dvd_back {A p q : Nat} (h : A / 2 ^ p * 2 ^ p = A) (hqp : q ≤ p) : A / 2 ^ q * 2 ^ q = A := by
  have h1 : 2 ^ q ∣ 2 ^ p := Nat.pow_dvd_pow 2 hqp
  have h2 : 2 ^ p ∣ A := ⟨A / 2 ^ p, by rw [Nat.mul_comm]; exact h.symm⟩
  exact Nat.div_mul_cancel (Nat.dvd_trans h1 h2)
theorem pad_back (A k : Nat) (hk : k ≤ 4) (hA : A < 4294967296) (h : A / 2 ^ (8 * (4 - k)) * 2 ^ (8 * (4 - k)) = A) :
    getV ((putL (A : Int) 4).take k ++ List.replicate (4 - k) 0) = A := by
  have : k = 0 ∨ k = 1 ∨ k = 2 ∨ k = 3 ∨ k = 4 := by omega
  rcases this with rfl | rfl | rfl | rfl | rfl
  · rw [show (2 : Nat) ^ (8 * (4 - 0)) = 4294967296 from rfl] at h
    simp [putL, List.range_succ, byteOf, getV, List.replicate]; omega
  · rw [show (2 : Nat) ^ (8 * (4 - 1)) = 16777216 from rfl] at h
    simp [putL, List.range_succ, byteOf, getV, List.replicate]; omega
  · rw [show (2 : Nat) ^ (8 * (4 - 2)) = 65536 from rfl] at h
    simp [putL, List.range_succ, byteOf, getV, List.replicate]; omega
  · rw [show (2 : Nat) ^ (8 * (4 - 3)) = 256 from rfl] at h
    simp [putL, List.range_succ, byteOf, getV]; omega
  · simp [putL, List.range_succ, byteOf, getV]; omega
theorem okP_eq {a n : Int} (h : okP a n = true) : a = mk a n ∧ n = cl n := by
  simpa [okP] using h
theorem pfx_got {a n : Int} (xs : List Int) (h0 : 0 ≤ a) (h1 : a < 4294967296) (hk : okP a n = true) : gotP (pfxL a n ++ xs) = some (a, n, (pfxL a n).length) := by
  have ⟨n0, n1⟩ := okP_len hk
  obtain ⟨N, rfl⟩ := Int.eq_ofNat_of_zero_le n0
  obtain ⟨A, rfl⟩ := Int.eq_ofNat_of_zero_le h0
  have hN : N ≤ 32 := by omega
  have hA : A < 4294967296 := by omega
  obtain ⟨k, hkk⟩ : ∃ k, (N + 7) / 8 = k := ⟨_, rfl⟩
  have hk4 : k ≤ 4 := by omega
  have hm := (okP_eq hk).1
  rw [mk_div A N hA hN] at hm
  have hb := pad_back A k hk4 hA (nat_dvd_back (p := 32 - N) (by omega) (by omega))
  have hl : ((putL (A : Int) 4).take k).length = k := by rw [List.length_take, putL_len]; omega
  unfold pfxL
  rw [Int.toNat_natCast, hkk, List.cons_append]
  simp only [gotP]
  rw [if_neg (by omega), Int.toNat_natCast, hkk, if_neg (by rw [List.length_append, hl]; omega)]
  rw [List.take_append_of_le_length (by rw [hl]; exact Nat.le_refl _), List.take_of_length_le (by rw [hl]; exact Nat.le_refl _), hb, List.length_cons, hl]
theorem pfxL_byte {a n : Int} (hk : okP a n = true) : InByte (pfxL a n) := by
  have ⟨n0, n1⟩ := okP_len hk
  refine inByte_all fun x hx => ?_
  unfold pfxL at hx
  rcases List.mem_cons.1 hx with rfl | hx
  · omega
  · have := List.mem_of_mem_take hx
    obtain ⟨j, hj, rfl⟩ := List.mem_iff_getElem.1 this
    have := putL_byte a 4 j hj
    simpa [List.getD, List.getElem?_eq_getElem hj] using this

def PSt (w W : World) (a n : Int) (g h : Nat) (A M : Int) : Prop := Tab W ∧ Box W w.heap.size (.int .u32 a) (.int .i64 n) ∧ Box W g (.int .u32 A) (.int .i64 M) ∧ Box W h (.int .u32 A) (.int .i64 M) ∧ Below w.heap.size w W
theorem PSt.next {w W W' : World} {a n : Int} {g h : Nat} {A M : Int} (s : PSt w W a n g h A M) (hb : Below W.heap.size W W') : PSt w W' a n g h A M :=
  ⟨s.1.below hb, s.2.1.below hb, s.2.2.1.below hb, s.2.2.2.1.below hb, s.2.2.2.2.trans (hb.mono s.2.2.2.2.size)⟩

set_option maxRecDepth 100000 in
set_option maxHeartbeats 2000000 in
theorem codesA_no (a n : Int) (p : Option Addr) (xs : List Int) (l cap : Nat) (w : World) (ht : Tab w) (a0 : 0 ≤ a) (a1 : a < 4294967296) (hk : okP a n = false) (hb : BytesAt w p xs) (hl : xs.length = l) (hl1 : l ≤ 1000) (_ : l ≤ cap) (_ : cap ≤ 9223372036854775807)
    (A M C E : Int) (B : Bool) (hEB : (E = 20 ∧ B = false) ∨ (E = 0 ∧ B = true))
    (hG : ∀ w, BytesAt w p xs → Calls Tryd.prog 32 #[.slice p l cap] w fun e w' => e = .returned (.tuple #[.agg #[.int .u32 A, .int .i64 M], .int .i64 C, .int .i64 E]) ∧ Below w.heap.size w w')
    (hR : ∀ w, BytesAt w p xs → Calls Tryd.prog 33 #[.slice p l cap] w fun e w' => e = .returned (.tuple #[.agg #[.int .u32 A, .int .i64 M], .int .i64 C, .bool B]) ∧ Below w.heap.size w w') :
    Calls Tryd.prog 7 #[.agg #[.int .u32 a, .int .i64 n], .slice p l cap] w fun e w' => e = .returned (.bool true) ∧ Below w.heap.size w w' := by
  have hq : ∀ w, (binOp .neq 24 (.agg #[.int .u32 A, .int .i64 M]) (.agg #[.int .u32 A, .int .i64 M])).run Tryd.prog w = .ok (.bool false) w := fun w => by rw [pfx_neq]; simp
  have hg := pfx_eqGuard
  have HP := Lib.hid (fun w => putp_no a n w hk)
  have HD := Lib.hid (fun w => show Calls Tryd.prog 10 #[.agg #[.int .u32 a, .int .i64 n]] w fun e w' => e = .returned (.bool false) ∧ Below w.heap.size w w' from by have := rcheck_any a n w a0 a1; rwa [hk] at this)
  have HG := Lib.hid hG
  have HR := Lib.hid hR
  have HY := Lib.hid hb
  have HT := Lib.hid ht
  have X0 := Lib.hid (Box.new w (.int .u32 a) (.int .i64 n))
  have B0 := Lib.hid ((Below.refl w.heap.size w).alloc (Nat.le_refl _) (.cells #[.int .u32 a, .int .i64 n] 24))
  have t1 : decide ((1000 : Int) < (l : Int)) = false := by simp; omega
  clear hk hG hR hb ht hl
  go_enter Tryd.func7, Tryd.ntmps7
  go_wp2_with fail
  refine (HP.out _).mono ?_; rintro e w1 ⟨rfl, hb⟩
  have B1 := Lib.hid (B0.out.trans (hb.mono B0.out.size))
  have X1 := Lib.hid (X0.out.below hb)
  clear hb
  go_wp2_with fail
  refine (HG.out w1 (HY.out.below B1.out)).mono ?_; rintro e w2 ⟨rfl, hb⟩
  have hal := (Below.refl w2.heap.size w2).alloc (Nat.le_refl _) (.cells #[.int .u32 A, .int .i64 M] 24)
  have B2 := Lib.hid ((B1.out.trans (hb.mono B1.out.size)).trans (hal.mono (Nat.le_trans B1.out.size hb.size)))
  have X2 := Lib.hid ((X1.out.below hb).below hal)
  have Y2 := Lib.hid (Box.new w2 (.int .u32 A) (.int .i64 M))
  clear hb hal
  go_wp2_with fail
  refine (HR.out _ (HY.out.below B2.out)).mono ?_; rintro e w3 ⟨rfl, hb⟩
  have hal := (Below.refl w3.heap.size w3).alloc (Nat.le_refl _) (.cells #[.int .u32 A, .int .i64 M] 24)
  have S3 := Lib.hid (show PSt w (w3.alloc (.cells #[.int .u32 A, .int .i64 M] 24)) a n w2.heap.size w3.heap.size A M from
    have hb2 := hb.trans (hal.mono hb.size)
    have hB := B2.out.trans (hb2.mono B2.out.size)
    ⟨HT.out.below hB, X2.out.below hb2, Y2.out.below hb2, Box.new w3 _ _, hB⟩)
  have HL := Lib.hid (lives_any _ S3.out.1)
  clear hb hal X2 Y2
  go_wp2_with fail
  refine HL.out.mono ?_; rintro e w4 ⟨rfl, hb⟩
  have S4 := Lib.hid (S3.out.next hb)
  have c0 := S4.out.2.1.c0
  have c1 := S4.out.2.1.c1
  have d0 := S4.out.2.2.1.c0
  have d1 := S4.out.2.2.1.c1
  have e0 := S4.out.2.2.2.1.c0
  have e1 := S4.out.2.2.2.1.c1
  clear hb HL S3
  rcases hEB with ⟨rfl, rfl⟩ | ⟨rfl, rfl⟩
  · go_wp2_with fail
    refine (HD.out _).mono ?_; rintro e w5 ⟨rfl, hb⟩
    have B5 := Lib.hid (S4.out.2.2.2.2.trans (hb.mono S4.out.2.2.2.2.size))
    clear hb
    go_wp2_with fail
    go_ret
    exact ⟨rfl, B5.out⟩
  · go_wp2_with fail
    refine (HD.out _).mono ?_; rintro e w5 ⟨rfl, hb⟩
    have B5 := Lib.hid (S4.out.2.2.2.2.trans (hb.mono S4.out.2.2.2.2.size))
    clear hb
    go_wp2_with fail
    go_ret
    exact ⟨rfl, B5.out⟩
end Go.Proofs.YtbkpbjjddgmilaaDoor
