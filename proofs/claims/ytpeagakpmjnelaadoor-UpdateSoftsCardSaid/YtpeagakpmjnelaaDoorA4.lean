/- attr: attribute. -/
import Derived.Test.YtpeagakpmjnelaaDoorA3
namespace Go.Proofs.YtpeagakpmjnelaaDoor.Ax
open Go.RowKit
set_option maxRecDepth 100000

def flagsL : List Int := [0, 64, 64, 64, 128, 64, 0, 0, 192]
/-- The table as its initialiser lays it. -/
def Tab (w : World) : Prop := ∀ i, i < 9 → w.cell? ⟨0, i, none⟩ = some (.int .i64 (flagsL.getD i 0))
theorem Tab.below {w w' : World} (h : Tab w) (hb : Below w.heap.size w w') : Tab w' := fun i hi => kept hb (h i hi)
/-- One attribute's bytes. -/
def attrL (fl k : Int) (data : List Int) : List Int := if data.length ≤ 255 then fl :: k :: (data.length : Int) :: data else (fl + 16) :: k :: (putL (data.length : Int) 2 ++ data)
theorem nums1_two {a b : Int} (ha : 0 ≤ a ∧ a ≤ 255) (hb : 0 ≤ b ∧ b ≤ 255) : numsL 1 [a, b] = [a, b] := by
  simp [numsL, putL_one ha.1 ha.2, putL_one hb.1 hb.2]
theorem nums1_one {a : Int} (ha : 0 ≤ a ∧ a ≤ 255) : numsL 1 [a] = [a] := by
  simp [numsL, putL_one ha.1 ha.2]
theorem nums_one (wide : Nat) (a : Int) : numsL wide [a] = putL a wide := by simp [numsL]

set_option maxHeartbeats 1000000 in
theorem attr_s64 (k : Nat) (p : Option Addr) (xs : List Int) (n c : Nat) (w : World) (ht : Tab w) (hk : k < 9) (hfl : flagsL.getD k 0 = 64) (hb : BytesAt w p xs) (hn : xs.length = n) (hl : n ≤ 255) :
    Calls Tryd.prog 71 #[.int .i64 k, .slice p n c] w fun e w' => RetBn w w' (64 :: (k : Int) :: ([(n : Int)] ++ xs)) (2 + 1 + n) e := by
  have c0 := ht k hk
  rw [hfl] at c0
  have HN := Lib.hid hn
  have HY := Lib.hid hb
  have t1 : decide ((255 : Int) < (n : Int)) = false := by simp; omega
  have hor : bits BinOp.or IntKind.i64 64 16 = 80 := by decide
  have HI := Lib.hid (ints2 w 64 (k : Int))
  have HNA := Lib.hid (new_below w (.cells #[.int .i64 64, .int .i64 (k : Int)] 3))
  have hk0 : (0 : Int) ≤ (k : Int) ∧ (k : Int) < 9 := by omega
  clear ht hn hb hfl
  go_enter Tryd.func71, Tryd.ntmps71
  go_wp2_with fail
  (with_reducible refine (numbers_new 1 1 rfl _ [64, (k : Int)] 2 2 2 _ (by omega) (by omega) HI.out rfl (by omega) rfl (fit2 (fit_byte (by omega) (by omega)) (fit_byte (by omega) (by omega)))).mono ?_); rintro e w1 ⟨q, cap, rfl, hO, hb⟩
  rw [nums1_two (by omega) (by omega)] at hO
  have HB1 := Lib.hid (HNA.out.trans (hb.mono HNA.out.size))
  have HO1 := Lib.hid ((hO.mono HNA.out.size).alloc (.cells #[.int .i64 (n : Int)] 3))
  have HI1 := Lib.hid (ints1 w1 (n : Int))
  have HA1 := Lib.hid (new_below w1 (.cells #[.int .i64 (n : Int)] 3))
  clear hO hb HI c0
  go_wp2_with fail
  (with_reducible refine (numbers_new 1 1 rfl _ [(n : Int)] 1 1 1 _ (by omega) (by omega) HI1.out rfl (by omega) rfl (fit1 (fit_byte (by omega) (by omega)))).mono ?_); rintro e w2 ⟨q2, cap2, rfl, hO, hb⟩
  rw [nums1_one (by omega)] at hO
  have HB2 := Lib.hid (HB1.out.trans ((HA1.out.trans (hb.mono HA1.out.size)).mono HB1.out.size))
  have HO2 := Lib.hid (HO1.out.below hb)
  have HR2 := Lib.hid hO.bytes
  clear hO hb
  go_wp2_with (first
    | (refine wpList_appo (o := ⟨some 26, _, _, _, _, _⟩) (by rfl) (.tmp 20) (.tmp 25) (by rfl) w.heap.size q cap [64, (k : Int)] HO2.out 2 (by rfl) (by rfl) q2 1 cap2 [(n : Int)] HR2.out (by rfl) (by rfl) (2 + 1) (by rfl) (by omega) HB2.out.size ?_; intro q3 cap3 w3 hO3 hB3 hG3; have HB3 := Lib.hid (HB2.out.trans hB3.out); have HY3 := Lib.hid (HY.out.below HB3.out))
    | (refine wpList_appo (o := ⟨some 29, _, _, _, _, _⟩) (by rfl) (.tmp 27) (.tmp 28) (by rfl) w.heap.size q3 cap3 ([64, (k : Int)] ++ [(n : Int)]) hO3.out (2 + 1) (by rfl) (by rfl) p n c xs HY3.out HN.out (by rfl) (2 + 1 + n) (by rfl) (by omega) HB3.out.size ?_; intro q4 cap4 w4 hO4 hB4 hG4))
  go_ret
  exact ⟨q4, cap4, rfl, hO4.out, HB3.out.trans hB4.out⟩

set_option maxHeartbeats 1000000 in
theorem attr_l64 (k : Nat) (p : Option Addr) (xs : List Int) (n c : Nat) (w : World) (ht : Tab w) (hk : k < 9) (hfl : flagsL.getD k 0 = 64) (hb : BytesAt w p xs) (hn : xs.length = n) (hl : 255 < n ∧ n ≤ 65535) :
    Calls Tryd.prog 71 #[.int .i64 k, .slice p n c] w fun e w' => RetBn w w' (80 :: (k : Int) :: ((putL (n : Int) 2) ++ xs)) (2 + 2 + n) e := by
  have c0 := ht k hk
  rw [hfl] at c0
  have HN := Lib.hid hn
  have HY := Lib.hid hb
  have t1 : decide ((255 : Int) < (n : Int)) = true := by simp; omega
  have hor : bits BinOp.or IntKind.i64 64 16 = 80 := by decide
  have HI := Lib.hid (ints2 w 80 (k : Int))
  have HNA := Lib.hid (new_below w (.cells #[.int .i64 80, .int .i64 (k : Int)] 3))
  have hk0 : (0 : Int) ≤ (k : Int) ∧ (k : Int) < 9 := by omega
  clear ht hn hb hfl
  go_enter Tryd.func71, Tryd.ntmps71
  go_wp2_with fail
  (with_reducible refine (numbers_new 1 1 rfl _ [80, (k : Int)] 2 2 2 _ (by omega) (by omega) HI.out rfl (by omega) rfl (fit2 (fit_byte (by omega) (by omega)) (fit_byte (by omega) (by omega)))).mono ?_); rintro e w1 ⟨q, cap, rfl, hO, hb⟩
  rw [nums1_two (by omega) (by omega)] at hO
  have HB1 := Lib.hid (HNA.out.trans (hb.mono HNA.out.size))
  have HO1 := Lib.hid ((hO.mono HNA.out.size).alloc (.cells #[.int .i64 (n : Int)] 3))
  have HI1 := Lib.hid (ints1 w1 (n : Int))
  have HA1 := Lib.hid (new_below w1 (.cells #[.int .i64 (n : Int)] 3))
  clear hO hb HI c0
  go_wp2_with fail
  (with_reducible refine (numbers_new 2 2 rfl _ [(n : Int)] 1 1 2 _ (by omega) (by omega) HI1.out rfl (by omega) rfl (fit1 (fit_two (by omega) (by omega)))).mono ?_); rintro e w2 ⟨q2, cap2, rfl, hO, hb⟩
  rw [nums_one] at hO
  have HB2 := Lib.hid (HB1.out.trans ((HA1.out.trans (hb.mono HA1.out.size)).mono HB1.out.size))
  have HO2 := Lib.hid (HO1.out.below hb)
  have HR2 := Lib.hid hO.bytes
  clear hO hb
  go_wp2_with (first
    | (refine wpList_appo (o := ⟨some 26, _, _, _, _, _⟩) (by rfl) (.tmp 20) (.tmp 25) (by rfl) w.heap.size q cap [80, (k : Int)] HO2.out 2 (by rfl) (by rfl) q2 2 cap2 (putL (n : Int) 2) HR2.out (putL_len ..) (by rfl) (2 + 2) (by rfl) (by omega) HB2.out.size ?_; intro q3 cap3 w3 hO3 hB3 hG3; have HB3 := Lib.hid (HB2.out.trans hB3.out); have HY3 := Lib.hid (HY.out.below HB3.out))
    | (refine wpList_appo (o := ⟨some 29, _, _, _, _, _⟩) (by rfl) (.tmp 27) (.tmp 28) (by rfl) w.heap.size q3 cap3 ([80, (k : Int)] ++ (putL (n : Int) 2)) hO3.out (2 + 2) (by rfl) (by rfl) p n c xs HY3.out HN.out (by rfl) (2 + 2 + n) (by rfl) (by omega) HB3.out.size ?_; intro q4 cap4 w4 hO4 hB4 hG4))
  go_ret
  exact ⟨q4, cap4, rfl, hO4.out, HB3.out.trans hB4.out⟩

set_option maxHeartbeats 1000000 in
theorem attr_s128 (k : Nat) (p : Option Addr) (xs : List Int) (n c : Nat) (w : World) (ht : Tab w) (hk : k < 9) (hfl : flagsL.getD k 0 = 128) (hb : BytesAt w p xs) (hn : xs.length = n) (hl : n ≤ 255) :
    Calls Tryd.prog 71 #[.int .i64 k, .slice p n c] w fun e w' => RetBn w w' (128 :: (k : Int) :: ([(n : Int)] ++ xs)) (2 + 1 + n) e := by
  have c0 := ht k hk
  rw [hfl] at c0
  have HN := Lib.hid hn
  have HY := Lib.hid hb
  have t1 : decide ((255 : Int) < (n : Int)) = false := by simp; omega
  have hor : bits BinOp.or IntKind.i64 128 16 = 144 := by decide
  have HI := Lib.hid (ints2 w 128 (k : Int))
  have HNA := Lib.hid (new_below w (.cells #[.int .i64 128, .int .i64 (k : Int)] 3))
  have hk0 : (0 : Int) ≤ (k : Int) ∧ (k : Int) < 9 := by omega
  clear ht hn hb hfl
  go_enter Tryd.func71, Tryd.ntmps71
  go_wp2_with fail
  (with_reducible refine (numbers_new 1 1 rfl _ [128, (k : Int)] 2 2 2 _ (by omega) (by omega) HI.out rfl (by omega) rfl (fit2 (fit_byte (by omega) (by omega)) (fit_byte (by omega) (by omega)))).mono ?_); rintro e w1 ⟨q, cap, rfl, hO, hb⟩
  rw [nums1_two (by omega) (by omega)] at hO
  have HB1 := Lib.hid (HNA.out.trans (hb.mono HNA.out.size))
  have HO1 := Lib.hid ((hO.mono HNA.out.size).alloc (.cells #[.int .i64 (n : Int)] 3))
  have HI1 := Lib.hid (ints1 w1 (n : Int))
  have HA1 := Lib.hid (new_below w1 (.cells #[.int .i64 (n : Int)] 3))
  clear hO hb HI c0
  go_wp2_with fail
  (with_reducible refine (numbers_new 1 1 rfl _ [(n : Int)] 1 1 1 _ (by omega) (by omega) HI1.out rfl (by omega) rfl (fit1 (fit_byte (by omega) (by omega)))).mono ?_); rintro e w2 ⟨q2, cap2, rfl, hO, hb⟩
  rw [nums1_one (by omega)] at hO
  have HB2 := Lib.hid (HB1.out.trans ((HA1.out.trans (hb.mono HA1.out.size)).mono HB1.out.size))
  have HO2 := Lib.hid (HO1.out.below hb)
  have HR2 := Lib.hid hO.bytes
  clear hO hb
  go_wp2_with (first
    | (refine wpList_appo (o := ⟨some 26, _, _, _, _, _⟩) (by rfl) (.tmp 20) (.tmp 25) (by rfl) w.heap.size q cap [128, (k : Int)] HO2.out 2 (by rfl) (by rfl) q2 1 cap2 [(n : Int)] HR2.out (by rfl) (by rfl) (2 + 1) (by rfl) (by omega) HB2.out.size ?_; intro q3 cap3 w3 hO3 hB3 hG3; have HB3 := Lib.hid (HB2.out.trans hB3.out); have HY3 := Lib.hid (HY.out.below HB3.out))
    | (refine wpList_appo (o := ⟨some 29, _, _, _, _, _⟩) (by rfl) (.tmp 27) (.tmp 28) (by rfl) w.heap.size q3 cap3 ([128, (k : Int)] ++ [(n : Int)]) hO3.out (2 + 1) (by rfl) (by rfl) p n c xs HY3.out HN.out (by rfl) (2 + 1 + n) (by rfl) (by omega) HB3.out.size ?_; intro q4 cap4 w4 hO4 hB4 hG4))
  go_ret
  exact ⟨q4, cap4, rfl, hO4.out, HB3.out.trans hB4.out⟩

set_option maxHeartbeats 1000000 in
theorem attr_s192 (k : Nat) (p : Option Addr) (xs : List Int) (n c : Nat) (w : World) (ht : Tab w) (hk : k < 9) (hfl : flagsL.getD k 0 = 192) (hb : BytesAt w p xs) (hn : xs.length = n) (hl : n ≤ 255) :
    Calls Tryd.prog 71 #[.int .i64 k, .slice p n c] w fun e w' => RetBn w w' (192 :: (k : Int) :: ([(n : Int)] ++ xs)) (2 + 1 + n) e := by
  have c0 := ht k hk
  rw [hfl] at c0
  have HN := Lib.hid hn
  have HY := Lib.hid hb
  have t1 : decide ((255 : Int) < (n : Int)) = false := by simp; omega
  have hor : bits BinOp.or IntKind.i64 192 16 = 208 := by decide
  have HI := Lib.hid (ints2 w 192 (k : Int))
  have HNA := Lib.hid (new_below w (.cells #[.int .i64 192, .int .i64 (k : Int)] 3))
  have hk0 : (0 : Int) ≤ (k : Int) ∧ (k : Int) < 9 := by omega
  clear ht hn hb hfl
  go_enter Tryd.func71, Tryd.ntmps71
  go_wp2_with fail
  (with_reducible refine (numbers_new 1 1 rfl _ [192, (k : Int)] 2 2 2 _ (by omega) (by omega) HI.out rfl (by omega) rfl (fit2 (fit_byte (by omega) (by omega)) (fit_byte (by omega) (by omega)))).mono ?_); rintro e w1 ⟨q, cap, rfl, hO, hb⟩
  rw [nums1_two (by omega) (by omega)] at hO
  have HB1 := Lib.hid (HNA.out.trans (hb.mono HNA.out.size))
  have HO1 := Lib.hid ((hO.mono HNA.out.size).alloc (.cells #[.int .i64 (n : Int)] 3))
  have HI1 := Lib.hid (ints1 w1 (n : Int))
  have HA1 := Lib.hid (new_below w1 (.cells #[.int .i64 (n : Int)] 3))
  clear hO hb HI c0
  go_wp2_with fail
  (with_reducible refine (numbers_new 1 1 rfl _ [(n : Int)] 1 1 1 _ (by omega) (by omega) HI1.out rfl (by omega) rfl (fit1 (fit_byte (by omega) (by omega)))).mono ?_); rintro e w2 ⟨q2, cap2, rfl, hO, hb⟩
  rw [nums1_one (by omega)] at hO
  have HB2 := Lib.hid (HB1.out.trans ((HA1.out.trans (hb.mono HA1.out.size)).mono HB1.out.size))
  have HO2 := Lib.hid (HO1.out.below hb)
  have HR2 := Lib.hid hO.bytes
  clear hO hb
  go_wp2_with (first
    | (refine wpList_appo (o := ⟨some 26, _, _, _, _, _⟩) (by rfl) (.tmp 20) (.tmp 25) (by rfl) w.heap.size q cap [192, (k : Int)] HO2.out 2 (by rfl) (by rfl) q2 1 cap2 [(n : Int)] HR2.out (by rfl) (by rfl) (2 + 1) (by rfl) (by omega) HB2.out.size ?_; intro q3 cap3 w3 hO3 hB3 hG3; have HB3 := Lib.hid (HB2.out.trans hB3.out); have HY3 := Lib.hid (HY.out.below HB3.out))
    | (refine wpList_appo (o := ⟨some 29, _, _, _, _, _⟩) (by rfl) (.tmp 27) (.tmp 28) (by rfl) w.heap.size q3 cap3 ([192, (k : Int)] ++ [(n : Int)]) hO3.out (2 + 1) (by rfl) (by rfl) p n c xs HY3.out HN.out (by rfl) (2 + 1 + n) (by rfl) (by omega) HB3.out.size ?_; intro q4 cap4 w4 hO4 hB4 hG4))
  go_ret
  exact ⟨q4, cap4, rfl, hO4.out, HB3.out.trans hB4.out⟩

set_option maxHeartbeats 1000000 in
theorem attr_l192 (k : Nat) (p : Option Addr) (xs : List Int) (n c : Nat) (w : World) (ht : Tab w) (hk : k < 9) (hfl : flagsL.getD k 0 = 192) (hb : BytesAt w p xs) (hn : xs.length = n) (hl : 255 < n ∧ n ≤ 65535) :
    Calls Tryd.prog 71 #[.int .i64 k, .slice p n c] w fun e w' => RetBn w w' (208 :: (k : Int) :: ((putL (n : Int) 2) ++ xs)) (2 + 2 + n) e := by
  have c0 := ht k hk
  rw [hfl] at c0
  have HN := Lib.hid hn
  have HY := Lib.hid hb
  have t1 : decide ((255 : Int) < (n : Int)) = true := by simp; omega
  have hor : bits BinOp.or IntKind.i64 192 16 = 208 := by decide
  have HI := Lib.hid (ints2 w 208 (k : Int))
  have HNA := Lib.hid (new_below w (.cells #[.int .i64 208, .int .i64 (k : Int)] 3))
  have hk0 : (0 : Int) ≤ (k : Int) ∧ (k : Int) < 9 := by omega
  clear ht hn hb hfl
  go_enter Tryd.func71, Tryd.ntmps71
  go_wp2_with fail
  (with_reducible refine (numbers_new 1 1 rfl _ [208, (k : Int)] 2 2 2 _ (by omega) (by omega) HI.out rfl (by omega) rfl (fit2 (fit_byte (by omega) (by omega)) (fit_byte (by omega) (by omega)))).mono ?_); rintro e w1 ⟨q, cap, rfl, hO, hb⟩
  rw [nums1_two (by omega) (by omega)] at hO
  have HB1 := Lib.hid (HNA.out.trans (hb.mono HNA.out.size))
  have HO1 := Lib.hid ((hO.mono HNA.out.size).alloc (.cells #[.int .i64 (n : Int)] 3))
  have HI1 := Lib.hid (ints1 w1 (n : Int))
  have HA1 := Lib.hid (new_below w1 (.cells #[.int .i64 (n : Int)] 3))
  clear hO hb HI c0
  go_wp2_with fail
  (with_reducible refine (numbers_new 2 2 rfl _ [(n : Int)] 1 1 2 _ (by omega) (by omega) HI1.out rfl (by omega) rfl (fit1 (fit_two (by omega) (by omega)))).mono ?_); rintro e w2 ⟨q2, cap2, rfl, hO, hb⟩
  rw [nums_one] at hO
  have HB2 := Lib.hid (HB1.out.trans ((HA1.out.trans (hb.mono HA1.out.size)).mono HB1.out.size))
  have HO2 := Lib.hid (HO1.out.below hb)
  have HR2 := Lib.hid hO.bytes
  clear hO hb
  go_wp2_with (first
    | (refine wpList_appo (o := ⟨some 26, _, _, _, _, _⟩) (by rfl) (.tmp 20) (.tmp 25) (by rfl) w.heap.size q cap [208, (k : Int)] HO2.out 2 (by rfl) (by rfl) q2 2 cap2 (putL (n : Int) 2) HR2.out (putL_len ..) (by rfl) (2 + 2) (by rfl) (by omega) HB2.out.size ?_; intro q3 cap3 w3 hO3 hB3 hG3; have HB3 := Lib.hid (HB2.out.trans hB3.out); have HY3 := Lib.hid (HY.out.below HB3.out))
    | (refine wpList_appo (o := ⟨some 29, _, _, _, _, _⟩) (by rfl) (.tmp 27) (.tmp 28) (by rfl) w.heap.size q3 cap3 ([208, (k : Int)] ++ (putL (n : Int) 2)) hO3.out (2 + 2) (by rfl) (by rfl) p n c xs HY3.out HN.out (by rfl) (2 + 2 + n) (by rfl) (by omega) HB3.out.size ?_; intro q4 cap4 w4 hO4 hB4 hG4))
  go_ret
  exact ⟨q4, cap4, rfl, hO4.out, HB3.out.trans hB4.out⟩

theorem attrL_short {fl k : Int} {data : List Int} {n : Nat} (hn : data.length = n) (h : n ≤ 255) : attrL fl k data = fl :: k :: ([(n : Int)] ++ data) := by
  unfold attrL; rw [if_pos (by omega), hn]; rfl
theorem attrL_long {fl k : Int} {data : List Int} {n : Nat} (hn : data.length = n) (h : 255 < n) : attrL fl k data = (fl + 16) :: k :: (putL (n : Int) 2 ++ data) := by
  unfold attrL; rw [if_neg (by omega), hn]
def attrN (n : Nat) : Nat := if n ≤ 255 then 3 + n else 4 + n
/-- An attribute of a type that is known. -/
theorem attribute_any (k : Nat) (fl : Int) (p : Option Addr) (xs : List Int) (n c : Nat) (w : World) (ht : Tab w) (hk : k < 9) (hfl : flagsL.getD k 0 = fl) (h3 : fl = 64 ∨ (fl = 128 ∧ n ≤ 255) ∨ fl = 192) (hb : BytesAt w p xs) (hn : xs.length = n) (hl : n ≤ 65535) :
    Calls Tryd.prog 71 #[.int .i64 k, .slice p n c] w fun e w' => RetBn w w' (attrL fl k xs) (attrN n) e := by
  by_cases h : n ≤ 255
  · rw [attrL_short hn h, show attrN n = 2 + 1 + n from by unfold attrN; rw [if_pos h]]
    rcases h3 with rfl | ⟨rfl, _⟩ | rfl
    · exact attr_s64 k p xs n c w ht hk hfl hb hn h
    · exact attr_s128 k p xs n c w ht hk hfl hb hn h
    · exact attr_s192 k p xs n c w ht hk hfl hb hn h
  · rw [attrL_long hn (by omega), show attrN n = 2 + 2 + n from by unfold attrN; rw [if_neg h]]
    rcases h3 with rfl | ⟨rfl, h255⟩ | rfl
    · exact attr_l64 k p xs n c w ht hk hfl hb hn ⟨by omega, hl⟩
    · omega
    · exact attr_l192 k p xs n c w ht hk hfl hb hn ⟨by omega, hl⟩
theorem attrL_len (fl k : Int) (xs : List Int) : (attrL fl k xs).length = attrN xs.length := by
  unfold attrL attrN
  split
  · simp; omega
  · simp [putL_len]; omega
end Go.Proofs.YtpeagakpmjnelaaDoor.Ax
