/- note: what must come of every program. -/
import Derived.Test.YtmeejbkcaghhgaaDoorNt7
namespace Go.Proofs.YtmeejbkcaghhgaaDoor
open Go.RowKit

theorem lvN_get : getN [6, 2, 7] = some (6, 2, [7]) := by decide +kernel
theorem lvN_get2 : getN [7, 0] = none := by decide +kernel
theorem lvN_ok : okN 6 2 1 = true ∧ okN 0 0 0 = false := by decide +kernel
theorem lvN_name : (nameN 6 2).toArray = #[99, 101, 97, 115, 101, 32, 50] := by decide +kernel
theorem lvN_str : strOfNums [6, 2, 7] = ⟨#[6, 2, 7]⟩ := by decide +kernel
theorem lvN_same : sameN 6 2 [7] 6 2 [7] = true ∧ sameN 6 2 [7] 0 0 [] = false := by decide +kernel
theorem lvN_put (p : Option Addr) (w : World) (hb : BytesAt w p [7]) :
    Calls Tryd.prog 7 #[.agg #[.int .i64 6, .int .i64 2, .slice p 1 1]] w fun e w' => ∃ p cap, e = .returned (.tuple #[.agg #[.int .i64 3, .slice p 3 cap], .int .i64 0]) ∧ Own w' w.heap.size p cap [6, 2, 7] ∧ Below w.heap.size w w' := putN_ok 6 2 p [7] 1 1 w hb rfl lvN_ok.1
theorem lvN_getA (p : Option Addr) (c : Nat) (w : World) (hb : BytesAt w p [6, 2, 7]) (hc : 3 ≤ c) :
    Calls Tryd.prog 11 #[.slice p 3 c] w fun e w' => ∃ p cap, e = .returned (.tuple #[.agg #[.int .i64 6, .int .i64 2, .slice p 1 cap], .int .i64 0]) ∧ Own w' w.heap.size p cap [7] ∧ Below w.heap.size w w' := by
  have h := getN_any p [6, 2, 7] 3 c w hb rfl hc
  rw [lvN_get] at h
  exact h
theorem lvN_getB (p : Option Addr) (w : World) (hb : BytesAt w p [7, 0]) :
    Calls Tryd.prog 11 #[.slice p 2 2] w fun e w' => e = .returned (.tuple #[.agg #[.int .i64 0, .int .i64 0, .slice none 0 0], .int .i64 80]) ∧ Below w.heap.size w w' := by
  have h := getN_any p [7, 0] 2 2 w hb rfl (Nat.le_refl _)
  rw [lvN_get2] at h
  exact h

set_option maxRecDepth 100000 in
set_option maxHeartbeats 4000000 in
theorem lives_any (w : World) (ht : Tabs w) : Calls Tryd.prog 6 #[] w fun e w' => e = .returned (.bool true) ∧ Below w.heap.size w w' := by
  have h0 := two_below w (.cells #[.int .u8 7] 5) (.cells #[.int .i64 6, .int .i64 2, .slice (some ⟨w.heap.size, 0, none⟩) 1 1] 24)
  have Y0 := (one_byte w 7 (by omega) (by omega)).alloc (.cells #[.int .i64 6, .int .i64 2, .slice (some ⟨w.heap.size, 0, none⟩) 1 1] 24)
  have N0 := Blk.new (w.alloc (.cells #[.int .u8 7] 5)) 24 [.int .i64 6, .int .i64 2, .slice (some ⟨w.heap.size, 0, none⟩) 1 1]
  rw [sz_alloc, show ([.int .i64 6, .int .i64 2, .slice (some ⟨w.heap.size, 0, none⟩) 1 1] : List Value).toArray = #[.int .i64 6, .int .i64 2, .slice (some ⟨w.heap.size, 0, none⟩) 1 1] from rfl] at N0
  have hP := lvN_put (some ⟨w.heap.size, 0, none⟩) _ Y0
  obtain ⟨W, hW⟩ : ∃ W, (w.alloc (.cells #[.int .u8 7] 5)).alloc (.cells #[.int .i64 6, .int .i64 2, .slice (some ⟨w.heap.size, 0, none⟩) 1 1] 24) = W := ⟨_, rfl⟩
  rw [hW] at h0 Y0 N0 hP
  have HB := Lib.hid h0
  have HN := Lib.hid N0
  have HY := Lib.hid Y0
  have HP := Lib.hid hP
  have HT := Lib.hid ht
  have HW := Lib.hid hW
  clear h0 Y0 N0 hP hW ht
  go_enter Tryd.func6, Tryd.ntmps6
  go_wp2_with fail
  rw [HW.out]
  refine HP.out.mono ?_; rintro e w1 ⟨p, cap, rfl, hO, hb⟩
  obtain ⟨W1, hW1⟩ : ∃ W1, w1.alloc (.cells #[.int .i64 3, .slice p 3 cap] 27) = W1 := ⟨_, rfl⟩
  have hb1 : Below w1.heap.size w1 W1 := by rw [← hW1]; exact (Below.refl _ _).alloc (Nat.le_refl _) _
  have M1 : Blk W1 w1.heap.size 27 [.int .i64 3, .slice p 3 cap] := by rw [← hW1]; exact Blk.new w1 27 [.int .i64 3, .slice p 3 cap]
  have HB1 := Lib.hid (HB.out.trans ((hb.trans (hb1.mono hb.size)).mono HB.out.size))
  have HN1 := Lib.hid ((HN.out.next hb).next hb1)
  have HY1 := Lib.hid ((HY.out.below hb).below hb1)
  have HO1 := Lib.hid (hO.below hb1)
  have HM1 := Lib.hid M1
  have hcap : 3 ≤ cap := hO.le
  have HG1 := Lib.hid (lvN_getA p cap W1 (hO.below hb1).bytes hcap)
  have HW1 := Lib.hid hW1
  clear hO hb hb1 M1 hW1 HP HB HN HY
  go_wp2_with fail
  rw [HW1.out]
  refine HG1.out.mono ?_; rintro e w2 ⟨p2, cap2, rfl, hO2, hb⟩
  obtain ⟨W2, hW2⟩ : ∃ W2, w2.alloc (.cells #[.int .i64 6, .int .i64 2, .slice p2 1 cap2] 24) = W2 := ⟨_, rfl⟩
  have hb1 : Below w2.heap.size w2 W2 := by rw [← hW2]; exact (Below.refl _ _).alloc (Nat.le_refl _) _
  have K2 : Blk W2 w2.heap.size 24 [.int .i64 6, .int .i64 2, .slice p2 1 cap2] := by rw [← hW2]; exact Blk.new w2 24 [.int .i64 6, .int .i64 2, .slice p2 1 cap2]
  have HB2 := Lib.hid (HB1.out.trans ((hb.trans (hb1.mono hb.size)).mono HB1.out.size))
  have HN2 := Lib.hid ((HN1.out.next hb).next hb1)
  have HY2 := Lib.hid ((HY1.out.below hb).below hb1)
  have HO2 := Lib.hid ((HO1.out.below hb).below hb1)
  have HM2 := Lib.hid ((HM1.out.next hb).next hb1)
  have HP2 := Lib.hid (hO2.below hb1)
  have HK2 := Lib.hid K2
  have HG2 := Lib.hid (putN_no 0 0 none 0 0 W2 lvN_ok.2)
  have HW2 := Lib.hid hW2
  clear hO2 hb hb1 K2 hW2 HG1 HB1 HN1 HY1 HO1 HM1 hcap
  go_wp2_with fail
  rw [HW2.out]
  refine HG2.out.mono ?_; rintro e w3 ⟨rfl, hb⟩
  obtain ⟨W3, hW3⟩ : ∃ W3, (w3.alloc (.cells #[.int .i64 0, .slice none 0 0] 27)).alloc (.cells #[.int .u8 7, .int .u8 0] 5) = W3 := ⟨_, rfl⟩
  have hb1 : Below w3.heap.size w3 W3 := by rw [← hW3]; exact two_below _ _ _
  have Y3 : BytesAt W3 (some ⟨w3.heap.size + 1, 0, none⟩) [7, 0] := by
    have h := (brow_new (w3.alloc (.cells #[.int .i64 0, .slice none 0 0] 27)) [7, 0]).bytes (inByte_all fun y hy => by simp at hy; omega)
    rw [sz_alloc] at h
    rw [← hW3]; exact h
  have HB3 := Lib.hid (HB2.out.trans ((hb.trans (hb1.mono hb.size)).mono HB2.out.size))
  have HN3 := Lib.hid ((HN2.out.next hb).next hb1)
  have HY3 := Lib.hid ((HY2.out.below hb).below hb1)
  have HO3 := Lib.hid ((HO2.out.below hb).below hb1)
  have HM3 := Lib.hid ((HM2.out.next hb).next hb1)
  have HP3 := Lib.hid ((HP2.out.below hb).below hb1)
  have HK3 := Lib.hid ((HK2.out.next hb).next hb1)
  have HG3 := Lib.hid (lvN_getB _ W3 Y3)
  have HW3 := Lib.hid hW3
  clear hb hb1 Y3 hW3 HG2 HB2 HN2 HY2 HO2 HM2 HP2 HK2
  go_wp2_with fail
  rw [HW3.out]
  refine HG3.out.mono ?_; rintro e w4 ⟨rfl, hb⟩
  obtain ⟨W4, hW4⟩ : ∃ W4, w4.alloc (.cells #[.int .i64 0, .int .i64 0, .slice none 0 0] 24) = W4 := ⟨_, rfl⟩
  have hb1 : Below w4.heap.size w4 W4 := by rw [← hW4]; exact (Below.refl _ _).alloc (Nat.le_refl _) _
  have HB4 := Lib.hid (HB3.out.trans ((hb.trans (hb1.mono hb.size)).mono HB3.out.size))
  have HN4 := Lib.hid ((HN3.out.next hb).next hb1)
  have HY4 := Lib.hid ((HY3.out.below hb).below hb1)
  have HP4 := Lib.hid ((HP3.out.below hb).below hb1)
  have HK4 := Lib.hid ((HK3.out.next hb).next hb1)
  have hM4 := (HM3.out.next hb).next hb1
  have C4 := run_text ((HO3.out.below hb).below hb1).bytes cap
  rw [lvN_str, show ([6, 2, 7] : List Int).length = 3 from rfl] at C4
  have m0 := hM4.cell 0 (by simp)
  have m1 := hM4.cell 1 (by simp)
  have hN4 := HN4.out
  have hK4 := HK4.out
  have n0 := hN4.cell 0 (by simp)
  have n1 := hN4.cell 1 (by simp)
  have n2 := hN4.cell 2 (by simp)
  have k0 := hK4.cell 0 (by simp)
  have k1 := hK4.cell 1 (by simp)
  have k2 := hK4.cell 2 (by simp)
  rw [← hW4] at m0 m1 n0 n1 n2 k0 k1 k2 C4
  have HS4 := Lib.hid (sameN_any 6 2 (some ⟨w.heap.size, 0, none⟩) [7] 1 1 6 2 p2 [7] 1 cap2 W4 HY4.out HP4.out.bytes rfl rfl)
  rw [lvN_same.1] at HS4
  have HW4 := Lib.hid hW4
  clear hb hb1 hW4 HG3 HB3 HN3 HY3 HO3 HM3 HP3 HK3 hM4 hN4 hK4
  go_wp2_with fail
  rw [HW4.out]
  clear m0 m1 n0 n1 n2 k0 k1 k2 C4
  refine HS4.out.mono ?_; rintro e w5 ⟨rfl, hb⟩
  have HB5 := Lib.hid (HB4.out.trans (hb.mono HB4.out.size))
  have HN5 := Lib.hid (HN4.out.next hb)
  have HY5 := Lib.hid (HY4.out.below hb)
  have HA5 := Lib.hid (name_ok 6 2 (some ⟨w.heap.size, 0, none⟩) 1 1 w5 (HT.out.below HB5.out) lvN_ok.1)
  rw [lvN_name] at HA5
  have n0 := HN5.out.cell 0 (by simp)
  have n1 := HN5.out.cell 1 (by simp)
  have n2 := HN5.out.cell 2 (by simp)
  clear hb HS4 HB4 HN4 HY4 HP4 HK4
  go_wp2_with fail
  refine HA5.out.mono ?_; rintro e w6 ⟨rfl, hb⟩
  have HB6 := Lib.hid (HB5.out.trans (hb.mono HB5.out.size))
  have HN6 := Lib.hid (HN5.out.next hb)
  have HY6 := Lib.hid (HY5.out.below hb)
  clear n0 n1 n2 hb HB5 HN5 HY5 HA5
  go_wp2_with fail
  refine (name_no 0 0 none 0 0 w6 lvN_ok.2).mono ?_; rintro e w7 ⟨rfl, hb⟩
  have HB7 := Lib.hid (HB6.out.trans (hb.mono HB6.out.size))
  have HN7 := Lib.hid (HN6.out.next hb)
  have HY7 := Lib.hid (HY6.out.below hb)
  have n0 := HN7.out.cell 0 (by simp)
  have n1 := HN7.out.cell 1 (by simp)
  have n2 := HN7.out.cell 2 (by simp)
  have HC7 := Lib.hid (checkN_any 6 2 (some ⟨w.heap.size, 0, none⟩) 1 1 w7)
  rw [errN_yes lvN_ok.1] at HC7
  clear hb HB6 HN6 HY6
  go_wp2_with fail
  refine HC7.out.mono ?_; rintro e w8 ⟨rfl, hb⟩
  have HB8 := Lib.hid (HB7.out.trans (hb.mono HB7.out.size))
  have HN8 := Lib.hid (HN7.out.next hb)
  have HS8 := Lib.hid (sameN_any 6 2 (some ⟨w.heap.size, 0, none⟩) [7] 1 1 0 0 none [] 0 0 w8 (HY7.out.below hb) (BytesAt.nil _ _) rfl rfl)
  rw [lvN_same.2] at HS8
  clear n0 n1 n2
  have n0 := HN8.out.cell 0 (by simp)
  have n1 := HN8.out.cell 1 (by simp)
  have n2 := HN8.out.cell 2 (by simp)
  clear hb HB7 HN7 HY7 HC7
  go_wp2_with fail
  refine HS8.out.mono ?_; rintro e w9 ⟨rfl, hb⟩
  have HB9 := Lib.hid (HB8.out.trans (hb.mono HB8.out.size))
  clear hb n0 n1 n2
  go_wp2_with fail
  go_ret
  exact ⟨rfl, HB9.out⟩
end Go.Proofs.YtmeejbkcaghhgaaDoor
