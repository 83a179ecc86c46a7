/- frame: the head of what was put; 'FrameTells'. -/
import Derived.Test.YtondoljehdhocaaDoorF9
namespace Go.Proofs.YtondoljehdhocaaDoor
open Go.RowKit

theorem putL_two (v : Int) : putL v 2 = [byteOf v 2 0, byteOf v 2 1] := by simp [putL, List.range_succ]
theorem putM_shape (k : Int) (ys zs : List Int) : putM k ys ++ zs = 255 :: 255 :: 255 :: 255 :: 255 :: 255 :: 255 :: 255 :: 255 :: 255 :: 255 :: 255 :: 255 :: 255 :: 255 :: 255 :: byteOf (19 + ys.length) 2 0 :: byteOf (19 + ys.length) 2 1 :: k :: (ys ++ zs) := by
  unfold putM; rw [putL_two]; simp [List.replicate]
theorem marks16 (t : List Int) : marksB (255 :: 255 :: 255 :: 255 :: 255 :: 255 :: 255 :: 255 :: 255 :: 255 :: 255 :: 255 :: 255 :: 255 :: 255 :: 255 :: t) = true := by
  unfold marksB
  simp [List.range_succ]
theorem headM_put {k : Int} {ys : List Int} (zs : List Int) (h : okM k ys.length = true) : headM (putM k ys ++ zs) = ⟨k, ((19 + ys.length : Nat) : Int), 0, 0, []⟩ := by
  obtain ⟨k1, k4, n4⟩ := okM_parts h
  unfold okM at h
  simp only [Bool.and_eq_true] at h
  have hfit : fitsB (19 + (ys.length : Int)) 2 = true := by
    have : (2 : Int) ^ (8 * 2) = 65536 := rfl
    simp [fitsB, this]; omega
  have hv := putL_back (by omega) (by omega) hfit
  rw [putL_two] at hv
  rw [putM_shape]
  generalize byteOf (19 + ys.length) 2 0 = a at *
  generalize byteOf (19 + ys.length) 2 1 = b at *
  unfold headM
  rw [if_neg (by simp), if_neg (by rw [marks16]; decide)]
  simp only [List.getD_cons_succ, List.getD_cons_zero, hv]
  rw [if_neg (by rw [h.1]; decide), if_neg (by rw [show 19 + (ys.length : Int) - 19 = ys.length by omega, h.2]; decide)]
  simp

theorem tells_no (k : Int) (q : Option Addr) (n c : Nat) (w : World) (ht : Tab w) (hn : n ≤ 9223372036854775807) (hk : okM k n = false) :
    Calls Tryd.prog 7 #[.agg #[.int .i64 k, .slice q n c]] w fun e w' => e = .returned (.bool true) ∧ Below w.heap.size w w' := by
  have h0 := (Below.refl w.heap.size w).alloc (Nat.le_refl _) (.cells #[.int .i64 k, .slice q n c] 24)
  have HT := Lib.hid ht
  have H0 := Lib.hid h0
  have HC := Lib.hid (rcheckM_any k q n c (w.alloc (.cells #[.int .i64 k, .slice q n c] 24)) hn)
  rw [hk] at HC
  clear h0 ht
  go_enter Tryd.func7, Tryd.ntmps7
  go_wp2_with fail
  refine HC.out.mono ?_; rintro e w1 ⟨rfl, hb⟩
  have HB1 := Lib.hid (H0.out.trans (hb.mono (by simp)))
  have T1 := HT.out.below HB1.out
  clear hb
  go_wp2_with fail
  refine (lives_any w1 T1).mono ?_; rintro e w2 ⟨rfl, hb⟩
  have HB2 := Lib.hid (HB1.out.trans (hb.mono HB1.out.size))
  clear hb T1
  go_wp2_with fail
  go_ret
  exact ⟨rfl, HB2.out⟩

set_option maxHeartbeats 1000000 in
theorem tells_yes (k : Int) (q : Option Addr) (ys : List Int) (n c : Nat) (w : World) (ht : Tab w) (hb : BytesAt w q ys) (hn : ys.length = n) (hk : okM k n = true) :
    Calls Tryd.prog 7 #[.agg #[.int .i64 k, .slice q n c]] w fun e w' => e = .returned (.bool true) ∧ Below w.heap.size w w' := by
  obtain ⟨k1, k4, n4⟩ := okM_parts hk
  have h0 := (Below.refl w.heap.size w).alloc (Nat.le_refl _) (.cells #[.int .i64 k, .slice q n c] 24)
  have HT := Lib.hid ht
  have H0 := Lib.hid h0
  have K0 := Lib.hid (Blk.new w 24 [.int .i64 k, .slice q n c])
  have Y0 := Lib.hid (hb.below h0)
  have HC := Lib.hid (rcheckM_any k q n c (w.alloc (.cells #[.int .i64 k, .slice q n c] 24)) (by omega))
  rw [hk] at HC
  have HK := Lib.hid hk
  have HN := Lib.hid hn
  have hh := headM_put (k := k) (ys := ys) [] (by rw [hn]; exact hk)
  rw [List.append_nil, hn] at hh
  have hl : (putM k ys).length = 19 + n := by unfold putM; simp [putL_len]; omega
  have HH := Lib.hid hh
  have HL := Lib.hid hl
  clear h0 ht hb hn hk hh hl
  go_enter Tryd.func7, Tryd.ntmps7
  go_wp2_with fail
  refine HC.out.mono ?_; rintro e w1 ⟨rfl, hb⟩
  have HB1 := Lib.hid (H0.out.trans (hb.mono (by simp)))
  have K1 := Lib.hid (K0.out.next hb)
  have Y1 := Lib.hid (Y0.out.below hb)
  have T1 := HT.out.below HB1.out
  have c0 := K1.out.cell 0 (by simp)
  have c1 := K1.out.cell 1 (by simp)
  clear hb
  go_wp2_with fail
  refine (putM_ok k q ys n c w1 T1 Y1.out HN.out HK.out).mono ?_; rintro e w2 ⟨p, cap, rfl, hO, hb⟩
  rw [HL.out]
  have HB2 := Lib.hid (HB1.out.trans (hb.mono HB1.out.size))
  have K2 := Lib.hid (K1.out.next hb)
  have O2 := Lib.hid hO
  have T2 := HT.out.below HB2.out
  clear hb hO T1 c0 c1 K1 Y1
  go_wp2_with fail
  refine (head_any p (putM k ys) (19 + n) cap w2 T2 O2.out.bytes HL.out (by have := O2.out.le; rw [HL.out] at this; exact this) (by have := O2.out.max; unfold maxLen at this; omega)).mono ?_; rintro e w3 ⟨q3, c3, rfl, hO, hb⟩
  rw [HH.out]
  dsimp only [List.length_nil]
  have h3 := (Below.refl w3.heap.size w3).alloc (Nat.le_refl _) (.cells #[.int .i64 0, .int .i64 0, .slice q3 0 c3] 33)
  have HB3 := Lib.hid ((HB2.out.trans (hb.mono HB2.out.size)).trans (h3.mono (Nat.le_trans HB2.out.size hb.size)))
  have K3 := Lib.hid ((K2.out.next hb).next h3)
  have F3 := Lib.hid (Blk.new w3 33 [.int .i64 0, .int .i64 0, .slice q3 0 c3])
  have HLV := Lib.hid (lives_any _ (HT.out.below HB3.out))
  clear hb hO h3 T2 K2 O2
  go_wp2_with fail
  refine HLV.out.mono ?_; rintro e w4 ⟨rfl, hb⟩
  have HB4 := Lib.hid (HB3.out.trans (hb.mono HB3.out.size))
  have K4 := K3.out.next hb
  have F4 := F3.out.next hb
  have c0 := K4.cell 0 (by simp)
  have c1 := K4.cell 1 (by simp)
  have f0 := F4.cell 0 (by simp)
  clear hb K4 F4 K3 F3 HLV
  go_wp2_with fail
  go_ret
  exact ⟨rfl, HB4.out⟩

theorem tells_law (k : Int) (q : Option Addr) (ys : List Int) (n c : Nat) (w : World) (ht : Tab w) (hb : BytesAt w q ys) (hn : ys.length = n) (hm : n ≤ 9223372036854775807) :
    Calls Tryd.prog 7 #[.agg #[.int .i64 k, .slice q n c]] w fun e w' => e = .returned (.bool true) ∧ Below w.heap.size w w' := by
  rcases hk : okM k n with _ | _
  · exact tells_no k q n c w ht hm hk
  · exact tells_yes k q ys n c w ht hb hn hk
end Go.Proofs.YtondoljehdhocaaDoor
