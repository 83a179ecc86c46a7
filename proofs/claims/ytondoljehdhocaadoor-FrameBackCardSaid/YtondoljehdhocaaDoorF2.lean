/- frame: Put. -/
import Derived.Test.YtondoljehdhocaaDoorF1
namespace Go.Proofs.YtondoljehdhocaaDoor
open Go.RowKit

/-- The bytes of a message. -/
def putM (k : Int) (ys : List Int) : List Int := List.replicate 16 255 ++ putL (19 + ys.length) 2 ++ [k] ++ ys

theorem okM_parts {k : Int} {n : Nat} (h : okM k n = true) : 1 ≤ k ∧ k ≤ 4 ∧ n ≤ 4077 := by
  unfold okM at h
  simp only [Bool.and_eq_true] at h
  obtain ⟨h1, h2⟩ := h
  obtain ⟨a, b⟩ := knownB_yes h1
  refine ⟨a, b, ?_⟩
  unfold fitsM at h2
  split at h2
  · simp at h2; omega
  · simp at h2; omega

theorem putM_no (k : Int) (q : Option Addr) (n c : Nat) (w : World) (ht : Tab w) (hn : n ≤ 1099511627776) (hk : okM k n = false) :
    Calls Tryd.prog 9 #[.agg #[.int .i64 k, .slice q n c]] w fun e w' => e = .returned (.tuple #[.slice none 0 0, .int .i64 30]) ∧ Below w.heap.size w w' := by
  have hb := (Below.refl w.heap.size w).alloc (Nat.le_refl _) (.cells #[.int .i64 k, .slice q n c] 24)
  have HC := Lib.hid (checkM_any k q n c _ (ht.below hb) hn)
  rw [show errM k n = 30 by simp [errM, hk]] at HC
  have HB := Lib.hid hb
  clear hb ht
  go_enter Tryd.func9, Tryd.ntmps9
  go_wp2_with fail
  refine HC.out.mono ?_; rintro e w1 ⟨rfl, hb1⟩
  have HB1 := Lib.hid (HB.out.trans (hb1.mono (by simp)))
  clear hb1
  go_wp2_with fail
  go_ret2
  exact ⟨rfl, HB1.out⟩

theorem snoc255 (k : Nat) : List.replicate k (255 : Int) ++ [255] = List.replicate (k + 1) 255 := by rw [List.replicate_succ']

def PLoop (w2 : World) (B : Nat) (b i : Value) (wr : World) : Prop := ∃ (k : Nat) (p : Option Addr) (cap : Nat), k ≤ 16 ∧ i = .int .i64 k ∧ b = .slice p k cap ∧ Own wr B p cap (List.replicate k 255) ∧ Below B w2 wr

set_option maxHeartbeats 1000000 in
theorem putM_ok (k : Int) (q : Option Addr) (ys : List Int) (n c : Nat) (w : World) (ht : Tab w) (hb : BytesAt w q ys) (hn : ys.length = n) (hk : okM k n = true) :
    Calls Tryd.prog 9 #[.agg #[.int .i64 k, .slice q n c]] w fun e w' => ∃ p cap, e = .returned (.tuple #[.slice p (putM k ys).length cap, .int .i64 0]) ∧ Own w' w.heap.size p cap (putM k ys) ∧ Below w.heap.size w w' := by
  obtain ⟨k1, k4, n4⟩ := okM_parts hk
  have hal := (Below.refl w.heap.size w).alloc (Nat.le_refl _) (.cells #[.int .i64 k, .slice q n c] 24)
  have HC := Lib.hid (checkM_any k q n c _ (ht.below hal) (by omega))
  rw [show errM k n = 0 by simp [errM, hk]] at HC
  have HA := Lib.hid hal
  have HX := Lib.hid (Blk.new w 24 [.int .i64 k, .slice q n c])
  have HY := Lib.hid (hb.below hal)
  have HN := Lib.hid hn
  have hmk : ∀ w, (Instr.makeSlice 22 (.int .i64 0) (.int .i64 (19 + (n : Int)))).run Tryd.prog w = .ok (.slice (some ⟨w.heap.size, 0, none⟩) 0 (19 + n)) (w.alloc (.cells (madeCells #[.int .u8 0] (19 + n)) 5)) := fun w => by
    rw [show (19 + (n : Int)) = ((19 + n : Nat) : Int) by omega]; exact run_make0 (19 + n) (by omega) w
  have hfit : fitsB (19 + (n : Int)) 2 = true := by
    have : (2 : Int) ^ (8 * 2) = 65536 := rfl
    simp [fitsB, this]; omega
  clear hal hk ht hb hn
  go_enter Tryd.func9, Tryd.ntmps9
  go_wp2_with fail
  refine HC.out.mono ?_; rintro e w1 ⟨rfl, hb1⟩
  have HB1 := Lib.hid (HA.out.trans (hb1.mono (by simp)))
  have HX1 := Lib.hid (HX.out.next hb1)
  have HY1 := Lib.hid (HY.out.below hb1)
  have c0 := HX1.out.cell 0 (by simp)
  have c1 := HX1.out.cell 1 (by simp)
  clear hb1 HA HX HY
  go_wp2_with fail
  refine (put_fits (19 + (n : Int)) 2 _ (by omega) (by omega) hfit).mono ?_; rintro e w2 ⟨rfl, hr2, hb2⟩
  have HR2 := Lib.hid hr2.list
  have HB2 := Lib.hid (HB1.out.trans (hb2.mono HB1.out.size))
  have HX2 := Lib.hid (HX1.out.next hb2)
  have HY2 := Lib.hid (HY1.out.below hb2)
  have c2 := HX2.out.cell 0 (by simp)
  have c3 := HX2.out.cell 1 (by simp)
  clear hb2 hr2 HX1 HY1 HB1 c0 c1 hfit
  go_wp2_with fail
  clear c2 c3 hmk
  go_loopw [8, 25] (fun b i wr => PLoop w2 w2.heap.size b i wr) (fun _ i _ => 16 - (intOf i).toNat)
  case atStart => exact ⟨0, _, _, by omega, rfl, rfl, Own.made w2 w2.heap.size (19 + n) (by unfold maxLen; omega) (Nat.le_refl _), (Below.refl _ _).alloc (Nat.le_refl _) _⟩
  case round =>
    obtain ⟨j, p, cap, hj, rfl, rfl, hO, hB⟩ := hrel
    have HOL := Lib.hid (hO.alloc (.cells #[.int .u8 255] 5))
    have HBL := Lib.hid hB
    have HO1 := Lib.hid (one_byte wr 255 (by omega) (by omega))
    have HSZ := Lib.hid hB.size
    have HO := Lib.hid hO
    clear hO hB
    by_cases hlt : j < 16
    · go_wp2_with (refine wpList_appo (o := ⟨some 29, _, _, _, _, _⟩) (by rfl) (.tmp 27) (.tmp 28) (by rfl) w2.heap.size p cap (List.replicate j 255) HOL.out j (List.length_replicate ..) (by rfl) _ 1 1 [255] HO1.out (by rfl) (by rfl) (j + 1) (by omega) (by omega) (by have := HSZ.out; simp; omega) ?_; intro p' cap' w3 hO3 hB3 hG3)
      go_roundw
      case rel => exact ⟨j + 1, p', cap', by omega, by go_num, rfl, by rw [← snoc255]; exact hO3.out, (HBL.out.alloc HBL.out.size _).trans hB3.out⟩
      case measure => simp [intOf]; omega
    · obtain rfl : j = 16 := by omega
      have HL := Lib.hid ((HR2.out.below HBL.out).bytes (putL_byte (19 + (n : Int)) 2))
      have HX3 := Lib.hid (HX2.out.next HBL.out)
      have HY3 := Lib.hid (HY2.out.below HBL.out)
      clear HOL HO1
      go_wp2_with (first
        | (refine wpList_appo (o := ⟨some 33, _, _, _, _, _⟩) (by rfl) (.tmp 31) (.tmp 32) (by rfl) w2.heap.size p cap (List.replicate 16 255) HO.out 16 (List.length_replicate ..) (by rfl) _ 2 2 _ HL.out (putL_len ..) (by rfl) 18 (by omega) (by omega) HSZ.out ?_; intro p2 cap2 w4 hO4 hB4 hG4; have HX4 := Lib.hid (HX3.out.below hB4.out (by have := HX2.out.lt; omega)); have c4 := HX4.out.cell 0 (by simp); have c5 := HX4.out.cell 1 (by simp); have HY4 := Lib.hid (HY2.out.below (HBL.out.trans hB4.out)); have HS4 := Lib.hid (Nat.le_trans HSZ.out hB4.out.size))
        | (refine wpList_appo (o := ⟨some 39, _, _, _, _, _⟩) (by rfl) (.tmp 34) (.tmp 38) (by rfl) w2.heap.size p2 cap2 (List.replicate 16 255 ++ putL (19 + (n : Int)) 2) (hO4.out.alloc _) 18 (by rw [List.length_append, List.length_replicate, putL_len]) (by rfl) _ 1 1 [k] (one_byte w4 k (by omega) (by omega)) (by rfl) (by rfl) 19 (by omega) (by omega) (by have := HS4.out; simp; omega) ?_; intro p3 cap3 w5 hO5 hB5 hG5; have HX5 := Lib.hid ((HX4.out.alloc (.cells #[.int .u8 k] 5)).below hB5.out (by have := HX2.out.lt; omega)); have c6 := HX5.out.cell 0 (by simp); have c7 := HX5.out.cell 1 (by simp); have HB5 := Lib.hid ((hB4.out.alloc HS4.out (.cells #[.int .u8 k] 5)).trans hB5.out); have HY5 := Lib.hid (HY2.out.below (HBL.out.trans HB5.out)))
        | (refine wpList_appo (o := ⟨some 43, _, _, _, _, _⟩) (by rfl) (.tmp 40) (.tmp 42) (by rfl) w2.heap.size p3 cap3 (List.replicate 16 255 ++ putL (19 + (n : Int)) 2 ++ [k]) hO5.out 19 (by rw [List.length_append, List.length_append, List.length_replicate, putL_len]; rfl) (by rfl) q n c ys HY5.out HN.out (by rfl) (19 + n) (by omega) (by omega) (Nat.le_trans HSZ.out HB5.out.size) ?_; intro p4 cap4 w6 hO6 hB6 hG6))
      have hl : (putM k ys).length = 19 + n := by unfold putM; have := HN.out; simp [putL_len]; omega
      go_ret2
      have hO7 := hO6.out
      rw [show (List.replicate 16 255 ++ putL (19 + (n : Int)) 2 ++ [k]) ++ ys = putM k ys by unfold putM; rw [HN.out]] at hO7
      exact ⟨p4, cap4, by rw [hl]; rfl, hO7.mono HB2.out.size, HB2.out.trans ((HBL.out.trans (HB5.out.trans hB6.out)).mono HB2.out.size)⟩
end Go.Proofs.YtondoljehdhocaaDoor
