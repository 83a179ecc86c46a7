/- The document's own Put of a message. -/
import Derived.Test.YtondoljehdhocaaDoorF10
import Derived.Test.YtondoljehdhocaaDoorKR
import Derived.Deep.RegionHeldLaw
namespace Go.Proofs.YtondoljehdhocaaDoor
open Go.RowKit

theorem pair01 {B : Nat} {w w' : World} {g : Nat} {a b : Option Value} (hb : Below B w w') (hg : g < B) (h : w.cell? ⟨g, 0, none⟩ = a ∧ w.cell? ⟨g, 1, none⟩ = b) : w'.cell? ⟨g, 0, none⟩ = a ∧ w'.cell? ⟨g, 1, none⟩ = b :=
  ⟨(hb.cell (p := ⟨g, 0, none⟩) hg).trans h.1, (hb.cell (p := ⟨g, 1, none⟩) hg).trans h.2⟩

set_option maxRecDepth 100000 in
set_option maxHeartbeats 2000000 in
theorem rputM_ok (k : Int) (q : Option Addr) (ys : List Int) (n c : Nat) (w : World) (hb : BytesAt w q ys) (hn : ys.length = n) (k1 : 1 ≤ k) (k4 : k ≤ 4) (n4 : n ≤ 4077) :
    Calls Tryd.prog 12 #[.agg #[.int .i64 k, .slice q n c]] w fun e w' => RetB w w' (putM k ys) e := by
  have hal := (Below.refl w.heap.size w).alloc (Nat.le_refl _) (.cells #[.int .i64 k, .slice q n c] 24)
  obtain ⟨W, hW⟩ : ∃ W, w.alloc (.cells #[.int .i64 k, .slice q n c] 24) = W := ⟨_, rfl⟩
  have hX := Blk.new w 24 [.int .i64 k, .slice q n c]
  have hs : W.heap.size = w.heap.size + 1 := by rw [← hW]; simp
  rw [hW] at hal
  have HX := Lib.hid (show Blk W w.heap.size 24 [.int .i64 k, .slice q n c] by rw [← hW]; exact hX)
  have HA := Lib.hid hal
  have HY := Lib.hid (hb.below hal)
  have HN := Lib.hid hn
  have HS := Lib.hid hs
  have HW := Lib.hid hW
  have hfit : fitsB ((n : Int) + 19) 2 = true := by
    have : (2 : Int) ^ (8 * 2) = 65536 := rfl
    simp [fitsB, this]; omega
  have HF := Lib.hid hfit
  clear hal hb hn hX hs hW hfit
  go_enter Tryd.func12, Tryd.ntmps12
  go_wp2_with fail
  rw [HW.out]
  go_loopw [3, 4] (fun b i wr => PLoop W W.heap.size b i wr) (fun _ i _ => 16 - (intOf i).toNat)
  case atStart => exact ⟨0, none, 0, by omega, rfl, rfl, Own.nil _ _, Below.refl _ _⟩
  case round =>
    obtain ⟨j, p, cap, hj, rfl, rfl, hO, hB⟩ := hrel
    have HOL := Lib.hid (hO.alloc (.cells #[.int .u8 255] 5))
    have HBL := Lib.hid hB
    have HO1 := Lib.hid (one_byte wr 255 (by omega) (by omega))
    have HSZ := Lib.hid hB.size
    have HO := Lib.hid hO
    clear hO hB
    by_cases hlt : j < 16
    · clear HF HW HS HN HX HY HA
      go_wp2_with (refine wpList_appo (o := ⟨some 11, _, _, _, _, _⟩) (by rfl) (.tmp 9) (.tmp 10) (by rfl) W.heap.size p cap (List.replicate j 255) HOL.out j (List.length_replicate ..) (by rfl) _ 1 1 [255] HO1.out (by rfl) (by rfl) (j + 1) (by omega) (by omega) (by have := HSZ.out; simp; omega) ?_; intro p' cap' w3 hO3 hB3 hG3)
      go_roundw
      case rel => exact ⟨j + 1, p', cap', by omega, by go_num, rfl, by rw [← snoc255]; exact hO3.out, (HBL.out.alloc HBL.out.size _).trans hB3.out⟩
      case measure => simp [intOf]; omega
    · obtain rfl : j = 16 := by omega
      have HX1 := Lib.hid (HX.out.next HBL.out)
      have c0 := HX1.out.cell 0 (by simp)
      have c1 := HX1.out.cell 1 (by simp)
      clear HOL HO1
      go_wp2_with (first
        | (go_at_call 25; refine (rput_fits ((n : Int) + 19) 2 _ (by omega) (by omega) HF.out).mono ?_; rintro e w2 ⟨rfl, hr2, hb2⟩; have HR2 := Lib.hid (hr2.list.bytes (putL_byte _ _)); have HB2 := Lib.hid hb2; have HO2 := Lib.hid (HO.out.below hb2); clear hr2 hb2)
        | (refine wpList_appo (o := ⟨some 18, _, _, _, _, _⟩) (by rfl) (.tmp 12) (.tmp 17) (by rfl) W.heap.size p cap (List.replicate 16 255) HO2.out 16 (List.length_replicate ..) (by rfl) _ 2 2 _ HR2.out (putL_len ..) (by rfl) 18 (by omega) (by omega) (Nat.le_trans HSZ.out HB2.out.size) ?_; intro p3 cap3 w3 hO3 hB3 hG3))
      clear c0 c1
      have HC3 := Lib.hid (HBL.out.trans ((HB2.out.mono HSZ.out).trans hB3.out))
      have HX3 := Lib.hid (HX.out.next HC3.out)
      have HY3 := Lib.hid (HY.out.below HC3.out)
      have c0 : w3.drew.cell? ⟨w.heap.size, 0, none⟩ = some (.int .i64 k) := HX3.out.cell 0 (by simp)
      have c1 : w3.drew.cell? ⟨w.heap.size, 1, none⟩ = some (.slice q n c) := HX3.out.cell 1 (by simp)
      have hS := And.intro c0 c1
      have hS3 : w3.cell? ⟨w.heap.size, 0, none⟩ = some (.int .i64 k) ∧ w3.cell? ⟨w.heap.size, 1, none⟩ = some (.slice q n c) := hS
      have HS3 := Lib.hid hS3
      clear c0 c1 hG3 hS3
      have HS0 := Lib.hid hS
      clear HF HW HR2 HO2 HB2 HO HSZ
      have hwk : IntKind.u8.wrap k = k := by rw [show IntKind.u8.wrap k = k % 256 from by first | rfl | exact IntKind.wrap_u8 _ | exact IntKind.wrap_u8' _]; omega
      have HOA := Lib.hid ((hO3.out.alloc (.cells #[.int .u8 k] 5)).drew)
      have HOB := Lib.hid (one_byte w3 k (by omega) (by omega)).drew
      have HSW := Lib.hid HC3.out.size
      have HWW := Lib.hid (show w.heap.size < W.heap.size by have := HS.out; omega)
      have HAL := Lib.hid (((Below.refl w3.heap.size w3).alloc (Nat.le_refl _) (.cells #[.int .u8 k] 5)).drew)
      go_region_held_law (fun w' => w'.cell? ⟨w.heap.size, 0, none⟩ = some (.int .i64 k) ∧ w'.cell? ⟨w.heap.size, 1, none⟩ = some (.slice q n c)) (first | with_reducible assumption | exact pair01 HAL.out (show w.heap.size < w3.heap.size from HX3.out.lt) HS3.out) (first
        | (refine step_appo rfl (.tmp 19) (.tmp 23) rfl W.heap.size p3 cap3 (List.replicate 16 255 ++ putL ((n : Int) + 19) 2) HOA.out 18 ?b1 ?b2 _ 1 1 [k] HOB.out ?b3 ?b4 19 ?b5 ?b6 ?b7 ?_; (case b1 => rw [List.length_append, List.length_replicate, putL_len]); (case b2 => rfl); (case b3 => rfl); (case b4 => rfl); (case b5 => rfl); (case b6 => omega); (case b7 => have := HSW.out; simp; omega); intro p5 cap5 w5 hO5 hB5 hG5; have hk5 := pair01 ((HAL.out.mono (show W.heap.size ≤ w3.heap.size from HSW.out)).trans hB5.out) HWW.out HS3.out; have HY5 := Lib.hid (HY.out.below ((HC3.out.trans (HAL.out.mono HSW.out)).trans hB5.out)))
        | (refine step_appo rfl (.tmp 24) (.tmp 26) rfl W.heap.size p5 cap5 (List.replicate 16 255 ++ putL ((n : Int) + 19) 2 ++ [k]) hO5.out 19 ?b1 ?b2 q n c ys HY5.out HN.out ?b4 (19 + n) ?b5 ?b6 ?b7 ?_; (case b1 => rw [List.length_append, List.length_append, List.length_replicate, putL_len]; rfl); (case b2 => rfl); (case b4 => rfl); (case b5 => rfl); (case b6 => omega); (case b7 => have := HSW.out; have := hB5.out.size; simp at *; omega); intro p6 cap6 w6 hO6 hB6 hG6; have hk6 := pair01 hB6.out HWW.out hk5))
      go_wp2_with fail
      have hl : (putM k ys).length = 19 + n := by unfold putM; have := HN.out; simp [putL_len]; omega
      have hO7 := hO6.out
      rw [show (List.replicate 16 255 ++ putL ((n : Int) + 19) 2 ++ [k]) ++ ys = putM k ys by unfold putM; rw [HN.out, Int.add_comm]] at hO7
      refine bodyPost_ret (v := .slice p6 (19 + n) cap6) (by simp [results, Tryd.results12, go_sem]) rfl ⟨p6, cap6, by rw [hl], hO7.mono (by have := HS.out; omega), ?_⟩
      exact HA.out.trans ((((HC3.out.trans (HAL.out.mono HSW.out)).trans hB5.out).trans hB6.out).mono (by have := HS.out; omega))
end Go.Proofs.YtondoljehdhocaaDoor
