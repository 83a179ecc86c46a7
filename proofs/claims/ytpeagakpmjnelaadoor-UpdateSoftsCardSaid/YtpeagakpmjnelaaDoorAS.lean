/- ref05: one attribute. -/
import Derived.Test.YtpeagakpmjnelaaDoorAQ
import Derived.Test.YtpeagakpmjnelaaDoorByA
import Derived.Deep.RegionHeldLaw
namespace Go.Proofs.YtpeagakpmjnelaaDoor.Ax
open Go.RowKit
set_option maxRecDepth 100000

theorem w8 {n : Int} (h0 : 0 ≤ n) (h1 : n ≤ 255) : IntKind.u8.wrap n = n := by rw [show IntKind.u8.wrap n = n % 256 from by first | rfl | exact IntKind.wrap_u8 _ | exact IntKind.wrap_u8' _]; omega
theorem rput_g (x : Int) (wide g : Nat) (w : World) (hg : w.heap.size = g) (h1 : 1 ≤ wide) (h4 : wide ≤ 4) (h : fitsB x wide = true) :
    Calls Tryd.prog 49 #[.int .i64 x, .int .i64 wide] w fun e w' => e = .returned (.slice (some ⟨g, 0, none⟩) wide wide) ∧ BytesAt w' (some ⟨g, 0, none⟩) (putL x wide) ∧ Below w.heap.size w w' := by
  subst hg
  exact (rput_fits x wide w h1 h4 h).mono fun _ _ h => ⟨h.1, h.2.1.list.bytes (putL_byte _ _), h.2.2⟩
set_option maxHeartbeats 1000000 in
theorem rone_short (fl k : Int) (p : Option Addr) (xs : List Int) (n c : Nat) (w : World) (h0 : 0 ≤ fl) (h1 : fl ≤ 239) (k0 : 0 ≤ k) (k1 : k ≤ 255) (hb : BytesAt w p xs) (hn : xs.length = n) (hl : n ≤ 255) :
    Calls Tryd.prog 48 #[.int .i64 fl, .int .i64 k, .slice p n c] w fun e w' => RetBn w w' (fl :: k :: ([(n : Int)] ++ xs)) (3 + n) e := by
  have HN := Lib.hid hn
  have t1 : decide ((255 : Int) < (n : Int)) = false := by simp; omega
  have wf := w8 h0 (show fl ≤ 255 by omega)
  have wk := w8 k0 k1
  have wn := w8 (show (0 : Int) ≤ (n : Int) by omega) (show (n : Int) ≤ 255 by omega)
  have HB := Lib.hid (new_below w (.cells #[.int .u8 fl, .int .u8 k, .int .u8 (n : Int)] 5))
  have HY := Lib.hid (hb.below HB.out)
  have HO := Lib.hid (Own.lit w w.heap.size [fl, k, (n : Int)] (inByte_all (fun x hx => by simp at hx; omega)) (by simp) (Nat.le_refl _))
  clear hn hb
  go_enter Tryd.func48, Tryd.ntmps48
  go_wp2_with (refine wpList_appo (o := ⟨some 31, _, _, _, _, _⟩) (by rfl) (.tmp 29) (.tmp 30) (by rfl) w.heap.size (some ⟨w.heap.size, 0, none⟩) 3 [fl, k, (n : Int)] HO.out 3 (by rfl) (by rfl) p n c xs HY.out HN.out (by rfl) (3 + n) (by rfl) (by omega) HB.out.size ?_; intro q4 cap4 w4 hO4 hB4 hG4)
  go_ret
  exact ⟨q4, cap4, rfl, hO4.out, HB.out.trans hB4.out⟩
set_option maxHeartbeats 1000000 in
theorem rone_long (fl k : Int) (p : Option Addr) (xs : List Int) (n c : Nat) (w : World) (h0 : 0 ≤ fl) (h1 : fl ≤ 239) (k0 : 0 ≤ k) (k1 : k ≤ 255) (hb : BytesAt w p xs) (hn : xs.length = n) (hl : 255 < n ∧ n ≤ 65535) :
    Calls Tryd.prog 48 #[.int .i64 fl, .int .i64 k, .slice p n c] w fun e w' => RetBn w w' ((fl + 16) :: k :: (putL (n : Int) 2 ++ xs)) (2 + 2 + n) e := by
  have HN := Lib.hid hn
  have t1 : decide ((255 : Int) < (n : Int)) = true := by simp; omega
  have wf := w8 (show 0 ≤ fl + 16 by omega) (show fl + 16 ≤ 255 by omega)
  have wk := w8 k0 k1
  have HB := Lib.hid (new_below w (.cells #[.int .u8 (fl + 16), .int .u8 k] 5))
  have HY0 := Lib.hid hb
  have HO := Lib.hid (Own.lit w w.heap.size [fl + 16, k] (inByte_all (fun x hx => by simp at hx; omega)) (by simp) (Nat.le_refl _))
  clear hn hb
  go_enter Tryd.func48, Tryd.ntmps48
  go_wp2_with (first
    | (go_at_call 49; refine (rput_g (n : Int) 2 (w.heap.size + 1) _ (sz_alloc _ _) (by omega) (by omega) (fit_two (by omega) (by omega))).mono ?_; rintro e w2 ⟨rfl, hr2, hb2⟩; have HR2 := Lib.hid hr2; have HB2 := Lib.hid (HB.out.trans (hb2.mono HB.out.size)); have HO2 := Lib.hid (HO.out.below hb2); clear hr2 hb2)
    | (refine wpList_appo (o := ⟨some 19, _, _, _, _, _⟩) (by rfl) (.tmp 15) (.tmp 18) (by rfl) w.heap.size (some ⟨w.heap.size, 0, none⟩) 2 [fl + 16, k] HO2.out 2 (by rfl) (by rfl) _ 2 2 (putL (n : Int) 2) HR2.out (putL_len ..) (by rfl) (2 + 2) (by rfl) (by omega) HB2.out.size ?_; intro q3 cap3 w3 hO3 hB3 hG3; have HB3 := Lib.hid (HB2.out.trans hB3.out); have HY3 := Lib.hid (HY0.out.below HB3.out))
    | (refine wpList_appo (o := ⟨some 21, _, _, _, _, _⟩) (by rfl) (.tmp 19) (.tmp 20) (by rfl) w.heap.size q3 cap3 ([fl + 16, k] ++ putL (n : Int) 2) hO3.out (2 + 2) (by simp [putL_len]) (by rfl) p n c xs HY3.out HN.out (by rfl) (2 + 2 + n) (by rfl) (by omega) HB3.out.size ?_; intro q4 cap4 w4 hO4 hB4 hG4))
  go_ret
  exact ⟨q4, cap4, rfl, hO4.out, HB3.out.trans hB4.out⟩
theorem rone_any (fl k : Int) (p : Option Addr) (xs : List Int) (n c m : Nat) (w : World) (h0 : 0 ≤ fl) (h1 : fl ≤ 239) (k0 : 0 ≤ k) (k1 : k ≤ 255) (hb : BytesAt w p xs) (hn : xs.length = n) (hl : n ≤ 65535) (hm : attrN n = m) :
    Calls Tryd.prog 48 #[.int .i64 fl, .int .i64 k, .slice p n c] w fun e w' => RetBn w w' (attrL fl k xs) m e := by
  subst hm
  by_cases h : n ≤ 255
  · rw [attrL_short hn h, show attrN n = 3 + n from by unfold attrN; rw [if_pos h]]
    exact rone_short fl k p xs n c w h0 h1 k0 k1 hb hn h
  · rw [attrL_long hn (by omega), show attrN n = 2 + 2 + n from by unfold attrN; rw [if_neg h]]
    exact rone_long fl k p xs n c w h0 h1 k0 k1 hb hn ⟨by omega, hl⟩
end Go.Proofs.YtpeagakpmjnelaaDoor.Ax
