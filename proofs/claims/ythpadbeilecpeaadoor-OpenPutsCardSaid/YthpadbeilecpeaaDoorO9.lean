/- open: what must come of every program. -/
import Derived.Test.YthpadbeilecpeaaDoorO8
namespace Go.Proofs.YthpadbeilecpeaaDoor
open Go.RowKit

def lifeA : List Int := [4, 253, 233, 0, 90, 10, 0, 0, 1, 8, 2, 6, 1, 4, 0, 1, 0, 1]
def lifeB : List Int := [4, 91, 160, 0, 0, 0, 0, 0, 1, 20, 2, 18, 1, 4, 0, 1, 0, 1, 65, 4, 0, 1, 17, 112, 69, 4, 0, 1, 1, 3]
theorem lifeA_put : putO ⟨65001, 90, 167772161, false, 0⟩ = lifeA := by kernel_rfl
theorem lifeB_put : putO ⟨70000, 0, 1, true, 3⟩ = lifeB := by kernel_rfl
theorem lifeA_ok : okO ⟨65001, 90, 167772161, false, 0⟩ = true := by kernel_rfl
theorem lifeB_ok : okO ⟨70000, 0, 1, true, 3⟩ = true := by kernel_rfl
theorem zero_ok : okO ⟨0, 0, 0, false, 0⟩ = false := by kernel_rfl
theorem lifeA_fit : FitO ⟨65001, 90, 167772161, false, 0⟩ := by constructor <;> decide
theorem lifeB_fit : FitO ⟨70000, 0, 1, true, 3⟩ := by constructor <;> decide
theorem lifeA_get : getO lifeA = ⟨⟨65001, 90, 167772161, false, 0⟩, 0, 0, []⟩ := by rw [← lifeA_put]; exact getO_put lifeA_ok lifeA_fit.i0 lifeA_fit.i1
theorem lifeB_get : getO lifeB = ⟨⟨70000, 0, 1, true, 3⟩, 0, 0, []⟩ := by rw [← lifeB_put]; exact getO_put lifeB_ok lifeB_fit.i0 lifeB_fit.i1
theorem life3_get : getO [3] = ⟨⟨0, 0, 0, false, 0⟩, 2, 1, [0, 4]⟩ := by kernel_rfl
theorem lifeA_text : strOfNums lifeA = ⟨#[4, 253, 233, 0, 90, 10, 0, 0, 1, 8, 2, 6, 1, 4, 0, 1, 0, 1]⟩ := by kernel_rfl
theorem life04_text : strOfNums [0, 4] = ⟨#[0, 4]⟩ := by kernel_rfl

theorem lit1 (w : World) (a : Int) (h0 : 0 ≤ a) (h1 : a ≤ 255) : BytesAt (w.alloc (.cells #[.int .u8 a] 5)) (some ⟨w.heap.size, 0, none⟩) [a] := one_byte w a h0 h1
theorem three_below (w : World) (a b c : Obj) : Below w.heap.size w (((w.alloc a).alloc b).alloc c) := (two_below w a b).trans ((new_below _ c).mono (by simp; omega))

set_option maxRecDepth 100000 in
set_option maxHeartbeats 4000000 in
theorem lives_any (w : World) : Calls Tryd.prog 6 #[] w fun e w' => e = .returned (.bool true) ∧ Below w.heap.size w w' := by
  have HP := Lib.hid (put_as lifeA_put (n := 18) rfl (w.alloc (.cells #[.int .i64 65001, .int .i64 90, .int .u32 167772161, .bool false, .int .i64 0] 24)) lifeA_fit lifeA_ok)
  have H0 := Lib.hid (new_below w (.cells #[.int .i64 65001, .int .i64 90, .int .u32 167772161, .bool false, .int .i64 0] 24))
  have K0 := Lib.hid (Blk.new w 24 [.int .i64 65001, .int .i64 90, .int .u32 167772161, .bool false, .int .i64 0])
  have HQ1 := open_eql 65001 90 167772161 0 false
  have HQ2 := open_eql 70000 0 1 3 true
  have hg := open_eqGuard
  go_enter Tryd.func6, Tryd.ntmps6
  go_wp2_with fail
  refine HP.out.mono ?_; rintro e w1 ⟨p, cap, rfl, hO, hb⟩
  have HB1 := Lib.hid (H0.out.trans (hb.mono (by simp)))
  have K1 := Lib.hid (K0.out.next hb)
  have O1 := Lib.hid (hO.mono (show w.heap.size ≤ _ by simp))
  clear hO hb HP H0 K0
  have HG := Lib.hid (get_as lifeA_get p 18 cap 0 w1 O1.out.bytes rfl (by omega) rfl)
  go_wp2_with fail
  refine HG.out.mono ?_; rintro e w2 ⟨p2, cap2, rfl, hO, hb⟩
  have HB2 := Lib.hid (HB1.out.trans (hb.mono HB1.out.size))
  have K2 := Lib.hid (K1.out.next hb)
  have O2 := Lib.hid (O1.out.below hb)
  clear hO hb HG HB1 K1 O1
  obtain ⟨W3, hW3⟩ : ∃ W3, ((w2.alloc (.cells #[.int .i64 65001, .int .i64 90, .int .u32 167772161, .bool false, .int .i64 0] 24)).alloc (.cells #[.int .i64 0, .int .i64 0, .slice p2 0 cap2] 37)).alloc (.cells #[.int .i64 70000, .int .i64 0, .int .u32 1, .bool true, .int .i64 3] 24) = W3 := ⟨_, rfl⟩
  have h3 : Below w2.heap.size w2 W3 := by rw [← hW3]; exact three_below _ _ _ _
  have A3 := Lib.hid (show Blk W3 w2.heap.size 24 [.int .i64 65001, .int .i64 90, .int .u32 167772161, .bool false, .int .i64 0] by rw [← hW3]; exact ((Blk.new w2 24 [.int .i64 65001, .int .i64 90, .int .u32 167772161, .bool false, .int .i64 0]).alloc _).alloc _)
  have B3 := Lib.hid (show Blk W3 (w2.heap.size + 1) 37 [.int .i64 0, .int .i64 0, .slice p2 0 cap2] by rw [← hW3, ← sz_alloc w2 (.cells #[.int .i64 65001, .int .i64 90, .int .u32 167772161, .bool false, .int .i64 0] 24)]; exact (Blk.new _ 37 [.int .i64 0, .int .i64 0, .slice p2 0 cap2]).alloc _)
  have C3 := Lib.hid (show Blk W3 (w2.heap.size + 2) 24 [.int .i64 70000, .int .i64 0, .int .u32 1, .bool true, .int .i64 3] by
    have e : ((w2.alloc (.cells #[.int .i64 65001, .int .i64 90, .int .u32 167772161, .bool false, .int .i64 0] 24)).alloc (.cells #[.int .i64 0, .int .i64 0, .slice p2 0 cap2] 37)).heap.size = w2.heap.size + 2 := by simp
    rw [← hW3, ← e]; exact Blk.new _ 24 [.int .i64 70000, .int .i64 0, .int .u32 1, .bool true, .int .i64 3])
  have HB3 := Lib.hid (HB2.out.trans (h3.mono HB2.out.size))
  have K3 := Lib.hid (K2.out.next h3)
  have O3 := Lib.hid (O2.out.below h3)
  have HW3 := Lib.hid hW3
  have HM := Lib.hid (message_ok lifeB_put (n := 30) rfl W3 lifeB_fit lifeB_ok)
  clear h3 hW3 HB2 K2 O2
  go_wp2_with fail
  rw [HW3.out]
  refine HM.out.mono ?_; rintro e w4 ⟨pm, capm, rfl, hO, hb⟩
  have hal := new_below w4 (.cells #[.int .i64 1, .slice pm 30 capm] 30)
  have HB4 := Lib.hid (HB3.out.trans ((hb.trans (hal.mono hb.size)).mono HB3.out.size))
  have K4 := Lib.hid ((K3.out.next hb).next hal)
  have O4 := Lib.hid ((O3.out.below hb).below hal)
  have A4 := Lib.hid ((A3.out.next hb).next hal)
  have B4 := Lib.hid ((B3.out.next hb).next hal)
  have C4 := Lib.hid ((C3.out.next hb).next hal)
  have D4 := Lib.hid (Blk.new w4 30 [.int .i64 1, .slice pm 30 capm])
  have HG := Lib.hid (get_as lifeB_get pm 30 capm 0 (w4.alloc (.cells #[.int .i64 1, .slice pm 30 capm] 30)) (hO.bytes.below hal) rfl (by omega) rfl)
  clear hO hb hal HM HB3 K3 O3 A3 B3 C3 HW3
  go_wp2_with fail
  refine HG.out.mono ?_; rintro e w5 ⟨p5, cap5, rfl, hO, hb⟩
  have HB5 := Lib.hid (HB4.out.trans (hb.mono HB4.out.size))
  have K5 := Lib.hid (K4.out.next hb)
  have O5 := Lib.hid (O4.out.below hb)
  have A5 := Lib.hid (A4.out.next hb)
  have B5 := Lib.hid (B4.out.next hb)
  have C5 := Lib.hid (C4.out.next hb)
  have D5 := Lib.hid (D4.out.next hb)
  clear hO hb HG HB4 K4 O4 A4 B4 C4 D4
  obtain ⟨W6, hW6⟩ : ∃ W6, ((w5.alloc (.cells #[.int .i64 70000, .int .i64 0, .int .u32 1, .bool true, .int .i64 3] 24)).alloc (.cells #[.int .i64 0, .int .i64 0, .slice p5 0 cap5] 37)).alloc (.cells #[.int .u8 3] 5) = W6 := ⟨_, rfl⟩
  have h6 : Below w5.heap.size w5 W6 := by rw [← hW6]; exact three_below _ _ _ _
  have E6 := Lib.hid (show Blk W6 w5.heap.size 24 [.int .i64 70000, .int .i64 0, .int .u32 1, .bool true, .int .i64 3] by rw [← hW6]; exact ((Blk.new w5 24 [.int .i64 70000, .int .i64 0, .int .u32 1, .bool true, .int .i64 3]).alloc _).alloc _)
  have F6 := Lib.hid (show Blk W6 (w5.heap.size + 1) 37 [.int .i64 0, .int .i64 0, .slice p5 0 cap5] by rw [← hW6, ← sz_alloc w5 (.cells #[.int .i64 70000, .int .i64 0, .int .u32 1, .bool true, .int .i64 3] 24)]; exact (Blk.new _ 37 [.int .i64 0, .int .i64 0, .slice p5 0 cap5]).alloc _)
  have L6 := Lib.hid (show BytesAt W6 (some ⟨w5.heap.size + 2, 0, none⟩) [3] by
    have e : ((w5.alloc (.cells #[.int .i64 70000, .int .i64 0, .int .u32 1, .bool true, .int .i64 3] 24)).alloc (.cells #[.int .i64 0, .int .i64 0, .slice p5 0 cap5] 37)).heap.size = w5.heap.size + 2 := by simp
    rw [← hW6, ← e]; exact one_byte _ 3 (by omega) (by omega))
  have HB6 := Lib.hid (HB5.out.trans (h6.mono HB5.out.size))
  have K6 := Lib.hid (K5.out.next h6)
  have O6 := Lib.hid (O5.out.below h6)
  have A6 := Lib.hid (A5.out.next h6)
  have B6 := Lib.hid (B5.out.next h6)
  have C6 := Lib.hid (C5.out.next h6)
  have D6 := Lib.hid (D5.out.next h6)
  have HW6 := Lib.hid hW6
  have HG := Lib.hid (get_as life3_get (some ⟨w5.heap.size + 2, 0, none⟩) 1 1 2 W6 L6.out rfl (by omega) rfl)
  clear h6 hW6 HB5 K5 O5 A5 B5 C5 D5 L6
  go_wp2_with fail
  rw [HW6.out]
  refine HG.out.mono ?_; rintro e w8 ⟨p8, cap8, rfl, hO, hb⟩
  obtain ⟨W9, hW9⟩ : ∃ W9, (w8.alloc (.cells #[.int .i64 0, .int .i64 0, .int .u32 0, .bool false, .int .i64 0] 24)).alloc (.cells #[.int .i64 2, .int .i64 1, .slice p8 2 cap8] 37) = W9 := ⟨_, rfl⟩
  have h9 : Below w8.heap.size w8 W9 := by rw [← hW9]; exact two_below _ _ _
  have h9' := hb.trans (h9.mono hb.size)
  have HB9 := Lib.hid (HB6.out.trans (h9'.mono HB6.out.size))
  have K9 := K6.out.next h9'
  have O9 := O6.out.below h9'
  have A9 := A6.out.next h9'
  have B9 := B6.out.next h9'
  have C9 := C6.out.next h9'
  have D9 := D6.out.next h9'
  have E9 := E6.out.next h9'
  have F9 := F6.out.next h9'
  have G9 : Blk W9 (w8.heap.size + 1) 37 [.int .i64 2, .int .i64 1, .slice p8 2 cap8] := by rw [← hW9, ← sz_alloc w8 (.cells #[.int .i64 0, .int .i64 0, .int .u32 0, .bool false, .int .i64 0] 24)]; exact Blk.new _ 37 [.int .i64 2, .int .i64 1, .slice p8 2 cap8]
  have t1 := run_text O9.bytes cap
  have t2 := run_text (hO.bytes.below h9) cap8
  rw [lifeA_text, show lifeA.length = 18 from rfl] at t1
  rw [life04_text, show ([0, 4] : List Int).length = 2 from rfl] at t2
  have kc0 := K9.cell 0 (by simp)
  have kc1 := K9.cell 1 (by simp)
  have kc2 := K9.cell 2 (by simp)
  have kc3 := K9.cell 3 (by simp)
  have kc4 := K9.cell 4 (by simp)
  have ac0 := A9.cell 0 (by simp)
  have ac1 := A9.cell 1 (by simp)
  have ac2 := A9.cell 2 (by simp)
  have ac3 := A9.cell 3 (by simp)
  have ac4 := A9.cell 4 (by simp)
  have bc0 := B9.cell 0 (by simp)
  have cc0 := C9.cell 0 (by simp)
  have cc1 := C9.cell 1 (by simp)
  have cc2 := C9.cell 2 (by simp)
  have cc3 := C9.cell 3 (by simp)
  have cc4 := C9.cell 4 (by simp)
  have dc0 := D9.cell 0 (by simp)
  have ec0 := E9.cell 0 (by simp)
  have ec1 := E9.cell 1 (by simp)
  have ec2 := E9.cell 2 (by simp)
  have ec3 := E9.cell 3 (by simp)
  have ec4 := E9.cell 4 (by simp)
  have fc0 := F9.cell 0 (by simp)
  have gc0 := G9.cell 0 (by simp)
  have gc1 := G9.cell 1 (by simp)
  have gc2 := G9.cell 2 (by simp)
  have HW9 := Lib.hid hW9
  have HC := Lib.hid (check_no ⟨0, 0, 0, false, 0⟩ W9 zero_ok)
  rw [show Op.v ⟨0, 0, 0, false, 0⟩ = .agg #[.int .i64 0, .int .i64 0, .int .u32 0, .bool false, .int .i64 0] from rfl] at HC
  clear hO hb h9 h9' hW9 K9 O9 A9 B9 C9 D9 E9 F9 G9 HG HB6 K6 O6 A6 B6 C6 D6 E6 F6 HW6
  rw [← HW9.out] at t1 t2 kc0 kc1 kc2 kc3 kc4 ac0 ac1 ac2 ac3 ac4 bc0 cc0 cc1 cc2 cc3 cc4 dc0 ec0 ec1 ec2 ec3 ec4 fc0 gc0 gc1 gc2
  go_wp2_with fail
  rw [HW9.out]
  refine HC.out.mono ?_; rintro e w10 ⟨rfl, hb⟩
  have HB10 := Lib.hid (HB9.out.trans (hb.mono HB9.out.size))
  clear hb t1 t2 kc0 kc1 kc2 kc3 kc4 ac0 ac1 ac2 ac3 ac4 bc0 cc0 cc1 cc2 cc3 cc4 dc0 ec0 ec1 ec2 ec3 ec4 fc0 gc0 gc1 gc2
  go_wp2_with fail
  go_ret
  exact ⟨rfl, HB10.out⟩
end Go.Proofs.YthpadbeilecpeaaDoor
