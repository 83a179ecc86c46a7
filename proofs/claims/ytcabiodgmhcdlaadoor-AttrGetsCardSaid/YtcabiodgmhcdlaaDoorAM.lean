/- attr: what must come of every program. -/
import Derived.Test.YtcabiodgmhcdlaaDoorAL
namespace Go.Proofs.YtcabiodgmhcdlaaDoor
open Go.RowKit

set_option maxRecDepth 100000 in
set_option maxHeartbeats 4000000 in
theorem lives_any (w : World) (ht : Tab w) : Calls Tryd.prog 7 #[] w fun e w' => e = .returned (.bool true) ∧ Below w.heap.size w w' := by
  have za : AtAt w lvA (LocA none none 0 0) := ⟨.inl rfl, rfl, Nat.le_refl _, by unfold maxLen; simp, .inl rfl, rfl, Nat.le_refl _, by unfold maxLen; simp, by decide, by decide⟩
  have SA := Lib.hid (BoxSt.new za)
  have HT := Lib.hid ht
  have HP := Lib.hid (lv_putA none none 0 0 _ (ht.below SA.out.bel) SA.out.ad)
  rw [lv_A] at HP SA
  clear ht za
  go_enter Tryd.func7, Tryd.ntmps7
  go_wp2_with fail
  refine HP.out.mono ?_; rintro e w1 ⟨p, cap, rfl, hO, hb⟩
  have SA1 := Lib.hid (SA.out.next hb)
  have OA1 := Lib.hid hO.bytes
  clear hO hb HP SA
  go_wp2_with fail
  refine (lv_getA p cap w1 (HT.out.below SA1.out.bel) OA1.out).mono ?_; rintro e w2 ⟨cpp, ccp, cpc, ccc, rfl, hac, hb⟩
  have SA2 := Lib.hid (SA1.out.next hb)
  have OA2 := Lib.hid (OA1.out.below hb)
  have AC2 := Lib.hid hac
  clear hb hac SA1 OA1
  go_wp2_with fail
  obtain ⟨W3, hW3⟩ : ∃ W3, w2.alloc (.cells #[.int .i64 0, .slice cpp 0 cpc, .int .u32 167772161, .int .i64 (-1), .int .i64 (-1), .slice ccp 0 ccc] 26) = W3 := ⟨_, rfl⟩
  have hs3 : W3.heap.size = w2.heap.size + 1 := by rw [← hW3]; exact sz_alloc _ _
  have hb3 : Below w2.heap.size w2 W3 := by rw [← hW3]; exact new_below _ _
  have SC3 := BoxSt.new AC2.out
  rw [lv_A, hW3] at SC3
  obtain ⟨W4, hW4, hb4, hs4, hd4⟩ := lv_built W3
  rw [hs3] at hW4 hs4 hd4
  have hd5 : AtAt W4 lvD (LocD (some ⟨w2.heap.size + 1 + 1 + 1, 0, none⟩) (some ⟨w2.heap.size + 1 + 1 + 1 + 1, 0, none⟩) 2 1) := hd4
  have SD5 := BoxSt.new hd5
  rw [lv_D] at SD5
  obtain ⟨W5, hW5⟩ : ∃ W5, W4.alloc (.cells #[.int .i64 2, .slice (some ⟨w2.heap.size + 1 + 1 + 1, 0, none⟩) 2 2, .int .u32 9, .int .i64 5, .int .i64 100, .slice (some ⟨w2.heap.size + 1 + 1 + 1 + 1, 0, none⟩) 1 1] 26) = W5 := ⟨_, rfl⟩
  rw [hW5, show W4.heap.size = w2.heap.size + 1 + 1 + 1 + 1 + 1 from hs4] at SD5
  have hb5 : Below W4.heap.size W4 W5 := by rw [← hW5]; exact new_below _ _
  have hb35 : Below W3.heap.size W3 W5 := hb4.trans (hb5.mono hb4.size)
  have hb25 : Below w2.heap.size w2 W5 := hb3.trans (hb35.mono hb3.size)
  have SA5 := Lib.hid (SA2.out.next hb25)
  have OA5 := Lib.hid (OA2.out.below hb25)
  have SC5 := Lib.hid (SC3.next hb35)
  have SD5' := Lib.hid SD5
  clear SC3 SD5 hd4 hd5 hb4 hb5 hb35 hb25 hb3 hs4 SA2 OA2 AC2
  rw [hW3, hW4, hW5]
  clear hW3 hW4 hW5 hs3
  refine (lv_putD _ _ 2 1 W5 (HT.out.below SA5.out.bel) SD5'.out.ad).mono ?_; rintro e w6 ⟨p2, cap2, rfl, hO, hb⟩
  have SA6 := Lib.hid (SA5.out.next hb)
  have OA6 := Lib.hid (OA5.out.below hb)
  have SC6 := Lib.hid (SC5.out.next hb)
  have SD6 := Lib.hid (SD5'.out.next hb)
  have OD6 := Lib.hid hO.bytes
  clear hO hb SA5 OA5 SC5 SD5'
  go_wp2_with fail
  refine (lv_getD p2 cap2 w6 (HT.out.below SA6.out.bel) OD6.out).mono ?_; rintro e w7 ⟨hp, hq, hpc, hqc, rfl, had, hb⟩
  have hb8 := new_below w7 (.cells #[.int .i64 2, .slice hp 2 hpc, .int .u32 9, .int .i64 5, .int .i64 100, .slice hq 1 hqc] 26)
  have SH := BoxSt.new had
  rw [lv_D] at SH
  have SA8 := Lib.hid ((SA6.out.next hb).next hb8)
  have OA8 := Lib.hid ((OA6.out.below hb).below hb8)
  have SC8 := Lib.hid ((SC6.out.next hb).next hb8)
  have SD8 := Lib.hid ((SD6.out.next hb).next hb8)
  have SH8 := Lib.hid SH
  obtain ⟨W8, hW8⟩ : ∃ W8, w7.alloc (.cells #[.int .i64 2, .slice hp 2 hpc, .int .u32 9, .int .i64 5, .int .i64 100, .slice hq 1 hqc] 26) = W8 := ⟨_, rfl⟩
  rw [hW8] at SA8 OA8 SC8 SD8 SH8
  have HW8 := Lib.hid hW8
  have d := SD8.out.cellsD
  obtain ⟨d0, d1, d2, d3, d4, d5⟩ := d
  rw [← hW8] at d0 d1 d2 d3 d4 d5
  clear hb had hb8 SH hW8 SA6 OA6 SC6 SD6 OD6
  go_wp2_with fail
  rw [HW8.out]
  clear d0 d1 d2 d3 d4 d5
  refine (lv_putN _ _ 2 1 W8 SD8.out.ad).mono ?_; rintro e w9 ⟨rfl, hb⟩
  have SA9 := Lib.hid (SA8.out.next hb)
  have OA9 := Lib.hid (OA8.out.below hb)
  have SC9 := Lib.hid (SC8.out.next hb)
  have SD9 := Lib.hid (SD8.out.next hb)
  have SH9 := Lib.hid (SH8.out.next hb)
  clear hb HW8 SA8 OA8 SC8 SD8 SH8
  go_wp2_with fail
  refine (lv_getN w9 (HT.out.below SA9.out.bel)).mono ?_; rintro e w10 ⟨xp, xq, xn, xc, yn, yc, rfl, hb⟩
  have b1 := new_below w10 (.cells #[.int .i64 0, .slice xp xn xc, .int .u32 0, .int .i64 0, .int .i64 0, .slice xq yn yc] 26)
  obtain ⟨W11, hW11⟩ : ∃ W11, w10.alloc (.cells #[.int .i64 0, .slice xp xn xc, .int .u32 0, .int .i64 0, .int .i64 0, .slice xq yn yc] 26) = W11 := ⟨_, rfl⟩
  have hs11 : W11.heap.size = w10.heap.size + 1 := by rw [← hW11]; exact sz_alloc _ _
  rw [hW11] at b1
  have b2 := new_below W11 (.cells #[.int .u8 64, .int .u8 1, .int .u8 1, .int .u8 3] 5)
  have k12 := Blk.new W11 5 [.int .u8 64, .int .u8 1, .int .u8 1, .int .u8 3]
  obtain ⟨W12, hW12⟩ : ∃ W12, W11.alloc (.cells #[.int .u8 64, .int .u8 1, .int .u8 1, .int .u8 3] 5) = W12 := ⟨_, rfl⟩
  have hk12 : Blk W12 W11.heap.size 5 [.int .u8 64, .int .u8 1, .int .u8 1, .int .u8 3] := by rw [← hW12]; exact k12
  rw [hW12] at b2
  rw [hs11] at hk12
  have hy : BytesAt W12 (some ⟨w10.heap.size + 1, 0, none⟩) [64, 1, 1, 3] := by
    refine ⟨inByte_all (fun x hx => by simp at hx; omega), .inr ⟨_, _, rfl, fun i hi => ?_⟩⟩
    match i, hi with
    | 0, _ => exact hk12.cell 0 (by simp)
    | 1, _ => exact hk12.cell 1 (by simp)
    | 2, _ => exact hk12.cell 2 (by simp)
    | 3, _ => exact hk12.cell 3 (by simp)
  have HY := Lib.hid hy
  have SA12 := Lib.hid (((SA9.out.next hb).next b1).next b2)
  have OA12 := Lib.hid (((OA9.out.below hb).below b1).below b2)
  have SC12 := Lib.hid (((SC9.out.next hb).next b1).next b2)
  have SD12 := Lib.hid (((SD9.out.next hb).next b1).next b2)
  have SH12 := Lib.hid (((SH9.out.next hb).next b1).next b2)
  have HW11 := Lib.hid hW11
  have HW12 := Lib.hid hW12
  clear hb b1 b2 k12 hk12 hy hs11 hW11 hW12 SA9 OA9 SC9 SD9 SH9
  go_wp2_with fail
  rw [HW11.out, HW12.out]
  refine (lv_getB _ 4 W12 (HT.out.below SA12.out.bel) HY.out).mono ?_; rintro e w13 ⟨up, uq, un, uc, vn, vc, rfl, hb⟩
  have b1 := new_below w13 (.cells #[.int .i64 0, .slice up un uc, .int .u32 0, .int .i64 0, .int .i64 0, .slice uq vn vc] 26)
  obtain ⟨W14, hW14⟩ : ∃ W14, w13.alloc (.cells #[.int .i64 0, .slice up un uc, .int .u32 0, .int .i64 0, .int .i64 0, .slice uq vn vc] 26) = W14 := ⟨_, rfl⟩
  rw [hW14] at b1
  have SA14 := Lib.hid ((SA12.out.next hb).next b1)
  have OA14 := Lib.hid ((OA12.out.below hb).below b1)
  have SC14 := Lib.hid ((SC12.out.next hb).next b1)
  have SD14 := Lib.hid ((SD12.out.next hb).next b1)
  have SH14 := Lib.hid ((SH12.out.next hb).next b1)
  have HW14 := Lib.hid hW14
  have hrt := run_text OA14.out cap
  rw [show strOfNums lvAL = ⟨#[64, 1, 1, 0, 64, 2, 0, 64, 3, 4, 10, 0, 0, 1]⟩ from by decide +kernel, show lvAL.length = 14 from rfl] at hrt
  obtain ⟨a0, a1, a2, a3, a4, a5⟩ := SA14.out.cellsA
  obtain ⟨c0, c1, c2, c3, c4, c5⟩ := SC14.out.cellsA
  rw [← hW14] at a0 a1 a2 a3 a4 a5 c0 c1 c2 c3 c4 c5 hrt
  clear hb b1 hW14 HY SA12 OA12 SC12 SD12 SH12 HW11 HW12
  go_wp2_with fail
  rw [HW14.out]
  clear a0 a1 a2 a3 a4 a5 c0 c1 c2 c3 c4 c5 hrt HW14
  refine (lv_sameA _ _ _ _ _ _ _ _ W14 SA14.out.ad SC14.out.ad).mono ?_; rintro e w15 ⟨rfl, hb⟩
  have SA15 := Lib.hid (SA14.out.next hb)
  have SC15 := Lib.hid (SC14.out.next hb)
  have SD15 := Lib.hid (SD14.out.next hb)
  have SH15 := Lib.hid (SH14.out.next hb)
  clear hb SA14 SC14 SD14 SH14
  obtain ⟨d0, d1, d2, d3, d4, d5⟩ := SD15.out.cellsD
  obtain ⟨h0, h1, h2, h3, h4, h5⟩ := SH15.out.cellsD
  go_wp2_with fail
  clear d0 d1 d2 d3 d4 d5 h0 h1 h2 h3 h4 h5
  refine (lv_sameD _ _ _ _ _ _ _ _ w15 SD15.out.ad SH15.out.ad).mono ?_; rintro e w16 ⟨rfl, hb⟩
  have SA16 := Lib.hid (SA15.out.next hb)
  have SC16 := Lib.hid (SC15.out.next hb)
  have SD16 := Lib.hid (SD15.out.next hb)
  have SH16 := Lib.hid (SH15.out.next hb)
  clear hb SA15 SC15 SD15 SH15
  obtain ⟨d0, d1, d2, d3, d4, d5⟩ := SD16.out.cellsD
  go_wp2_with fail
  clear d0 d1 d2 d3 d4 d5
  refine (lv_lenD _ _ _ _ w16 SD16.out.ad).mono ?_; rintro e w17 ⟨rfl, hb⟩
  have SA17 := Lib.hid (SA16.out.next hb)
  have SC17 := Lib.hid (SC16.out.next hb)
  have SD17 := Lib.hid (SD16.out.next hb)
  have SH17 := Lib.hid (SH16.out.next hb)
  clear hb SA16 SC16 SD16 SH16
  obtain ⟨d0, d1, d2, d3, d4, d5⟩ := SD17.out.cellsD
  go_wp2_with fail
  clear d0 d1 d2 d3 d4 d5
  refine (lv_firstD _ _ _ _ w17 SD17.out.ad).mono ?_; rintro e w18 ⟨rfl, hb⟩
  have SA18 := Lib.hid (SA17.out.next hb)
  have SC18 := Lib.hid (SC17.out.next hb)
  have SD18 := Lib.hid (SD17.out.next hb)
  have SH18 := Lib.hid (SH17.out.next hb)
  clear hb SA17 SC17 SD17 SH17
  obtain ⟨d0, d1, d2, d3, d4, d5⟩ := SD18.out.cellsD
  go_wp2_with fail
  clear d0 d1 d2 d3 d4 d5
  refine (lv_has2 _ _ _ _ w18 SD18.out.ad).mono ?_; rintro e w19 ⟨rfl, hb⟩
  have SA19 := Lib.hid (SA18.out.next hb)
  have SC19 := Lib.hid (SC18.out.next hb)
  have SD19 := Lib.hid (SD18.out.next hb)
  have SH19 := Lib.hid (SH18.out.next hb)
  clear hb SA18 SC18 SD18 SH18
  obtain ⟨d0, d1, d2, d3, d4, d5⟩ := SD19.out.cellsD
  go_wp2_with fail
  clear d0 d1 d2 d3 d4 d5
  refine (lv_has3 _ _ _ _ w19 SD19.out.ad).mono ?_; rintro e w20 ⟨rfl, hb⟩
  have SA20 := Lib.hid (SA19.out.next hb)
  have SC20 := Lib.hid (SC19.out.next hb)
  have SD20 := Lib.hid (SD19.out.next hb)
  have SH20 := Lib.hid (SH19.out.next hb)
  clear hb SA19 SC19 SD19 SH19
  obtain ⟨d0, d1, d2, d3, d4, d5⟩ := SD20.out.cellsD
  obtain ⟨h0, h1, h2, h3, h4, h5⟩ := SH20.out.cellsD
  go_wp2_with fail
  clear d0 d1 d2 d3 d4 d5 h0 h1 h2 h3 h4 h5
  refine (lv_likeD _ _ _ _ _ _ _ _ w20 SD20.out.ad SH20.out.ad).mono ?_; rintro e w21 ⟨rfl, hb⟩
  have SA21 := Lib.hid (SA20.out.next hb)
  have SC21 := Lib.hid (SC20.out.next hb)
  have SD21 := Lib.hid (SD20.out.next hb)
  have SH21 := Lib.hid (SH20.out.next hb)
  clear hb SA20 SC20 SD20 SH20
  obtain ⟨a0, a1, a2, a3, a4, a5⟩ := SA21.out.cellsA
  go_wp2_with fail
  clear a0 a1 a2 a3 a4 a5
  refine (lv_check _ _ _ _ w21 SA21.out.ad).mono ?_; rintro e w22 ⟨rfl, hb⟩
  have SA22 := Lib.hid (SA21.out.next hb)
  have SC22 := Lib.hid (SC21.out.next hb)
  have SD22 := Lib.hid (SD21.out.next hb)
  have SH22 := Lib.hid (SH21.out.next hb)
  clear hb SA21 SC21 SD21 SH21
  go_wp2_with fail
  go_ret
  exact ⟨rfl, SA22.out.bel⟩
end Go.Proofs.YtcabiodgmhcdlaaDoor
