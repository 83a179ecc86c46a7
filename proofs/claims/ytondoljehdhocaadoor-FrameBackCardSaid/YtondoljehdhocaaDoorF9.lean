/- frame: what must come of every program. -/
import Derived.Test.YtondoljehdhocaaDoorF8
namespace Go.Proofs.YtondoljehdhocaaDoor
open Go.RowKit

def keepL : List Int := [255, 255, 255, 255, 255, 255, 255, 255, 255, 255, 255, 255, 255, 255, 255, 255, 0, 19, 4]
theorem keep_put : putM 4 [] = keepL := by decide +kernel
theorem keep_ok : okM 4 0 = true ∧ okM 5 0 = false := by decide +kernel
theorem keep_h1 : headM (keepL.take 7) = ⟨0, 0, 0, 0, []⟩ := by kernel_rfl
theorem keep_h2 : headM (keepL ++ [0]) = ⟨4, 19, 0, 0, []⟩ := by kernel_rfl
theorem keep_h3 : headM (List.replicate 19 0) = ⟨0, 0, 1, 1, []⟩ := by kernel_rfl
theorem keep_h4 : headM keepL = ⟨4, 19, 0, 0, []⟩ := by kernel_rfl

theorem keep_cat : keepL.take 7 ++ (([] ++ keepL.drop 7) ++ [0]) = keepL ++ [0] := by decide +kernel
theorem keep_rest : (keepL ++ [0]).drop 19 = [0] ∧ ((keepL ++ [0]).take 19).drop 19 = [] ∧ [0] ++ List.replicate 18 0 = List.replicate 19 (0 : Int) := by decide +kernel
theorem zeros_made (w : World) (n : Nat) : BytesAt (w.alloc (.cells (madeCells #[.int .u8 0] n) 5)) (some ⟨w.heap.size, 0, none⟩) (List.replicate n 0) := by
  have hrow := World.rowIs_made w (.int .u8 0) n 5
  refine ⟨inByte_all (fun x hx => by rw [List.mem_replicate] at hx; omega), .inr ⟨w.heap.size, 0, rfl, fun i hi => ?_⟩⟩
  have hi' : i < n := by simpa using hi
  rw [Nat.zero_add, hrow.cell hi']
  simp [List.getD, hi']

set_option maxRecDepth 100000 in
set_option maxHeartbeats 4000000 in
theorem lives_any (w : World) (ht : Tab w) : Calls Tryd.prog 8 #[] w fun e w' => e = .returned (.bool true) ∧ Below w.heap.size w w' := by
  have h0 := (Below.refl w.heap.size w).alloc (Nat.le_refl _) (.cells #[.int .i64 4, .slice none 0 0] 24)
  have H0 := Lib.hid h0
  have K0 := Lib.hid (Blk.new w 24 [.int .i64 4, .slice none 0 0])
  have HT := Lib.hid ht
  have hmk : ∀ w, (Instr.makeSlice 22 (.int .i64 18) (.int .i64 18)).run Tryd.prog w = .ok (.slice (some ⟨w.heap.size, 0, none⟩) 18 18) (w.alloc (.cells (madeCells #[.int .u8 0] 18) 5)) := run_make_row' (P := Tryd.prog) 22 5 (.int .u8 0) 1 Tryd.underlying22 info5 rfl .i64 .i64 18 (by omega) (by omega)
  have HP := Lib.hid (putM_ok 4 none [] 0 0 _ (ht.below h0) (BytesAt.nil _ _) rfl keep_ok.1)
  rw [keep_put, show keepL.length = 19 from rfl] at HP
  clear h0 ht
  go_enter Tryd.func8, Tryd.ntmps8
  go_wp2_with fail
  refine HP.out.mono ?_; rintro e w1 ⟨p, cap, rfl, hO, hb⟩
  have HB1 := Lib.hid (H0.out.trans (hb.mono (by simp)))
  have K1 := Lib.hid (K0.out.next hb)
  have O1 := Lib.hid (hO.mono (show w.heap.size + 1 ≤ _ by simp))
  clear hO hb
  have T1 := HT.out.below HB1.out
  go_wp2_with fail
  refine (putM_no 5 none 0 0 w1 T1 (by omega) keep_ok.2).mono ?_; rintro e w2 ⟨rfl, hb⟩
  have HB2 := Lib.hid (HB1.out.trans (hb.mono HB1.out.size))
  have K2 := Lib.hid (K1.out.next hb)
  have O2 := Lib.hid (O1.out.below hb)
  clear hb T1 K1 O1
  go_wp2_with fail
  refine (new_any w2).mono ?_; rintro e w3 ⟨rfl, hs, hb⟩
  have HB3 := Lib.hid (HB2.out.trans (hb.mono HB2.out.size))
  have K3 := Lib.hid (K2.out.next hb)
  have O3 := Lib.hid (O2.out.below hb)
  have S3 := Lib.hid hs
  have hk2 : w.heap.size < w2.heap.size := K2.out.lt
  obtain ⟨pb, hpb⟩ : ∃ pb, p.map (·.block) = some pb := by
    rcases O2.out.val with ⟨_, h0⟩ | ⟨g, off, rfl, _⟩
    · have := O2.out.le; simp [keepL] at this; omega
    · exact ⟨g, rfl⟩
  have hcap : 19 ≤ cap := by have := O2.out.le; simpa [keepL] using this
  have hpb2 : pb < w2.heap.size := (O2.out.block_lt hpb).2
  have E1 := fun w => run_cut_h w p 19 cap 7 7 rfl (by omega)
  have BC1 := Lib.hid ((O3.out.bytes.cut cap 0 7 (by omega) (by decide) hcap))
  obtain ⟨p0, hp0⟩ : ∃ p0, cutP p cap 0 = p0 := ⟨_, rfl⟩
  rw [hp0] at E1 BC1
  have E2 := fun w => run_cut_l w p 19 cap 7 7 rfl (by omega)
  obtain ⟨p7, hp7⟩ : ∃ p7, cutP p cap 7 = p7 := ⟨_, rfl⟩
  rw [hp7] at E2
  have HP7 := Lib.hid hp7
  clear hs hb K2 O2 hp0 hp7
  go_wp2_with fail
  refine (feed_ok w2.heap.size [] p0 (keepL.take 7) 7 cap w3 S3.out BC1.out rfl (by decide)).mono ?_; rintro e w4 ⟨rfl, hs, hb⟩
  have HB4 := Lib.hid (HB3.out.trans (hb.mono (by omega)))
  have K4 := Lib.hid (K3.out.below hb (by omega))
  have O4 := Lib.hid (O3.out.of_block hb.size (fun b h => hb.block b (by rw [hpb] at h; cases h; omega)))
  have S4 := Lib.hid hs
  have T4 := HT.out.below HB4.out
  clear hs hb K3 O3 S3 BC1
  go_wp2_with fail
  refine (next_none w2.heap.size (keepL.take 7) 0 0 w4 T4 S4.out keep_h1 (.inl rfl) (by decide)).mono ?_; rintro e w5 ⟨⟨q5, c5, r5, d5, rfl, h51, h52⟩, hs, hb⟩
  have HB5 := Lib.hid (HB4.out.trans (hb.mono HB4.out.size))
  have K5 := Lib.hid (K4.out.next hb)
  have O5 := Lib.hid (O4.out.below hb)
  have S5 := Lib.hid hs
  dsimp only [List.length_nil]
  obtain ⟨W6, hW6⟩ : ∃ W6, (w5.alloc (.cells #[.int .i64 0, .slice q5 0 c5] 24)).alloc (.cells #[.int .i64 0, .int .i64 0, .slice r5 0 d5] 33) = W6 := ⟨_, rfl⟩
  have h6 : Below w5.heap.size w5 W6 := by rw [← hW6]; exact two_below _ _ _
  have HB6 := Lib.hid (HB5.out.trans (h6.mono HB5.out.size))
  have K6 := Lib.hid (K5.out.next h6)
  have O6 := Lib.hid (O5.out.below h6)
  have S6 := Lib.hid (S5.out.next h6)
  have hs6 : W6.heap.size = w5.heap.size + 2 := by rw [← hW6]; simp
  have OL := Own.lit W6 W6.heap.size [] (fun i hi => by simp at hi) (by simp) (Nat.le_refl _)
  have BL := Lib.hid ((O6.out.bytes.cutl cap 7 (by decide) hcap).alloc (.cells #[] 5))
  rw [HP7.out] at BL
  rw [hs6] at OL
  have OL6 := Lib.hid OL
  have HW6 := Lib.hid hW6
  have HS6 := Lib.hid hs6
  clear hs hb K4 O4 S4 T4 h51 h52 h6 OL hW6 hs6 K5 O5 S5
  go_wp2_with (first
    | (rw [HW6.out]; refine wpList_appo (o := ⟨some 57, _, _, _, _, _⟩) (by rfl) (.tmp 54) (.tmp 56) (by rfl) (w5.heap.size + 2) (some ⟨w5.heap.size + 2, 0, none⟩) 0 [] OL6.out 0 (by rfl) (by rfl) p7 12 (cap - 7) (keepL.drop 7) BL.out (by rfl) (by rfl) 12 (by omega) (by omega) (by have := HS6.out; simp; omega) ?_; intro p8 c8 w7 hO7 hB7 hG7; have HO7 := Lib.hid (hO7.out.alloc (.cells #[.int .u8 0] 5)); have HOB := Lib.hid (one_byte w7 0 (by omega) (by omega)); have HS7 := Lib.hid hB7.out.size)
    | (refine wpList_appo (o := ⟨some 59, _, _, _, _, _⟩) (by rfl) (.tmp 57) (.tmp 58) (by rfl) (w5.heap.size + 2) p8 c8 ([] ++ keepL.drop 7) HO7.out 12 (by rfl) (by rfl) _ 1 1 [0] HOB.out (by rfl) (by rfl) 13 (by omega) (by omega) (by have := HS7.out; have := HS6.out; simp at *; omega) ?_; intro p9 c9 w8 hO8 hB8 hG8))
  have hC : Below (w5.heap.size + 2) W6 w8 := (((((Below.refl _ W6).alloc (by rw [HS6.out]; exact Nat.le_refl _) _).trans hB7.out).alloc (by have := HS7.out; have := HS6.out; simp at *; omega) _).trans hB8.out)
  have hC' : Below W6.heap.size W6 w8 := by rw [HS6.out]; exact hC
  have HB8 := Lib.hid (HB6.out.trans (hC'.mono HB6.out.size))
  have K8 := Lib.hid (K6.out.next hC')
  have O8 := Lib.hid (O6.out.below hC')
  have S8 := Lib.hid (S6.out.next hC')
  have Y8 := Lib.hid hO8.out.bytes
  clear hC hC' hO7 hB7 hG7 HO7 HOB HS7 hO8 hB8 hG8 K6 O6 S6 OL6 BL HS6 HW6
  refine (feed_ok w2.heap.size (keepL.take 7) p9 (([] ++ keepL.drop 7) ++ [0]) 13 c9 w8 S8.out Y8.out rfl (by decide)).mono ?_; rintro e w9 ⟨rfl, hs, hb⟩
  rw [keep_cat] at hs
  have HB9 := Lib.hid (HB8.out.trans (hb.mono (by omega)))
  have K9 := Lib.hid (K8.out.below hb (by omega))
  have O9 := Lib.hid (O8.out.of_block hb.size (fun b h => hb.block b (by rw [hpb] at h; cases h; omega)))
  have S9 := Lib.hid hs
  have T9 := HT.out.below HB9.out
  clear hs hb K8 O8 S8 Y8
  go_wp2_with fail
  refine (next_yes w2.heap.size (keepL ++ [0]) 4 19 w9 T9 S9.out keep_h2 (by decide) (by decide)).mono ?_; rintro e w10 ⟨⟨q10, c10, r10, d10, rfl, h1, h2⟩, hs, hb⟩
  rw [keep_rest.1] at hs
  rw [keep_rest.2.1]
  dsimp only [List.length_nil]
  have HB10 := Lib.hid (HB9.out.trans (hb.mono (by omega)))
  have K10 := Lib.hid (K9.out.below hb (by omega))
  have O10 := Lib.hid (O9.out.of_block hb.size (fun b h => hb.block b (by rw [hpb] at h; cases h; omega)))
  have S10 := Lib.hid hs
  have hg10 : w2.heap.size < w10.heap.size := by obtain ⟨_, _, h3, _⟩ := hs; exact h3.lt
  clear hs hb K9 O9 S9 T9 h1 h2
  obtain ⟨W11, hW11⟩ : ∃ W11, (w10.alloc (.cells #[.int .i64 4, .slice q10 0 c10] 24)).alloc (.cells #[.int .i64 0, .int .i64 0, .slice r10 0 d10] 33) = W11 := ⟨_, rfl⟩
  have h11 : Below w10.heap.size w10 W11 := by rw [← hW11]; exact two_below _ _ _
  have hs11 : W11.heap.size = w10.heap.size + 2 := by rw [← hW11]; simp
  have M11 := Lib.hid (show Blk W11 w10.heap.size 24 [.int .i64 4, .slice q10 0 c10] by rw [← hW11]; exact (Blk.new w10 24 [.int .i64 4, .slice q10 0 c10]).alloc _)
  have HB11 := Lib.hid (HB10.out.trans (h11.mono HB10.out.size))
  have K11 := Lib.hid (K10.out.next h11)
  have O11 := Lib.hid (O10.out.below h11)
  obtain ⟨z, zc, s10⟩ := S10.out
  have hzb := fun b h => (s10.2.block_lt (g := b) h).2
  have hzn : z.map (·.block) ≠ some w10.heap.size := fun e => absurd (hzb _ e) (by omega)
  have S11 := Lib.hid (show StrP W11 w2.heap.size [0] z zc from ⟨s10.1.next h11, s10.2.below h11⟩)
  have HW11 := Lib.hid hW11
  have HS11 := Lib.hid hs11
  have HZ := Lib.hid hzn
  clear h11 hW11 hs11 s10 hzb hzn K10 O10 S10
  go_wp2_with fail
  rw [HW11.out]
  have hlen := len_str W11 w2.heap.size [0] ⟨z, zc, S11.out⟩
  rw [show ((([0] : List Int).length : Nat) : Int) = 1 from rfl] at hlen
  refine hlen.mono ?_; rintro e w' ⟨rfl, rfl⟩
  clear hlen
  have Y12 := Lib.hid (zeros_made W11 18)
  have hal := (Below.refl W11.heap.size W11).alloc (Nat.le_refl _) (.cells (madeCells #[.int .u8 0] 18) 5)
  have HB12 := Lib.hid (HB11.out.trans (hal.mono HB11.out.size))
  have K12 := Lib.hid (K11.out.next hal)
  have M12 := Lib.hid (M11.out.next hal)
  have O12 := Lib.hid (O11.out.below hal)
  have S12 := Lib.hid (show StrP (W11.alloc (.cells (madeCells #[.int .u8 0] 18) 5)) w2.heap.size [0] z zc from ⟨S11.out.1.next hal, S11.out.2.below hal⟩)
  clear hal K11 M11 O11 S11
  go_wp2_with fail
  refine (feed_okP w2.heap.size [0] z zc _ (List.replicate 18 0) 18 18 _ S12.out Y12.out (by rfl) (by decide)).mono ?_; rintro e w13 ⟨rfl, ⟨z2, zc2, hs, hz2⟩, hb, hx⟩
  rw [keep_rest.2.2] at hs
  have hM12 := M12.out.lt
  have hgM : w10.heap.size ≠ w2.heap.size := by omega
  have HB13 := Lib.hid (HB12.out.trans (hb.mono (by omega)))
  have K13 := Lib.hid (K12.out.below hb (by omega))
  have O13 := Lib.hid (O12.out.of_block hb.size (fun b h => hb.block b (by rw [hpb] at h; cases h; omega)))
  have M13 := Lib.hid (M12.out.of_same (hx _ hM12 hgM HZ.out))
  have S13 := Lib.hid (show Str w13 w2.heap.size (List.replicate 19 0) from ⟨z2, zc2, hs⟩)
  have T13 := HT.out.below HB13.out
  clear hs hb K12 O12 S12 Y12 M12 hx hz2
  go_wp2_with fail
  refine (next_wrong w2.heap.size (List.replicate 19 0) 1 [] w13 T13 S13.out keep_h3 (by decide) (by decide)).mono ?_; rintro e w14 ⟨⟨q14, c14, r14, d14, rfl, h1, h2⟩, hs, hb, hx⟩
  dsimp only [List.length_nil]
  have hM13 := M13.out.lt
  have HB14 := Lib.hid (HB13.out.trans (hb.mono (by omega)))
  have K14 := Lib.hid (K13.out.below hb (by omega))
  have O14 := Lib.hid (O13.out.of_block hb.size (fun b h => hb.block b (by rw [hpb] at h; cases h; omega)))
  have M14 := Lib.hid (M13.out.of_same (hx _ hM13 hgM))
  have S14 := Lib.hid hs
  clear hs hb K13 O13 S13 M13 hx T13 h1 h2
  obtain ⟨W15, hW15⟩ : ∃ W15, (w14.alloc (.cells #[.int .i64 0, .slice q14 0 c14] 24)).alloc (.cells #[.int .i64 1, .int .i64 1, .slice r14 0 d14] 33) = W15 := ⟨_, rfl⟩
  have h15 : Below w14.heap.size w14 W15 := by rw [← hW15]; exact two_below _ _ _
  have hs15 : W15.heap.size = w14.heap.size + 2 := by rw [← hW15]; simp
  have N15 := Lib.hid (show Blk W15 (w14.heap.size + 1) 33 [.int .i64 1, .int .i64 1, .slice r14 0 d14] by
    rw [← hW15, ← sz_alloc w14 (.cells #[.int .i64 0, .slice q14 0 c14] 24)]; exact Blk.new _ _ _)
  have HB15 := Lib.hid (HB14.out.trans (h15.mono HB14.out.size))
  have K15 := Lib.hid (K14.out.next h15)
  have M15 := Lib.hid (M14.out.next h15)
  have O15 := Lib.hid (O14.out.below h15)
  have S15 := Lib.hid (S14.out.next h15)
  have HW15 := Lib.hid hW15
  have T15 := HT.out.below HB15.out
  clear h15 hW15 hs15 K14 M14 O14 S14 hmk E1 E2
  go_wp2_with fail
  rw [HW15.out]
  refine (feed_bad w2.heap.size 1 [] none 0 0 W15 S15.out).mono ?_; rintro e w' ⟨rfl, rfl⟩
  go_wp2_with fail
  refine (head_any p keepL 19 cap W15 T15 O15.out.bytes rfl hcap (by have := O15.out.max; unfold maxLen at this; omega)).mono ?_; rintro e w16 ⟨q16, c16, rfl, h1, hb⟩
  rw [keep_h4]
  dsimp only [List.length_nil]
  have HB16 := Lib.hid (HB15.out.trans (hb.mono HB15.out.size))
  have K16 := Lib.hid (K15.out.next hb)
  have M16 := Lib.hid (M15.out.next hb)
  have O16 := Lib.hid (O15.out.below hb)
  have N16 := Lib.hid (N15.out.next hb)
  clear h1 hb K15 M15 O15 N15 S15 T15
  obtain ⟨W17, hW17⟩ : ∃ W17, w16.alloc (.cells #[.int .i64 0, .int .i64 0, .slice q16 0 c16] 33) = W17 := ⟨_, rfl⟩
  have h17 : Below w16.heap.size w16 W17 := by rw [← hW17]; exact (Below.refl _ _).alloc (Nat.le_refl _) _
  have F17 : Blk W17 w16.heap.size 33 [.int .i64 0, .int .i64 0, .slice q16 0 c16] := by rw [← hW17]; exact Blk.new _ _ _
  have HB17 := Lib.hid (HB16.out.trans (h17.mono HB16.out.size))
  have K17 := K16.out.next h17
  have M17 := M16.out.next h17
  have N17 := N16.out.next h17
  obtain ⟨g17, o17, rfl, _, _, hc17, _⟩ := (O16.out.below h17).val.resolve_left (by rintro ⟨_, h0⟩; omega)
  have a15 : W17.cell? ⟨g17, o17 + 15, none⟩ = some (.int .u8 255) := hc17 15 (by decide)
  have a17 : W17.cell? ⟨g17, o17 + 17, none⟩ = some (.int .u8 19) := hc17 17 (by decide)
  have a18 : W17.cell? ⟨g17, o17 + 18, none⟩ = some (.int .u8 4) := hc17 18 (by decide)
  have k0 := K17.cell 0 (by simp)
  have k1 := K17.cell 1 (by simp)
  have m0 := M17.cell 0 (by simp)
  have m1 := M17.cell 1 (by simp)
  have HK17 := Lib.hid K17
  have HN17 := Lib.hid N17
  have HF17 := Lib.hid F17
  have HW17 := Lib.hid hW17
  clear h17 hW17 K17 M17 N17 F17 hc17 K16 M16 O16 N16
  rw [← HW17.out] at a15 a17 a18 k0 k1 m0 m1
  go_wp2_with fail
  rw [HW17.out]
  clear a15 a17 a18 k0 k1 m0 m1
  refine (rsame_yes 4 q10 [] 0 c10 none 0 W17 (BytesAt.nil _ _) (BytesAt.nil _ _) rfl).mono ?_; rintro e w18 ⟨rfl, hb⟩
  have HB18 := Lib.hid (HB17.out.trans (hb.mono HB17.out.size))
  have K18 := HK17.out.next hb
  have N18 := HN17.out.next hb
  have F18 := HF17.out.next hb
  have T18 := Lib.hid (HT.out.below HB18.out)
  have k0 := K18.cell 0 (by simp)
  have k1 := K18.cell 1 (by simp)
  have n0 := N18.cell 0 (by simp)
  have n1 := N18.cell 1 (by simp)
  have f0 := F18.cell 0 (by simp)
  clear hb K18 N18 F18 HK17 HN17 HF17 HW17
  go_wp2_with fail
  refine (checkM_any 4 none 0 0 w18 T18.out (by omega)).mono ?_; rintro e w19 ⟨rfl, hb⟩
  have HB19 := Lib.hid (HB18.out.trans (hb.mono HB18.out.size))
  clear hb
  rw [show errM 4 ((0 : Nat) : Int) = 0 by decide +kernel]
  go_wp2_with fail
  go_ret
  exact ⟨rfl, HB19.out⟩
end Go.Proofs.YtondoljehdhocaaDoor
