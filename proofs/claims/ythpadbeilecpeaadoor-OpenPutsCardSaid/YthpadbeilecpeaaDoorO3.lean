/- open: Put, Message. -/
import Derived.Test.YthpadbeilecpeaaDoorO2
namespace Go.Proofs.YthpadbeilecpeaaDoor
open Go.RowKit

theorem put_no (o : Op) (w : World) (hk : okO o = false) :
    Calls Tryd.prog 4 #[o.v] w fun e w' => e = .returned (.tuple #[.slice none 0 0, .int .i64 40]) ∧ Below w.heap.size w w' := by
  have HC := fun v : World => Lib.hid (check_no o v hk)
  clear hk
  obtain ⟨asn, hold, id, four, paths⟩ := o
  unfold Op.v at *
  simp only at *
  have HN := Lib.hid (new_below w (.cells #[.int .i64 asn, .int .i64 hold, .int .u32 id, .bool four, .int .i64 paths] 24))
  go_enter Tryd.func4, Tryd.ntmps4
  go_wp2_with fail
  (with_reducible refine (HC _).out.mono ?_); rintro e w1 ⟨rfl, hb⟩
  have HB := Lib.hid (HN.out.trans (hb.mono HN.out.size))
  clear hb
  go_wp2_with fail
  go_ret2
  exact ⟨rfl, HB.out⟩
theorem put_shape (o : Op) : putO o = [4] ++ putL (shortAS o.asn) 2 ++ putL o.hold 2 ++ putL o.id 4 ++ [((saidO o).length : Int)] ++ saidO o := by
  unfold putO frontO
  simp
set_option maxRecDepth 100000 in
set_option maxHeartbeats 2000000 in
theorem put_small (o : Op) (w : World) (hf : FitO o) (hk : okO o = true) (hbig : o.asn ≤ 65535) :
    Calls Tryd.prog 4 #[o.v] w fun e w' => ∃ p cap, e = .returned (.tuple #[.slice p (putO o).length cap, .int .i64 0]) ∧ Own w' w.heap.size p cap (putO o) ∧ Below w.heap.size w w' := by
  have HP := Lib.hid (put_shape o)
  have HSH := Lib.hid (show shortAS o.asn = o.asn by unfold shortAS; exact if_neg (by omega))
  have HC := fun v : World => Lib.hid (check_yes o v hk)
  have HG := fun v : World => Lib.hid (caps_any o v hf)
  have hcl := caps_len (o := o)
  obtain ⟨n, hn⟩ : ∃ n, (capsO o).length = n := ⟨_, rfl⟩
  rw [hn] at hcl
  have HN := Lib.hid hn
  have HSL := Lib.hid (show (saidO o).length = n + 2 by unfold saidO; simp [hn])
  have F2 := Lib.hid (show fitsB o.asn (2 : Nat) = true from fits2 (by have := hf.a0; omega) (by omega))
  have F3 := Lib.hid (show fitsB o.hold (2 : Nat) = true from fits2 hf.h0 hf.h1)
  have F4 := Lib.hid (show fitsB o.id (4 : Nat) = true from fits4 hf.i0 hf.i1)
  have i0 := hf.i0
  have i1 := hf.i1
  clear hf hk hn
  have HO := Lib.hid (show saidO o = 2 :: ((capsO o).length : Int) :: capsO o from rfl)
  obtain ⟨cs, hcs⟩ : ∃ cs, capsO o = cs := ⟨_, rfl⟩
  obtain ⟨sd, hsd⟩ : ∃ sd, saidO o = sd := ⟨_, rfl⟩
  obtain ⟨po, hpo⟩ : ∃ po, putO o = po := ⟨_, rfl⟩
  rw [hcs] at HN HG HO
  rw [hsd] at HSL HP HO
  rw [hpo] at HP ⊢
  clear hcs hsd hpo
  obtain ⟨asn, hold, id, four, paths⟩ := o
  simp only at *
  unfold Op.v at *
  simp only at *
  have HX := Lib.hid (Blk.new w 24 [.int .i64 asn, .int .i64 hold, .int .u32 id, .bool four, .int .i64 paths])
  obtain ⟨W, hW⟩ : ∃ W, w.alloc (.cells #[.int .i64 asn, .int .i64 hold, .int .u32 id, .bool four, .int .i64 paths] 24) = W := ⟨_, rfl⟩
  have HXW := Lib.hid (show Blk W w.heap.size 24 [.int .i64 asn, .int .i64 hold, .int .u32 id, .bool four, .int .i64 paths] by rw [← hW]; exact HX.out)
  have HS := Lib.hid (show W.heap.size = w.heap.size + 1 by rw [← hW]; simp)
  have H1 := Lib.hid (show Below w.heap.size w W by rw [← hW]; exact new_below _ _)
  have HW := Lib.hid hW
  clear hW HX
  go_enter Tryd.func4, Tryd.ntmps4
  go_wp2_with fail
  rw [HW.out]
  (with_reducible refine (HC _).out.mono ?_); rintro e w1 ⟨rfl, hb⟩
  have X1 := Lib.hid (HXW.out.next hb)
  have B1 := Lib.hid (H1.out.trans (hb.mono H1.out.size))
  have S1 := Lib.hid (show w.heap.size < w1.heap.size by have := hb.size; have := HS.out; omega)
  clear hb HXW H1 HW HS HC
  have c0 := X1.out.cell 0 (by simp)
  have c1 := X1.out.cell 1 (by simp)
  have c2 := X1.out.cell 2 (by simp)
  have c3 := X1.out.cell 3 (by simp)
  have c4 := X1.out.cell 4 (by simp)
  go_wp2_with fail
  (with_reducible refine (HG _).out.mono ?_); rintro e w2 ⟨q, cq, rfl, hO, hb⟩
  rw [HN.out]
  have X2 := Lib.hid (X1.out.next hb)
  have B2 := Lib.hid (B1.out.trans (hb.mono (Nat.le_of_lt S1.out)))
  have Y2 := Lib.hid hO.bytes
  have S2 := Lib.hid (Nat.lt_of_lt_of_le S1.out hb.size)
  clear hO hb c0 c1 c2 c3 c4 X1 B1 S1 HG
  go_wp2_with fail
  (with_reducible refine (part_new _ w2.heap.size 2 cs n HN.out (by omega) (by omega) (by omega) _ _ Y2.out (Nat.le_refl _)).mono ?_); rintro e w3 ⟨q3, cq3, rfl, hO, hb⟩
  have X3 := Lib.hid (X2.out.next hb)
  have B3 := Lib.hid (B2.out.trans (hb.mono (Nat.le_of_lt S2.out)))
  have Y3 := Lib.hid (show BytesAt w3 q3 sd by rw [HO.out, HN.out]; exact hO.bytes)
  have S3 := Lib.hid (Nat.lt_of_lt_of_le S2.out hb.size)
  clear hO hb X2 B2 S2 Y2
  have G3 := Lib.hid (show GrowSt w3 w3.heap.size w.heap.size 24 [.int .i64 asn, .int .i64 hold, .int .u32 id, .bool four, .int .i64 paths] (w3.alloc (.cells #[.int .u8 4] 5)) (some ⟨w3.heap.size, 0, none⟩) 1 [4] from ⟨Own.lit w3 w3.heap.size [4] (inByte_all (by decide)) (by simp) (Nat.le_refl _), X3.out.next (new_below _ _), new_below _ _, S3.out, by simp⟩)
  go_wp2_with fail
  (with_reducible refine (number_new asn 2 2 rfl _ (by omega) (by omega) F2.out).mono ?_); rintro e w4 ⟨rfl, hr, hb⟩
  have G4 := Lib.hid (G3.out.next hb)
  rw [sz_alloc] at hr
  have Y4 := Lib.hid (hr.bytes (putL_byte _ _))
  clear hr hb G3
  go_wp2_with (refine wpList_appo (o := ⟨some 24, _, _, _, _, _⟩) (by rfl) (.tmp 21) (.tmp 23) (by rfl) w3.heap.size (some ⟨w3.heap.size, 0, none⟩) 1 [4] G4.out.own 1 (by rfl) (by rfl) _ 2 2 _ Y4.out (putL_len ..) (by rfl) 3 (by rfl) (by omega) G4.out.hB ?_; intro q5 cq5 w5 hO5 hB5 hG5; have G5 := Lib.hid (G4.out.app hO5.out hB5.out); have c1 := G5.out.blk.cell 1 (by simp))
  clear hO5 hB5 hG5
  (with_reducible refine (number_new hold 2 2 rfl _ (by omega) (by omega) F3.out).mono ?_); rintro e w6 ⟨rfl, hr, hb⟩
  have G6 := Lib.hid (G5.out.next hb)
  have Y6 := Lib.hid (hr.bytes (putL_byte _ _))
  clear hr hb c1
  go_wp2_with (refine wpList_appo (o := ⟨some 29, _, _, _, _, _⟩) (by rfl) (.tmp 25) (.tmp 28) (by rfl) w3.heap.size q5 cq5 ([4] ++ putL asn 2) G6.out.own 3 (by simp [putL_len]) (by rfl) _ 2 2 _ Y6.out (putL_len ..) (by rfl) 5 (by rfl) (by omega) G6.out.hB ?_; intro q7 cq7 w7 hO7 hB7 hG7; have G7 := Lib.hid (G6.out.app hO7.out hB7.out); have c2 := G7.out.blk.cell 2 (by simp))
  clear hO7 hB7 hG7
  (with_reducible refine (number_new id 4 4 rfl _ (by omega) (by omega) F4.out).mono ?_); rintro e w8 ⟨rfl, hr, hb⟩
  have G8 := Lib.hid (G7.out.next hb)
  have Y8 := Lib.hid (hr.bytes (putL_byte _ _))
  clear hr hb c2
  have hwn : IntKind.u8.wrap ((n : Int) + 2) = (n : Int) + 2 := by rw [show IntKind.u8.wrap ((n : Int) + 2) = ((n : Int) + 2) % 256 from by first | rfl | exact IntKind.wrap_u8 _ | exact IntKind.wrap_u8' _]; omega
  go_wp2_with (first
    | (refine wpList_appo (o := ⟨some 35, _, _, _, _, _⟩) (by rfl) (.tmp 30) (.tmp 34) (by rfl) w3.heap.size q7 cq7 ([4] ++ putL asn 2 ++ putL hold 2) G8.out.own 5 (by simp [putL_len]) (by rfl) _ 4 4 _ Y8.out (putL_len ..) (by rfl) 9 (by rfl) (by omega) G8.out.hB ?_; intro q9 cq9 w9 hO9 hB9 hG9; have G9 := Lib.hid (G8.out.app hO9.out hB9.out); have Y9 := Lib.hid (one_byte w9 ((n : Int) + 2) (by omega) (by omega)); have G9' := Lib.hid (G9.out.next (new_below _ (.cells #[.int .u8 ((n : Int) + 2)] 5))))
    | (refine wpList_appo (o := ⟨some 41, _, _, _, _, _⟩) (by rfl) (.tmp 36) (.tmp 40) (by rfl) w3.heap.size q9 cq9 ([4] ++ putL asn 2 ++ putL hold 2 ++ putL id 4) G9'.out.own 9 (by simp [putL_len]) (by rfl) _ 1 1 [(n : Int) + 2] Y9.out (by rfl) (by rfl) 10 (by rfl) (by omega) G9'.out.hB ?_; intro q10 cq10 w10 hO10 hB10 hG10; have G10 := Lib.hid (G9'.out.app hO10.out hB10.out); have Y10 := Lib.hid (Y3.out.below G10.out.bel))
    | (refine wpList_appo (o := ⟨some 44, _, _, _, _, _⟩) (by rfl) (.tmp 42) (.tmp 43) (by rfl) w3.heap.size q10 cq10 (([4] ++ putL asn 2 ++ putL hold 2 ++ putL id 4) ++ [(n : Int) + 2]) G10.out.own 10 (by simp [putL_len]) (by rfl) q3 (n + 2) cq3 sd Y10.out HSL.out (by rfl) (10 + (n + 2)) (by rfl) (by omega) G10.out.hB ?_; intro q11 cq11 w11 hO11 hB11 hG11; have G11 := Lib.hid (G10.out.app hO11.out hB11.out)))
  have hfin : po = ([4] ++ putL asn 2 ++ putL hold 2 ++ putL id 4) ++ [(n : Int) + 2] ++ sd := by rw [HP.out, HSH.out, HSL.out]; simp
  have hlen : po.length = 10 + (n + 2) := by rw [hfin]; simp [putL_len, HSL.out]; omega
  go_ret2
  exact ⟨q11, cq11, by rw [hlen]; rfl, by rw [hfin]; exact G11.out.own.mono (Nat.le_of_lt S3.out), B3.out.trans (G11.out.bel.mono (Nat.le_of_lt S3.out))⟩
set_option maxRecDepth 100000 in
set_option maxHeartbeats 2000000 in
theorem put_big (o : Op) (w : World) (hf : FitO o) (hk : okO o = true) (hbig : 65535 < o.asn) :
    Calls Tryd.prog 4 #[o.v] w fun e w' => ∃ p cap, e = .returned (.tuple #[.slice p (putO o).length cap, .int .i64 0]) ∧ Own w' w.heap.size p cap (putO o) ∧ Below w.heap.size w w' := by
  have HP := Lib.hid (put_shape o)
  have HSH := Lib.hid (show shortAS o.asn = 23456 by unfold shortAS; exact if_pos (by omega))
  have HC := fun v : World => Lib.hid (check_yes o v hk)
  have HG := fun v : World => Lib.hid (caps_any o v hf)
  have hcl := caps_len (o := o)
  obtain ⟨n, hn⟩ : ∃ n, (capsO o).length = n := ⟨_, rfl⟩
  rw [hn] at hcl
  have HN := Lib.hid hn
  have HSL := Lib.hid (show (saidO o).length = n + 2 by unfold saidO; simp [hn])
  have F2 := Lib.hid (show fitsB 23456 (2 : Nat) = true from fits2 (by have := hf.a0; omega) (by omega))
  have F3 := Lib.hid (show fitsB o.hold (2 : Nat) = true from fits2 hf.h0 hf.h1)
  have F4 := Lib.hid (show fitsB o.id (4 : Nat) = true from fits4 hf.i0 hf.i1)
  have i0 := hf.i0
  have i1 := hf.i1
  clear hf hk hn
  have HO := Lib.hid (show saidO o = 2 :: ((capsO o).length : Int) :: capsO o from rfl)
  obtain ⟨cs, hcs⟩ : ∃ cs, capsO o = cs := ⟨_, rfl⟩
  obtain ⟨sd, hsd⟩ : ∃ sd, saidO o = sd := ⟨_, rfl⟩
  obtain ⟨po, hpo⟩ : ∃ po, putO o = po := ⟨_, rfl⟩
  rw [hcs] at HN HG HO
  rw [hsd] at HSL HP HO
  rw [hpo] at HP ⊢
  clear hcs hsd hpo
  obtain ⟨asn, hold, id, four, paths⟩ := o
  simp only at *
  unfold Op.v at *
  simp only at *
  have HX := Lib.hid (Blk.new w 24 [.int .i64 asn, .int .i64 hold, .int .u32 id, .bool four, .int .i64 paths])
  obtain ⟨W, hW⟩ : ∃ W, w.alloc (.cells #[.int .i64 asn, .int .i64 hold, .int .u32 id, .bool four, .int .i64 paths] 24) = W := ⟨_, rfl⟩
  have HXW := Lib.hid (show Blk W w.heap.size 24 [.int .i64 asn, .int .i64 hold, .int .u32 id, .bool four, .int .i64 paths] by rw [← hW]; exact HX.out)
  have HS := Lib.hid (show W.heap.size = w.heap.size + 1 by rw [← hW]; simp)
  have H1 := Lib.hid (show Below w.heap.size w W by rw [← hW]; exact new_below _ _)
  have HW := Lib.hid hW
  clear hW HX
  go_enter Tryd.func4, Tryd.ntmps4
  go_wp2_with fail
  rw [HW.out]
  (with_reducible refine (HC _).out.mono ?_); rintro e w1 ⟨rfl, hb⟩
  have X1 := Lib.hid (HXW.out.next hb)
  have B1 := Lib.hid (H1.out.trans (hb.mono H1.out.size))
  have S1 := Lib.hid (show w.heap.size < w1.heap.size by have := hb.size; have := HS.out; omega)
  clear hb HXW H1 HW HS HC
  have c0 := X1.out.cell 0 (by simp)
  have c1 := X1.out.cell 1 (by simp)
  have c2 := X1.out.cell 2 (by simp)
  have c3 := X1.out.cell 3 (by simp)
  have c4 := X1.out.cell 4 (by simp)
  go_wp2_with fail
  (with_reducible refine (HG _).out.mono ?_); rintro e w2 ⟨q, cq, rfl, hO, hb⟩
  rw [HN.out]
  have X2 := Lib.hid (X1.out.next hb)
  have B2 := Lib.hid (B1.out.trans (hb.mono (Nat.le_of_lt S1.out)))
  have Y2 := Lib.hid hO.bytes
  have S2 := Lib.hid (Nat.lt_of_lt_of_le S1.out hb.size)
  clear hO hb c0 c1 c2 c3 c4 X1 B1 S1 HG
  go_wp2_with fail
  (with_reducible refine (part_new _ w2.heap.size 2 cs n HN.out (by omega) (by omega) (by omega) _ _ Y2.out (Nat.le_refl _)).mono ?_); rintro e w3 ⟨q3, cq3, rfl, hO, hb⟩
  have X3 := Lib.hid (X2.out.next hb)
  have B3 := Lib.hid (B2.out.trans (hb.mono (Nat.le_of_lt S2.out)))
  have Y3 := Lib.hid (show BytesAt w3 q3 sd by rw [HO.out, HN.out]; exact hO.bytes)
  have S3 := Lib.hid (Nat.lt_of_lt_of_le S2.out hb.size)
  clear hO hb X2 B2 S2 Y2
  have G3 := Lib.hid (show GrowSt w3 w3.heap.size w.heap.size 24 [.int .i64 asn, .int .i64 hold, .int .u32 id, .bool four, .int .i64 paths] (w3.alloc (.cells #[.int .u8 4] 5)) (some ⟨w3.heap.size, 0, none⟩) 1 [4] from ⟨Own.lit w3 w3.heap.size [4] (inByte_all (by decide)) (by simp) (Nat.le_refl _), X3.out.next (new_below _ _), new_below _ _, S3.out, by simp⟩)
  go_wp2_with fail
  (with_reducible refine (number_new 23456 2 2 rfl _ (by omega) (by omega) F2.out).mono ?_); rintro e w4 ⟨rfl, hr, hb⟩
  have G4 := Lib.hid (G3.out.next hb)
  rw [sz_alloc] at hr
  have Y4 := Lib.hid (hr.bytes (putL_byte _ _))
  clear hr hb G3
  go_wp2_with (refine wpList_appo (o := ⟨some 24, _, _, _, _, _⟩) (by rfl) (.tmp 21) (.tmp 23) (by rfl) w3.heap.size (some ⟨w3.heap.size, 0, none⟩) 1 [4] G4.out.own 1 (by rfl) (by rfl) _ 2 2 _ Y4.out (putL_len ..) (by rfl) 3 (by rfl) (by omega) G4.out.hB ?_; intro q5 cq5 w5 hO5 hB5 hG5; have G5 := Lib.hid (G4.out.app hO5.out hB5.out); have c1 := G5.out.blk.cell 1 (by simp))
  clear hO5 hB5 hG5
  (with_reducible refine (number_new hold 2 2 rfl _ (by omega) (by omega) F3.out).mono ?_); rintro e w6 ⟨rfl, hr, hb⟩
  have G6 := Lib.hid (G5.out.next hb)
  have Y6 := Lib.hid (hr.bytes (putL_byte _ _))
  clear hr hb c1
  go_wp2_with (refine wpList_appo (o := ⟨some 29, _, _, _, _, _⟩) (by rfl) (.tmp 25) (.tmp 28) (by rfl) w3.heap.size q5 cq5 ([4] ++ putL 23456 2) G6.out.own 3 (by simp [putL_len]) (by rfl) _ 2 2 _ Y6.out (putL_len ..) (by rfl) 5 (by rfl) (by omega) G6.out.hB ?_; intro q7 cq7 w7 hO7 hB7 hG7; have G7 := Lib.hid (G6.out.app hO7.out hB7.out); have c2 := G7.out.blk.cell 2 (by simp))
  clear hO7 hB7 hG7
  (with_reducible refine (number_new id 4 4 rfl _ (by omega) (by omega) F4.out).mono ?_); rintro e w8 ⟨rfl, hr, hb⟩
  have G8 := Lib.hid (G7.out.next hb)
  have Y8 := Lib.hid (hr.bytes (putL_byte _ _))
  clear hr hb c2
  have hwn : IntKind.u8.wrap ((n : Int) + 2) = (n : Int) + 2 := by rw [show IntKind.u8.wrap ((n : Int) + 2) = ((n : Int) + 2) % 256 from by first | rfl | exact IntKind.wrap_u8 _ | exact IntKind.wrap_u8' _]; omega
  go_wp2_with (first
    | (refine wpList_appo (o := ⟨some 35, _, _, _, _, _⟩) (by rfl) (.tmp 30) (.tmp 34) (by rfl) w3.heap.size q7 cq7 ([4] ++ putL 23456 2 ++ putL hold 2) G8.out.own 5 (by simp [putL_len]) (by rfl) _ 4 4 _ Y8.out (putL_len ..) (by rfl) 9 (by rfl) (by omega) G8.out.hB ?_; intro q9 cq9 w9 hO9 hB9 hG9; have G9 := Lib.hid (G8.out.app hO9.out hB9.out); have Y9 := Lib.hid (one_byte w9 ((n : Int) + 2) (by omega) (by omega)); have G9' := Lib.hid (G9.out.next (new_below _ (.cells #[.int .u8 ((n : Int) + 2)] 5))))
    | (refine wpList_appo (o := ⟨some 41, _, _, _, _, _⟩) (by rfl) (.tmp 36) (.tmp 40) (by rfl) w3.heap.size q9 cq9 ([4] ++ putL 23456 2 ++ putL hold 2 ++ putL id 4) G9'.out.own 9 (by simp [putL_len]) (by rfl) _ 1 1 [(n : Int) + 2] Y9.out (by rfl) (by rfl) 10 (by rfl) (by omega) G9'.out.hB ?_; intro q10 cq10 w10 hO10 hB10 hG10; have G10 := Lib.hid (G9'.out.app hO10.out hB10.out); have Y10 := Lib.hid (Y3.out.below G10.out.bel))
    | (refine wpList_appo (o := ⟨some 44, _, _, _, _, _⟩) (by rfl) (.tmp 42) (.tmp 43) (by rfl) w3.heap.size q10 cq10 (([4] ++ putL 23456 2 ++ putL hold 2 ++ putL id 4) ++ [(n : Int) + 2]) G10.out.own 10 (by simp [putL_len]) (by rfl) q3 (n + 2) cq3 sd Y10.out HSL.out (by rfl) (10 + (n + 2)) (by rfl) (by omega) G10.out.hB ?_; intro q11 cq11 w11 hO11 hB11 hG11; have G11 := Lib.hid (G10.out.app hO11.out hB11.out)))
  have hfin : po = ([4] ++ putL 23456 2 ++ putL hold 2 ++ putL id 4) ++ [(n : Int) + 2] ++ sd := by rw [HP.out, HSH.out, HSL.out]; simp
  have hlen : po.length = 10 + (n + 2) := by rw [hfin]; simp [putL_len, HSL.out]; omega
  go_ret2
  exact ⟨q11, cq11, by rw [hlen]; rfl, by rw [hfin]; exact G11.out.own.mono (Nat.le_of_lt S3.out), B3.out.trans (G11.out.bel.mono (Nat.le_of_lt S3.out))⟩
theorem put_ok (o : Op) (w : World) (hf : FitO o) (hk : okO o = true) :
    Calls Tryd.prog 4 #[o.v] w fun e w' => ∃ p cap, e = .returned (.tuple #[.slice p (putO o).length cap, .int .i64 0]) ∧ Own w' w.heap.size p cap (putO o) ∧ Below w.heap.size w w' := by
  by_cases h : 65535 < o.asn
  · exact put_big o w hf hk h
  · exact put_small o w hf hk (by omega)
end Go.Proofs.YthpadbeilecpeaaDoor
