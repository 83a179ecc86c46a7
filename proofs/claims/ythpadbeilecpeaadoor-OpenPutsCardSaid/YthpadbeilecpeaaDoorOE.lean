/- open: the document's own Put. -/
import Derived.Test.YthpadbeilecpeaaDoorO3
import Derived.Test.YthpadbeilecpeaaDoorKR
namespace Go.Proofs.YthpadbeilecpeaaDoor
open Go.RowKit

theorem rput_new (n I : Int) (wide : Nat) (hI : I = wide) (w : World) (h1 : 1 ≤ wide) (h4 : wide ≤ 4) (h : fitsB n wide = true) :
    Calls Tryd.prog 27 #[.int .i64 n, .int .i64 I] w fun e w' => e = .returned (.slice (some ⟨w.heap.size, 0, none⟩) wide wide) ∧ BRow w' w.heap.size (putL n wide) ∧ Below w.heap.size w w' := by
  subst hI
  refine (rput_fits n wide w h1 h4 h).mono ?_
  rintro e w' ⟨he, hr, hb⟩
  exact ⟨he, hr.list, hb⟩
theorem lit2 (w : World) (a b : Int) (h : InByte [a, b]) : BytesAt (w.alloc (.cells #[.int .u8 a, .int .u8 b] 5)) (some ⟨w.heap.size, 0, none⟩) [a, b] := (brow_new w [a, b]).bytes h
theorem lit3 (w : World) (a b c : Int) (h : InByte [a, b, c]) : BytesAt (w.alloc (.cells #[.int .u8 a, .int .u8 b, .int .u8 c] 5)) (some ⟨w.heap.size, 0, none⟩) [a, b, c] := (brow_new w [a, b, c]).bytes h
theorem lit6 (w : World) (a b c d e f : Int) (h : InByte [a, b, c, d, e, f]) : BytesAt (w.alloc (.cells #[.int .u8 a, .int .u8 b, .int .u8 c, .int .u8 d, .int .u8 e, .int .u8 f] 5)) (some ⟨w.heap.size, 0, none⟩) [a, b, c, d, e, f] := (brow_new w [a, b, c, d, e, f]).bytes h
theorem rput_shape (o : Op) : putO o = [4] ++ putL (shortAS o.asn) 2 ++ putL o.hold 2 ++ putL o.id 4 ++ [((capsO o).length : Int) + 2, 2, ((capsO o).length : Int)] ++ capsO o := by
  unfold putO frontO saidO
  simp
  omega

set_option maxRecDepth 100000 in
set_option maxHeartbeats 4000000 in
theorem rp_snn (asn hold id paths : Int) (four : Bool) (w : World) (hf : FitO ⟨asn, hold, id, four, paths⟩) (hbig : asn ≤ 65535) (h4 : four = false) (hp : paths = 0) :
    Calls Tryd.prog 10 #[.agg #[.int .i64 asn, .int .i64 hold, .int .u32 id, .bool four, .int .i64 paths]] w fun e w' => RetB w w' (putO ⟨asn, hold, id, four, paths⟩) e := by
  subst h4
  subst hp
  have HP := Lib.hid (rput_shape ⟨asn, hold, id, false, 0⟩)
  obtain ⟨po, hpo⟩ : ∃ po, putO ⟨asn, hold, id, false, 0⟩ = po := ⟨_, rfl⟩
  rw [hpo] at HP ⊢
  clear hpo
  have HC := Lib.hid (show capsO ⟨asn, hold, id, false, 0⟩ = [1, 4, 0, 1, 0, 1] by simp [capsO, fourC, pathsC])
  have HSH := Lib.hid (show shortAS asn = asn by unfold shortAS; exact if_neg (by omega))
  have F2 := Lib.hid (show fitsB asn (2 : Nat) = true from fits2 (by have := hf.a0; simp only at this; omega) (by omega))
  have F3 := Lib.hid (show fitsB hold (2 : Nat) = true from fits2 hf.h0 hf.h1)
  have F4 := Lib.hid (show fitsB id (4 : Nat) = true from fits4 hf.i0 hf.i1)
  have i0 := hf.i0
  have i1 := hf.i1
  simp only at i0 i1
  clear hf
  obtain ⟨W, hW⟩ : ∃ W, w.alloc (.cells #[.int .i64 asn, .int .i64 hold, .int .u32 id, .bool false, .int .i64 0] 24) = W := ⟨_, rfl⟩
  obtain ⟨V, hV⟩ : ∃ V, W.alloc (.cells #[.int .u8 1, .int .u8 4, .int .u8 0, .int .u8 1, .int .u8 0, .int .u8 1] 5) = V := ⟨_, rfl⟩
  have hS : W.heap.size = w.heap.size + 1 := by rw [← hW]; simp
  have hSV : V.heap.size = w.heap.size + 2 := by rw [← hV, sz_alloc, hS]
  have H1 := Lib.hid (show Below w.heap.size w W by rw [← hW]; exact new_below _ _)
  have GV := Lib.hid (show GrowSt W (w.heap.size + 1) w.heap.size 24 [.int .i64 asn, .int .i64 hold, .int .u32 id, .bool false, .int .i64 0] V (some ⟨w.heap.size + 1, 0, none⟩) 6 [1, 4, 0, 1, 0, 1] from by
    rw [← hV, ← hS]
    exact ⟨Own.lit W W.heap.size [1, 4, 0, 1, 0, 1] (inByte_all (by decide)) (by simp) (Nat.le_refl _), (show Blk W w.heap.size 24 [.int .i64 asn, .int .i64 hold, .int .u32 id, .bool false, .int .i64 0] by rw [← hW]; exact Blk.new w _ _).alloc _, new_below _ _, by rw [hS]; omega, by simp⟩)
  have HW := Lib.hid hW
  have HV := Lib.hid hV
  have HSV := Lib.hid hSV
  have c0 := GV.out.blk.cell 0 (by simp)
  have c1 := GV.out.blk.cell 1 (by simp)
  have c2 := GV.out.blk.cell 2 (by simp)
  have c3 := GV.out.blk.cell 3 (by simp)
  have c4 := GV.out.blk.cell 4 (by simp)
  rw [← HV.out, ← HW.out] at c0 c1 c2 c3 c4
  clear hW hV hS hSV
  go_enter Tryd.func10, Tryd.ntmps10
  go_wp2_with fail
  rw [HW.out, HV.out]
  have X3 := Lib.hid (show GrowSt V V.heap.size w.heap.size 24 [.int .i64 asn, .int .i64 hold, .int .u32 id, .bool false, .int .i64 0] (V.alloc (.cells #[.int .u8 4] 5)) (some ⟨w.heap.size + 2, 0, none⟩) 1 [4] from by rw [← HSV.out]; exact ⟨Own.lit V V.heap.size [4] (inByte_all (by decide)) (by simp) (Nat.le_refl _), GV.out.blk.next (new_below _ _), new_below _ _, GV.out.blk.lt, by simp⟩)
  have YC := Lib.hid GV.out.own.bytes
  have HB3 := Lib.hid (H1.out.trans (GV.out.bel.mono (by omega)))
  have SB := Lib.hid (show w.heap.size ≤ V.heap.size by have := GV.out.hB; omega)
  (with_reducible refine (rput_new asn 2 2 rfl _ (by omega) (by omega) F2.out).mono ?_); rintro e x4 ⟨rfl, hr, hb⟩
  rw [sz_alloc] at hr
  have X4 := Lib.hid (X3.out.next hb)
  have Y4 := Lib.hid (hr.bytes (putL_byte _ _))
  clear hr hb
  go_wp2_with (refine wpList_appo (o := ⟨some 32, _, _, _, _, _⟩) (by rfl) (.tmp 29) (.tmp 31) (by rfl) V.heap.size (some ⟨w.heap.size + 2, 0, none⟩) 1 [4] X4.out.own 1 (by rfl) (by rfl) _ 2 2 _ Y4.out (putL_len ..) (by rfl) 3 (by rfl) (by omega) X4.out.hB ?_; intro q5 cq5 x5 hO5 hB5 hG5; have X5 := Lib.hid (X4.out.app hO5.out hB5.out); have e1 := X5.out.blk.cell 1 (by simp))
  clear hO5 hB5 hG5
  (with_reducible refine (rput_new hold 2 2 rfl _ (by omega) (by omega) F3.out).mono ?_); rintro e x6 ⟨rfl, hr, hb⟩
  have X6 := Lib.hid (X5.out.next hb)
  have Y6 := Lib.hid (hr.bytes (putL_byte _ _))
  clear hr hb e1
  go_wp2_with (refine wpList_appo (o := ⟨some 37, _, _, _, _, _⟩) (by rfl) (.tmp 33) (.tmp 36) (by rfl) V.heap.size q5 cq5 ([4] ++ putL asn 2) X6.out.own 3 (by simp [putL_len]) (by rfl) _ 2 2 _ Y6.out (putL_len ..) (by rfl) 5 (by rfl) (by omega) X6.out.hB ?_; intro q7 cq7 x7 hO7 hB7 hG7; have X7 := Lib.hid (X6.out.app hO7.out hB7.out); have e2 := X7.out.blk.cell 2 (by simp))
  clear hO7 hB7 hG7
  (with_reducible refine (rput_new id 4 4 rfl _ (by omega) (by omega) F4.out).mono ?_); rintro e x8 ⟨rfl, hr, hb⟩
  have X8 := Lib.hid (X7.out.next hb)
  have Y8 := Lib.hid (hr.bytes (putL_byte _ _))
  clear hr hb e2
  go_wp2_with (first
    | (refine wpList_appo (o := ⟨some 43, _, _, _, _, _⟩) (by rfl) (.tmp 38) (.tmp 42) (by rfl) V.heap.size q7 cq7 ([4] ++ putL asn 2 ++ putL hold 2) X8.out.own 5 (by simp [putL_len]) (by rfl) _ 4 4 _ Y8.out (putL_len ..) (by rfl) 9 (by rfl) (by omega) X8.out.hB ?_; intro q9 cq9 x9 hO9 hB9 hG9; have X9 := Lib.hid (X8.out.app hO9.out hB9.out); have Y9 := Lib.hid (lit3 x9 8 2 6 (inByte_all (by decide))); have X9' := Lib.hid (X9.out.next (new_below _ (.cells #[.int .u8 8, .int .u8 2, .int .u8 6] 5))))
    | (refine wpList_appo (o := ⟨some 53, _, _, _, _, _⟩) (by rfl) (.tmp 44) (.tmp 52) (by rfl) V.heap.size q9 cq9 ([4] ++ putL asn 2 ++ putL hold 2 ++ putL id 4) X9'.out.own 9 (by simp [putL_len]) (by rfl) _ 3 3 [8, 2, 6] Y9.out (by rfl) (by rfl) 12 (by rfl) (by omega) X9'.out.hB ?_; intro q10 cq10 x10 hO10 hB10 hG10; have X10 := Lib.hid (X9'.out.app hO10.out hB10.out); have Y10 := Lib.hid (YC.out.below X10.out.bel))
    | (refine wpList_appo (o := ⟨some 55, _, _, _, _, _⟩) (by rfl) (.tmp 53) (.tmp 54) (by rfl) V.heap.size q10 cq10 (([4] ++ putL asn 2 ++ putL hold 2 ++ putL id 4) ++ [8, 2, 6]) X10.out.own 12 (by simp [putL_len]) (by rfl) (some ⟨w.heap.size + 1, 0, none⟩) 6 6 [1, 4, 0, 1, 0, 1] Y10.out (by first | rfl | simp [putL_len]) (by rfl) 18 (by rfl) (by omega) X10.out.hB ?_; intro q11 cq11 x11 hO11 hB11 hG11; have X11 := Lib.hid (X10.out.app hO11.out hB11.out)))
  have hcl : ([1, 4, 0, 1, 0, 1] : List Int).length = 6 := by first | rfl | simp [putL_len]
  have hfin : po = ([4] ++ putL asn 2 ++ putL hold 2 ++ putL id 4) ++ [8, 2, 6] ++ [1, 4, 0, 1, 0, 1] := by rw [HP.out, HC.out, HSH.out, hcl]; rfl
  have hlen : po.length = 18 := by rw [hfin]; simp [putL_len]
  go_ret
  exact ⟨q11, cq11, by rw [hlen]; rfl, by rw [hfin]; exact X11.out.own.mono SB.out, HB3.out.trans (X11.out.bel.mono SB.out)⟩

set_option maxRecDepth 100000 in
set_option maxHeartbeats 4000000 in
theorem rp_snp (asn hold id paths : Int) (four : Bool) (w : World) (hf : FitO ⟨asn, hold, id, four, paths⟩) (hbig : asn ≤ 65535) (h4 : four = false) (hp : paths ≠ 0) :
    Calls Tryd.prog 10 #[.agg #[.int .i64 asn, .int .i64 hold, .int .u32 id, .bool four, .int .i64 paths]] w fun e w' => RetB w w' (putO ⟨asn, hold, id, four, paths⟩) e := by
  subst h4
  have HP := Lib.hid (rput_shape ⟨asn, hold, id, false, paths⟩)
  obtain ⟨po, hpo⟩ : ∃ po, putO ⟨asn, hold, id, false, paths⟩ = po := ⟨_, rfl⟩
  rw [hpo] at HP ⊢
  clear hpo
  have HC := Lib.hid (show capsO ⟨asn, hold, id, false, paths⟩ = ([1, 4, 0, 1, 0, 1] ++ [69, 4, 0, 1, 1, paths]) by simp [capsO, fourC, pathsC, hp])
  have HSH := Lib.hid (show shortAS asn = asn by unfold shortAS; exact if_neg (by omega))
  have F2 := Lib.hid (show fitsB asn (2 : Nat) = true from fits2 (by have := hf.a0; simp only at this; omega) (by omega))
  have F3 := Lib.hid (show fitsB hold (2 : Nat) = true from fits2 hf.h0 hf.h1)
  have F4 := Lib.hid (show fitsB id (4 : Nat) = true from fits4 hf.i0 hf.i1)
  have i0 := hf.i0
  have i1 := hf.i1
  simp only at i0 i1
  have p0 := hf.p0
  have p1 := hf.p1
  simp only at p0 p1
  have pp : 0 < paths := by omega
  have hwk : IntKind.u8.wrap paths = paths := by rw [show IntKind.u8.wrap paths = paths % 256 from by first | rfl | exact IntKind.wrap_u8 _ | exact IntKind.wrap_u8' _]; omega
  clear hf hp
  obtain ⟨W, hW⟩ : ∃ W, w.alloc (.cells #[.int .i64 asn, .int .i64 hold, .int .u32 id, .bool false, .int .i64 paths] 24) = W := ⟨_, rfl⟩
  obtain ⟨V, hV⟩ : ∃ V, W.alloc (.cells #[.int .u8 1, .int .u8 4, .int .u8 0, .int .u8 1, .int .u8 0, .int .u8 1] 5) = V := ⟨_, rfl⟩
  have hS : W.heap.size = w.heap.size + 1 := by rw [← hW]; simp
  have hSV : V.heap.size = w.heap.size + 2 := by rw [← hV, sz_alloc, hS]
  have H1 := Lib.hid (show Below w.heap.size w W by rw [← hW]; exact new_below _ _)
  have GV := Lib.hid (show GrowSt W (w.heap.size + 1) w.heap.size 24 [.int .i64 asn, .int .i64 hold, .int .u32 id, .bool false, .int .i64 paths] V (some ⟨w.heap.size + 1, 0, none⟩) 6 [1, 4, 0, 1, 0, 1] from by
    rw [← hV, ← hS]
    exact ⟨Own.lit W W.heap.size [1, 4, 0, 1, 0, 1] (inByte_all (by decide)) (by simp) (Nat.le_refl _), (show Blk W w.heap.size 24 [.int .i64 asn, .int .i64 hold, .int .u32 id, .bool false, .int .i64 paths] by rw [← hW]; exact Blk.new w _ _).alloc _, new_below _ _, by rw [hS]; omega, by simp⟩)
  have HW := Lib.hid hW
  have HV := Lib.hid hV
  have HSV := Lib.hid hSV
  have c0 := GV.out.blk.cell 0 (by simp)
  have c1 := GV.out.blk.cell 1 (by simp)
  have c2 := GV.out.blk.cell 2 (by simp)
  have c3 := GV.out.blk.cell 3 (by simp)
  have c4 := GV.out.blk.cell 4 (by simp)
  rw [← HV.out, ← HW.out] at c0 c1 c2 c3 c4
  clear hW hV hS hSV
  have HGN := Lib.hid (GV.out.next (new_below V (.cells #[.int .u8 69, .int .u8 4, .int .u8 0, .int .u8 1, .int .u8 1, .int .u8 paths] 5)))
  have HYN := Lib.hid (show BytesAt (V.alloc (.cells #[.int .u8 69, .int .u8 4, .int .u8 0, .int .u8 1, .int .u8 1, .int .u8 paths] 5)) (some ⟨w.heap.size + 2, 0, none⟩) [69, 4, 0, 1, 1, paths] from by rw [← HSV.out]; exact lit6 V 69 4 0 1 1 paths (inByte_all fun x hx => by simp at hx; omega))
  have HGN2 := HGN
  have HYN2 := HYN
  rw [← HV.out, ← HW.out] at HGN2 HYN2
  go_enter Tryd.func10, Tryd.ntmps10
  go_wp2_with (refine wpList_appo (o := ⟨some 28, _, _, _, _, _⟩) (by rfl) (.tmp 23) (.tmp 27) (by rfl) (w.heap.size + 1) (some ⟨w.heap.size + 1, 0, none⟩) 6 [1, 4, 0, 1, 0, 1] HGN2.out.own 6 (by rfl) (by rfl) _ 6 6 [69, 4, 0, 1, 1, paths] HYN2.out (by rfl) (by rfl) 12 (by rfl) (by omega) HGN2.out.hB ?_; intro qa capa wa hOa hBa hGa; have GA := Lib.hid (HGN2.out.app hOa.out hBa.out); rw [HW.out] at GA; have d1 := GA.out.blk.cell 1 (by simp); have d2 := GA.out.blk.cell 2 (by simp))
  have X3 := Lib.hid (show GrowSt wa wa.heap.size w.heap.size 24 [.int .i64 asn, .int .i64 hold, .int .u32 id, .bool false, .int .i64 paths] (wa.alloc (.cells #[.int .u8 4] 5)) (some ⟨wa.heap.size, 0, none⟩) 1 [4] from ⟨Own.lit wa wa.heap.size [4] (inByte_all (by decide)) (by simp) (Nat.le_refl _), GA.out.blk.next (new_below _ _), new_below _ _, GA.out.blk.lt, by simp⟩)
  have YC := Lib.hid GA.out.own.bytes
  have HB3 := Lib.hid (H1.out.trans (GA.out.bel.mono (by omega)))
  have SB := Lib.hid (show w.heap.size ≤ wa.heap.size by have := GA.out.hB; omega)
  (with_reducible refine (rput_new asn 2 2 rfl _ (by omega) (by omega) F2.out).mono ?_); rintro e x4 ⟨rfl, hr, hb⟩
  rw [sz_alloc] at hr
  have X4 := Lib.hid (X3.out.next hb)
  have Y4 := Lib.hid (hr.bytes (putL_byte _ _))
  clear hr hb
  go_wp2_with (refine wpList_appo (o := ⟨some 32, _, _, _, _, _⟩) (by rfl) (.tmp 29) (.tmp 31) (by rfl) wa.heap.size (some ⟨wa.heap.size, 0, none⟩) 1 [4] X4.out.own 1 (by rfl) (by rfl) _ 2 2 _ Y4.out (putL_len ..) (by rfl) 3 (by rfl) (by omega) X4.out.hB ?_; intro q5 cq5 x5 hO5 hB5 hG5; have X5 := Lib.hid (X4.out.app hO5.out hB5.out); have e1 := X5.out.blk.cell 1 (by simp))
  clear hO5 hB5 hG5
  (with_reducible refine (rput_new hold 2 2 rfl _ (by omega) (by omega) F3.out).mono ?_); rintro e x6 ⟨rfl, hr, hb⟩
  have X6 := Lib.hid (X5.out.next hb)
  have Y6 := Lib.hid (hr.bytes (putL_byte _ _))
  clear hr hb e1
  go_wp2_with (refine wpList_appo (o := ⟨some 37, _, _, _, _, _⟩) (by rfl) (.tmp 33) (.tmp 36) (by rfl) wa.heap.size q5 cq5 ([4] ++ putL asn 2) X6.out.own 3 (by simp [putL_len]) (by rfl) _ 2 2 _ Y6.out (putL_len ..) (by rfl) 5 (by rfl) (by omega) X6.out.hB ?_; intro q7 cq7 x7 hO7 hB7 hG7; have X7 := Lib.hid (X6.out.app hO7.out hB7.out); have e2 := X7.out.blk.cell 2 (by simp))
  clear hO7 hB7 hG7
  (with_reducible refine (rput_new id 4 4 rfl _ (by omega) (by omega) F4.out).mono ?_); rintro e x8 ⟨rfl, hr, hb⟩
  have X8 := Lib.hid (X7.out.next hb)
  have Y8 := Lib.hid (hr.bytes (putL_byte _ _))
  clear hr hb e2
  go_wp2_with (first
    | (refine wpList_appo (o := ⟨some 43, _, _, _, _, _⟩) (by rfl) (.tmp 38) (.tmp 42) (by rfl) wa.heap.size q7 cq7 ([4] ++ putL asn 2 ++ putL hold 2) X8.out.own 5 (by simp [putL_len]) (by rfl) _ 4 4 _ Y8.out (putL_len ..) (by rfl) 9 (by rfl) (by omega) X8.out.hB ?_; intro q9 cq9 x9 hO9 hB9 hG9; have X9 := Lib.hid (X8.out.app hO9.out hB9.out); have Y9 := Lib.hid (lit3 x9 14 2 12 (inByte_all (by decide))); have X9' := Lib.hid (X9.out.next (new_below _ (.cells #[.int .u8 14, .int .u8 2, .int .u8 12] 5))))
    | (refine wpList_appo (o := ⟨some 53, _, _, _, _, _⟩) (by rfl) (.tmp 44) (.tmp 52) (by rfl) wa.heap.size q9 cq9 ([4] ++ putL asn 2 ++ putL hold 2 ++ putL id 4) X9'.out.own 9 (by simp [putL_len]) (by rfl) _ 3 3 [14, 2, 12] Y9.out (by rfl) (by rfl) 12 (by rfl) (by omega) X9'.out.hB ?_; intro q10 cq10 x10 hO10 hB10 hG10; have X10 := Lib.hid (X9'.out.app hO10.out hB10.out); have Y10 := Lib.hid (YC.out.below X10.out.bel))
    | (refine wpList_appo (o := ⟨some 55, _, _, _, _, _⟩) (by rfl) (.tmp 53) (.tmp 54) (by rfl) wa.heap.size q10 cq10 (([4] ++ putL asn 2 ++ putL hold 2 ++ putL id 4) ++ [14, 2, 12]) X10.out.own 12 (by simp [putL_len]) (by rfl) qa 12 capa ([1, 4, 0, 1, 0, 1] ++ [69, 4, 0, 1, 1, paths]) Y10.out (by first | rfl | simp [putL_len]) (by rfl) 24 (by rfl) (by omega) X10.out.hB ?_; intro q11 cq11 x11 hO11 hB11 hG11; have X11 := Lib.hid (X10.out.app hO11.out hB11.out)))
  have hcl : (([1, 4, 0, 1, 0, 1] ++ [69, 4, 0, 1, 1, paths]) : List Int).length = 12 := by first | rfl | simp [putL_len]
  have hfin : po = ([4] ++ putL asn 2 ++ putL hold 2 ++ putL id 4) ++ [14, 2, 12] ++ ([1, 4, 0, 1, 0, 1] ++ [69, 4, 0, 1, 1, paths]) := by rw [HP.out, HC.out, HSH.out, hcl]; rfl
  have hlen : po.length = 24 := by rw [hfin]; simp [putL_len]
  go_ret
  exact ⟨q11, cq11, by rw [hlen]; rfl, by rw [hfin]; exact X11.out.own.mono SB.out, HB3.out.trans (X11.out.bel.mono SB.out)⟩

set_option maxRecDepth 100000 in
set_option maxHeartbeats 4000000 in
theorem rp_sfn (asn hold id paths : Int) (four : Bool) (w : World) (hf : FitO ⟨asn, hold, id, four, paths⟩) (hbig : asn ≤ 65535) (h4 : four = true) (hp : paths = 0) :
    Calls Tryd.prog 10 #[.agg #[.int .i64 asn, .int .i64 hold, .int .u32 id, .bool four, .int .i64 paths]] w fun e w' => RetB w w' (putO ⟨asn, hold, id, four, paths⟩) e := by
  subst h4
  subst hp
  have HP := Lib.hid (rput_shape ⟨asn, hold, id, true, 0⟩)
  obtain ⟨po, hpo⟩ : ∃ po, putO ⟨asn, hold, id, true, 0⟩ = po := ⟨_, rfl⟩
  rw [hpo] at HP ⊢
  clear hpo
  have HC := Lib.hid (show capsO ⟨asn, hold, id, true, 0⟩ = ([1, 4, 0, 1, 0, 1] ++ [65, 4] ++ putL asn 4) by simp [capsO, fourC, pathsC])
  have HSH := Lib.hid (show shortAS asn = asn by unfold shortAS; exact if_neg (by omega))
  have F1 := Lib.hid (show fitsB asn (4 : Nat) = true from fits4 hf.a0 hf.a1)
  have F2 := Lib.hid (show fitsB asn (2 : Nat) = true from fits2 (by have := hf.a0; simp only at this; omega) (by omega))
  have F3 := Lib.hid (show fitsB hold (2 : Nat) = true from fits2 hf.h0 hf.h1)
  have F4 := Lib.hid (show fitsB id (4 : Nat) = true from fits4 hf.i0 hf.i1)
  have i0 := hf.i0
  have i1 := hf.i1
  simp only at i0 i1
  clear hf
  obtain ⟨W, hW⟩ : ∃ W, w.alloc (.cells #[.int .i64 asn, .int .i64 hold, .int .u32 id, .bool true, .int .i64 0] 24) = W := ⟨_, rfl⟩
  obtain ⟨V, hV⟩ : ∃ V, W.alloc (.cells #[.int .u8 1, .int .u8 4, .int .u8 0, .int .u8 1, .int .u8 0, .int .u8 1] 5) = V := ⟨_, rfl⟩
  have hS : W.heap.size = w.heap.size + 1 := by rw [← hW]; simp
  have hSV : V.heap.size = w.heap.size + 2 := by rw [← hV, sz_alloc, hS]
  have H1 := Lib.hid (show Below w.heap.size w W by rw [← hW]; exact new_below _ _)
  have GV := Lib.hid (show GrowSt W (w.heap.size + 1) w.heap.size 24 [.int .i64 asn, .int .i64 hold, .int .u32 id, .bool true, .int .i64 0] V (some ⟨w.heap.size + 1, 0, none⟩) 6 [1, 4, 0, 1, 0, 1] from by
    rw [← hV, ← hS]
    exact ⟨Own.lit W W.heap.size [1, 4, 0, 1, 0, 1] (inByte_all (by decide)) (by simp) (Nat.le_refl _), (show Blk W w.heap.size 24 [.int .i64 asn, .int .i64 hold, .int .u32 id, .bool true, .int .i64 0] by rw [← hW]; exact Blk.new w _ _).alloc _, new_below _ _, by rw [hS]; omega, by simp⟩)
  have HW := Lib.hid hW
  have HV := Lib.hid hV
  have HSV := Lib.hid hSV
  have c0 := GV.out.blk.cell 0 (by simp)
  have c1 := GV.out.blk.cell 1 (by simp)
  have c2 := GV.out.blk.cell 2 (by simp)
  have c3 := GV.out.blk.cell 3 (by simp)
  have c4 := GV.out.blk.cell 4 (by simp)
  rw [← HV.out, ← HW.out] at c0 c1 c2 c3 c4
  clear hW hV hS hSV
  go_enter Tryd.func10, Tryd.ntmps10
  go_wp2_with fail
  clear c0 c1 c2 c3 c4
  rw [HW.out, HV.out]
  have c0 : V.drew.cell? ⟨w.heap.size, 0, none⟩ = some (.int .i64 asn) := GV.out.blk.cell 0 (by simp)
  have NL := fun v : World => Lib.hid (lit2 v 65 4 (inByte_all (by decide)))
  have GL := Lib.hid (GV.out.next (new_below V (.cells #[.int .u8 65, .int .u8 4] 5)).drew)
  go_region_held_law (fun w' => w'.cell? ⟨w.heap.size, 0, none⟩ = some (.int .i64 asn)) (first | with_reducible assumption | exact kept (new_below _ _) (by with_reducible assumption)) (first
    | (refine step_appo rfl (.tmp 13) (.tmp 14) rfl (w.heap.size + 1) (some ⟨w.heap.size + 1, 0, none⟩) 6 [1, 4, 0, 1, 0, 1] GL.out.own 6 rfl rfl _ 2 2 [65, 4] (NL V).out.drew rfl rfl 8 rfl (by omega) GL.out.hB ?_; intro p6 cap6 w6 hO6 hB6 hG6; have G6 := Lib.hid (GL.out.app hO6.out hB6.out); have cZ : w6.cell? ⟨w.heap.size, 0, none⟩ = some (.int .i64 asn) := G6.out.blk.cell 0 (by simp))
    | (go_at_call 27; (with_reducible refine (rput_new asn 4 4 rfl _ (by omega) (by omega) F1.out).mono ?_); rintro e w7 ⟨rfl, hr, hb⟩; have GZ := Lib.hid (G6.out.next hb); have RZ := Lib.hid (hr.bytes (putL_byte asn 4)); have cZ : w7.cell? ⟨w.heap.size, 0, none⟩ = some (.int .i64 asn) := GZ.out.blk.cell 0 (by simp); clear hr hb)
    | (go_at_call 27; (with_reducible refine (rput_new asn 4 4 rfl _ (by omega) (by omega) F1.out).mono ?_); rintro e w7 ⟨rfl, hr, hb⟩; rw [szd_alloc] at hr; have G7 := Lib.hid (GL.out.next hb); have Y7 := Lib.hid ((NL V).out.drew.below hb); have R7 := Lib.hid hr; have cZ : w7.cell? ⟨w.heap.size, 0, none⟩ = some (.int .i64 asn) := G7.out.blk.cell 0 (by simp); clear hr hb)
    | (refine step_appo rfl (.tmp 13) (.tmp 14) rfl (w.heap.size + 1) (some ⟨w.heap.size + 1, 0, none⟩) 6 [1, 4, 0, 1, 0, 1] G7.out.own 6 rfl rfl _ 2 2 [65, 4] Y7.out rfl rfl 8 rfl (by omega) G7.out.hB ?_; intro p6 cap6 w8 hO8 hB8 hG8; have GZ := Lib.hid (G7.out.app hO8.out hB8.out); have RZ := Lib.hid ((R7.out.grown (r := w.heap.size + 1) (by have := HSV.out; omega) hG8.out.1).bytes (putL_byte asn 4)); have cZ : w8.cell? ⟨w.heap.size, 0, none⟩ = some (.int .i64 asn) := GZ.out.blk.cell 0 (by simp))
    | (go_at_call 27; (with_reducible refine (rput_new asn 4 4 rfl _ (by omega) (by omega) F1.out).mono ?_); rintro e w7 ⟨rfl, hr, hb⟩; have G7 := Lib.hid (GV.out.next ((Below.refl _ _).drew.trans hb)); have R7 := Lib.hid (show BRow w7 V.heap.size (putL asn 4) from hr); have cZ : w7.cell? ⟨w.heap.size, 0, none⟩ = some (.int .i64 asn) := G7.out.blk.cell 0 (by simp); clear hr hb)
    | (refine step_appo rfl (.tmp 13) (.tmp 14) rfl (w.heap.size + 1) (some ⟨w.heap.size + 1, 0, none⟩) 6 [1, 4, 0, 1, 0, 1] (G7.out.next (new_below _ _)).own 6 rfl rfl _ 2 2 [65, 4] (NL w7).out rfl rfl 8 rfl (by omega) (G7.out.next (new_below _ _)).hB ?_; intro p6 cap6 w8 hO8 hB8 hG8; have GZ := Lib.hid ((G7.out.next (new_below w7 (.cells #[.int .u8 65, .int .u8 4] 5))).app hO8.out hB8.out); have RZ := Lib.hid (((R7.out.below (new_below w7 (.cells #[.int .u8 65, .int .u8 4] 5))).grown (r := w.heap.size + 1) (by have := HSV.out; omega) hG8.out.1).bytes (putL_byte asn 4)); have cZ : w8.cell? ⟨w.heap.size, 0, none⟩ = some (.int .i64 asn) := GZ.out.blk.cell 0 (by simp))
    | (refine step_appo rfl (.tmp 15) (.tmp 18) rfl (w.heap.size + 1) p6 cap6 ([1, 4, 0, 1, 0, 1] ++ [65, 4]) GZ.out.own 8 rfl rfl _ 4 4 (putL asn 4) RZ.out (putL_len ..) rfl 12 rfl (by omega) GZ.out.hB ?_; intro qz capz wz hOz hBz hGz; have G9 := Lib.hid (GZ.out.app hOz.out hBz.out); have c9 : wz.cell? ⟨w.heap.size, 0, none⟩ = some (.int .i64 asn) := G9.out.blk.cell 0 (by simp)))
  all_goals
    have c1 := G9.out.blk.cell 1 (by simp)
    have c2 := G9.out.blk.cell 2 (by simp)
    have c4 := G9.out.blk.cell 4 (by simp)
    have c0 := G9.out.blk.cell 0 (by simp)
    go_wp2_with fail
    have X3 := Lib.hid (show GrowSt wz wz.heap.size w.heap.size 24 [.int .i64 asn, .int .i64 hold, .int .u32 id, .bool true, .int .i64 0] (wz.alloc (.cells #[.int .u8 4] 5)) (some ⟨wz.heap.size, 0, none⟩) 1 [4] from ⟨Own.lit wz wz.heap.size [4] (inByte_all (by decide)) (by simp) (Nat.le_refl _), G9.out.blk.next (new_below _ _), new_below _ _, G9.out.blk.lt, by simp⟩)
    have YC := Lib.hid G9.out.own.bytes
    have HB3 := Lib.hid (H1.out.trans (G9.out.bel.mono (by omega)))
    have SB := Lib.hid (show w.heap.size ≤ wz.heap.size by have := G9.out.hB; omega)
    (with_reducible refine (rput_new asn 2 2 rfl _ (by omega) (by omega) F2.out).mono ?_); rintro e x4 ⟨rfl, hr, hb⟩
    rw [sz_alloc] at hr
    have X4 := Lib.hid (X3.out.next hb)
    have Y4 := Lib.hid (hr.bytes (putL_byte _ _))
    clear hr hb
    go_wp2_with (refine wpList_appo (o := ⟨some 32, _, _, _, _, _⟩) (by rfl) (.tmp 29) (.tmp 31) (by rfl) wz.heap.size (some ⟨wz.heap.size, 0, none⟩) 1 [4] X4.out.own 1 (by rfl) (by rfl) _ 2 2 _ Y4.out (putL_len ..) (by rfl) 3 (by rfl) (by omega) X4.out.hB ?_; intro q5 cq5 x5 hO5 hB5 hG5; have X5 := Lib.hid (X4.out.app hO5.out hB5.out); have e1 := X5.out.blk.cell 1 (by simp))
    clear hO5 hB5 hG5
    (with_reducible refine (rput_new hold 2 2 rfl _ (by omega) (by omega) F3.out).mono ?_); rintro e x6 ⟨rfl, hr, hb⟩
    have X6 := Lib.hid (X5.out.next hb)
    have Y6 := Lib.hid (hr.bytes (putL_byte _ _))
    clear hr hb e1
    go_wp2_with (refine wpList_appo (o := ⟨some 37, _, _, _, _, _⟩) (by rfl) (.tmp 33) (.tmp 36) (by rfl) wz.heap.size q5 cq5 ([4] ++ putL asn 2) X6.out.own 3 (by simp [putL_len]) (by rfl) _ 2 2 _ Y6.out (putL_len ..) (by rfl) 5 (by rfl) (by omega) X6.out.hB ?_; intro q7 cq7 x7 hO7 hB7 hG7; have X7 := Lib.hid (X6.out.app hO7.out hB7.out); have e2 := X7.out.blk.cell 2 (by simp))
    clear hO7 hB7 hG7
    (with_reducible refine (rput_new id 4 4 rfl _ (by omega) (by omega) F4.out).mono ?_); rintro e x8 ⟨rfl, hr, hb⟩
    have X8 := Lib.hid (X7.out.next hb)
    have Y8 := Lib.hid (hr.bytes (putL_byte _ _))
    clear hr hb e2
    go_wp2_with (first
      | (refine wpList_appo (o := ⟨some 43, _, _, _, _, _⟩) (by rfl) (.tmp 38) (.tmp 42) (by rfl) wz.heap.size q7 cq7 ([4] ++ putL asn 2 ++ putL hold 2) X8.out.own 5 (by simp [putL_len]) (by rfl) _ 4 4 _ Y8.out (putL_len ..) (by rfl) 9 (by rfl) (by omega) X8.out.hB ?_; intro q9 cq9 x9 hO9 hB9 hG9; have X9 := Lib.hid (X8.out.app hO9.out hB9.out); have Y9 := Lib.hid (lit3 x9 14 2 12 (inByte_all (by decide))); have X9' := Lib.hid (X9.out.next (new_below _ (.cells #[.int .u8 14, .int .u8 2, .int .u8 12] 5))))
      | (refine wpList_appo (o := ⟨some 53, _, _, _, _, _⟩) (by rfl) (.tmp 44) (.tmp 52) (by rfl) wz.heap.size q9 cq9 ([4] ++ putL asn 2 ++ putL hold 2 ++ putL id 4) X9'.out.own 9 (by simp [putL_len]) (by rfl) _ 3 3 [14, 2, 12] Y9.out (by rfl) (by rfl) 12 (by rfl) (by omega) X9'.out.hB ?_; intro q10 cq10 x10 hO10 hB10 hG10; have X10 := Lib.hid (X9'.out.app hO10.out hB10.out); have Y10 := Lib.hid (YC.out.below X10.out.bel))
      | (refine wpList_appo (o := ⟨some 55, _, _, _, _, _⟩) (by rfl) (.tmp 53) (.tmp 54) (by rfl) wz.heap.size q10 cq10 (([4] ++ putL asn 2 ++ putL hold 2 ++ putL id 4) ++ [14, 2, 12]) X10.out.own 12 (by simp [putL_len]) (by rfl) qz 12 capz ([1, 4, 0, 1, 0, 1] ++ [65, 4] ++ putL asn 4) Y10.out (by first | rfl | simp [putL_len]) (by rfl) 24 (by rfl) (by omega) X10.out.hB ?_; intro q11 cq11 x11 hO11 hB11 hG11; have X11 := Lib.hid (X10.out.app hO11.out hB11.out)))
    have hcl : (([1, 4, 0, 1, 0, 1] ++ [65, 4] ++ putL asn 4) : List Int).length = 12 := by first | rfl | simp [putL_len]
    have hfin : po = ([4] ++ putL asn 2 ++ putL hold 2 ++ putL id 4) ++ [14, 2, 12] ++ ([1, 4, 0, 1, 0, 1] ++ [65, 4] ++ putL asn 4) := by rw [HP.out, HC.out, HSH.out, hcl]; rfl
    have hlen : po.length = 24 := by rw [hfin]; simp [putL_len]
    go_ret
    exact ⟨q11, cq11, by rw [hlen]; rfl, by rw [hfin]; exact X11.out.own.mono SB.out, HB3.out.trans (X11.out.bel.mono SB.out)⟩

set_option maxRecDepth 100000 in
set_option maxHeartbeats 4000000 in
theorem rp_sfp (asn hold id paths : Int) (four : Bool) (w : World) (hf : FitO ⟨asn, hold, id, four, paths⟩) (hbig : asn ≤ 65535) (h4 : four = true) (hp : paths ≠ 0) :
    Calls Tryd.prog 10 #[.agg #[.int .i64 asn, .int .i64 hold, .int .u32 id, .bool four, .int .i64 paths]] w fun e w' => RetB w w' (putO ⟨asn, hold, id, four, paths⟩) e := by
  subst h4
  have HP := Lib.hid (rput_shape ⟨asn, hold, id, true, paths⟩)
  obtain ⟨po, hpo⟩ : ∃ po, putO ⟨asn, hold, id, true, paths⟩ = po := ⟨_, rfl⟩
  rw [hpo] at HP ⊢
  clear hpo
  have HC := Lib.hid (show capsO ⟨asn, hold, id, true, paths⟩ = (([1, 4, 0, 1, 0, 1] ++ [65, 4] ++ putL asn 4) ++ [69, 4, 0, 1, 1, paths]) by simp [capsO, fourC, pathsC, hp])
  have HSH := Lib.hid (show shortAS asn = asn by unfold shortAS; exact if_neg (by omega))
  have F1 := Lib.hid (show fitsB asn (4 : Nat) = true from fits4 hf.a0 hf.a1)
  have F2 := Lib.hid (show fitsB asn (2 : Nat) = true from fits2 (by have := hf.a0; simp only at this; omega) (by omega))
  have F3 := Lib.hid (show fitsB hold (2 : Nat) = true from fits2 hf.h0 hf.h1)
  have F4 := Lib.hid (show fitsB id (4 : Nat) = true from fits4 hf.i0 hf.i1)
  have i0 := hf.i0
  have i1 := hf.i1
  simp only at i0 i1
  have p0 := hf.p0
  have p1 := hf.p1
  simp only at p0 p1
  have pp : 0 < paths := by omega
  have hwk : IntKind.u8.wrap paths = paths := by rw [show IntKind.u8.wrap paths = paths % 256 from by first | rfl | exact IntKind.wrap_u8 _ | exact IntKind.wrap_u8' _]; omega
  clear hf hp
  obtain ⟨W, hW⟩ : ∃ W, w.alloc (.cells #[.int .i64 asn, .int .i64 hold, .int .u32 id, .bool true, .int .i64 paths] 24) = W := ⟨_, rfl⟩
  obtain ⟨V, hV⟩ : ∃ V, W.alloc (.cells #[.int .u8 1, .int .u8 4, .int .u8 0, .int .u8 1, .int .u8 0, .int .u8 1] 5) = V := ⟨_, rfl⟩
  have hS : W.heap.size = w.heap.size + 1 := by rw [← hW]; simp
  have hSV : V.heap.size = w.heap.size + 2 := by rw [← hV, sz_alloc, hS]
  have H1 := Lib.hid (show Below w.heap.size w W by rw [← hW]; exact new_below _ _)
  have GV := Lib.hid (show GrowSt W (w.heap.size + 1) w.heap.size 24 [.int .i64 asn, .int .i64 hold, .int .u32 id, .bool true, .int .i64 paths] V (some ⟨w.heap.size + 1, 0, none⟩) 6 [1, 4, 0, 1, 0, 1] from by
    rw [← hV, ← hS]
    exact ⟨Own.lit W W.heap.size [1, 4, 0, 1, 0, 1] (inByte_all (by decide)) (by simp) (Nat.le_refl _), (show Blk W w.heap.size 24 [.int .i64 asn, .int .i64 hold, .int .u32 id, .bool true, .int .i64 paths] by rw [← hW]; exact Blk.new w _ _).alloc _, new_below _ _, by rw [hS]; omega, by simp⟩)
  have HW := Lib.hid hW
  have HV := Lib.hid hV
  have HSV := Lib.hid hSV
  have c0 := GV.out.blk.cell 0 (by simp)
  have c1 := GV.out.blk.cell 1 (by simp)
  have c2 := GV.out.blk.cell 2 (by simp)
  have c3 := GV.out.blk.cell 3 (by simp)
  have c4 := GV.out.blk.cell 4 (by simp)
  rw [← HV.out, ← HW.out] at c0 c1 c2 c3 c4
  clear hW hV hS hSV
  go_enter Tryd.func10, Tryd.ntmps10
  go_wp2_with fail
  clear c0 c1 c2 c3 c4
  rw [HW.out, HV.out]
  have c0 : V.drew.cell? ⟨w.heap.size, 0, none⟩ = some (.int .i64 asn) := GV.out.blk.cell 0 (by simp)
  have NL := fun v : World => Lib.hid (lit2 v 65 4 (inByte_all (by decide)))
  have GL := Lib.hid (GV.out.next (new_below V (.cells #[.int .u8 65, .int .u8 4] 5)).drew)
  go_region_held_law (fun w' => w'.cell? ⟨w.heap.size, 0, none⟩ = some (.int .i64 asn)) (first | with_reducible assumption | exact kept (new_below _ _) (by with_reducible assumption)) (first
    | (refine step_appo rfl (.tmp 13) (.tmp 14) rfl (w.heap.size + 1) (some ⟨w.heap.size + 1, 0, none⟩) 6 [1, 4, 0, 1, 0, 1] GL.out.own 6 rfl rfl _ 2 2 [65, 4] (NL V).out.drew rfl rfl 8 rfl (by omega) GL.out.hB ?_; intro p6 cap6 w6 hO6 hB6 hG6; have G6 := Lib.hid (GL.out.app hO6.out hB6.out); have cZ : w6.cell? ⟨w.heap.size, 0, none⟩ = some (.int .i64 asn) := G6.out.blk.cell 0 (by simp))
    | (go_at_call 27; (with_reducible refine (rput_new asn 4 4 rfl _ (by omega) (by omega) F1.out).mono ?_); rintro e w7 ⟨rfl, hr, hb⟩; have GZ := Lib.hid (G6.out.next hb); have RZ := Lib.hid (hr.bytes (putL_byte asn 4)); have cZ : w7.cell? ⟨w.heap.size, 0, none⟩ = some (.int .i64 asn) := GZ.out.blk.cell 0 (by simp); clear hr hb)
    | (go_at_call 27; (with_reducible refine (rput_new asn 4 4 rfl _ (by omega) (by omega) F1.out).mono ?_); rintro e w7 ⟨rfl, hr, hb⟩; rw [szd_alloc] at hr; have G7 := Lib.hid (GL.out.next hb); have Y7 := Lib.hid ((NL V).out.drew.below hb); have R7 := Lib.hid hr; have cZ : w7.cell? ⟨w.heap.size, 0, none⟩ = some (.int .i64 asn) := G7.out.blk.cell 0 (by simp); clear hr hb)
    | (refine step_appo rfl (.tmp 13) (.tmp 14) rfl (w.heap.size + 1) (some ⟨w.heap.size + 1, 0, none⟩) 6 [1, 4, 0, 1, 0, 1] G7.out.own 6 rfl rfl _ 2 2 [65, 4] Y7.out rfl rfl 8 rfl (by omega) G7.out.hB ?_; intro p6 cap6 w8 hO8 hB8 hG8; have GZ := Lib.hid (G7.out.app hO8.out hB8.out); have RZ := Lib.hid ((R7.out.grown (r := w.heap.size + 1) (by have := HSV.out; omega) hG8.out.1).bytes (putL_byte asn 4)); have cZ : w8.cell? ⟨w.heap.size, 0, none⟩ = some (.int .i64 asn) := GZ.out.blk.cell 0 (by simp))
    | (go_at_call 27; (with_reducible refine (rput_new asn 4 4 rfl _ (by omega) (by omega) F1.out).mono ?_); rintro e w7 ⟨rfl, hr, hb⟩; have G7 := Lib.hid (GV.out.next ((Below.refl _ _).drew.trans hb)); have R7 := Lib.hid (show BRow w7 V.heap.size (putL asn 4) from hr); have cZ : w7.cell? ⟨w.heap.size, 0, none⟩ = some (.int .i64 asn) := G7.out.blk.cell 0 (by simp); clear hr hb)
    | (refine step_appo rfl (.tmp 13) (.tmp 14) rfl (w.heap.size + 1) (some ⟨w.heap.size + 1, 0, none⟩) 6 [1, 4, 0, 1, 0, 1] (G7.out.next (new_below _ _)).own 6 rfl rfl _ 2 2 [65, 4] (NL w7).out rfl rfl 8 rfl (by omega) (G7.out.next (new_below _ _)).hB ?_; intro p6 cap6 w8 hO8 hB8 hG8; have GZ := Lib.hid ((G7.out.next (new_below w7 (.cells #[.int .u8 65, .int .u8 4] 5))).app hO8.out hB8.out); have RZ := Lib.hid (((R7.out.below (new_below w7 (.cells #[.int .u8 65, .int .u8 4] 5))).grown (r := w.heap.size + 1) (by have := HSV.out; omega) hG8.out.1).bytes (putL_byte asn 4)); have cZ : w8.cell? ⟨w.heap.size, 0, none⟩ = some (.int .i64 asn) := GZ.out.blk.cell 0 (by simp))
    | (refine step_appo rfl (.tmp 15) (.tmp 18) rfl (w.heap.size + 1) p6 cap6 ([1, 4, 0, 1, 0, 1] ++ [65, 4]) GZ.out.own 8 rfl rfl _ 4 4 (putL asn 4) RZ.out (putL_len ..) rfl 12 rfl (by omega) GZ.out.hB ?_; intro qz capz wz hOz hBz hGz; have G9 := Lib.hid (GZ.out.app hOz.out hBz.out); have c9 : wz.cell? ⟨w.heap.size, 0, none⟩ = some (.int .i64 asn) := G9.out.blk.cell 0 (by simp)))
  all_goals
    have c1 := G9.out.blk.cell 1 (by simp)
    have c2 := G9.out.blk.cell 2 (by simp)
    have c4 := G9.out.blk.cell 4 (by simp)
    have c0 := G9.out.blk.cell 0 (by simp)
    have HGN := Lib.hid (G9.out.next (new_below wz (.cells #[.int .u8 69, .int .u8 4, .int .u8 0, .int .u8 1, .int .u8 1, .int .u8 paths] 5)))
    have HYN := Lib.hid (lit6 wz 69 4 0 1 1 paths (inByte_all fun x hx => by simp at hx; omega))
    go_wp2_with (refine wpList_appo (o := ⟨some 28, _, _, _, _, _⟩) (by rfl) (.tmp 23) (.tmp 27) (by rfl) (w.heap.size + 1) qz capz ([1, 4, 0, 1, 0, 1] ++ [65, 4] ++ putL asn 4) HGN.out.own 12 (by simp [putL_len]) (by rfl) _ 6 6 [69, 4, 0, 1, 1, paths] HYN.out (by rfl) (by rfl) 18 (by rfl) (by omega) HGN.out.hB ?_; intro qa capa wa hOa hBa hGa; have GA := Lib.hid (HGN.out.app hOa.out hBa.out); have d1 := GA.out.blk.cell 1 (by simp); have d2 := GA.out.blk.cell 2 (by simp))
    have X3 := Lib.hid (show GrowSt wa wa.heap.size w.heap.size 24 [.int .i64 asn, .int .i64 hold, .int .u32 id, .bool true, .int .i64 paths] (wa.alloc (.cells #[.int .u8 4] 5)) (some ⟨wa.heap.size, 0, none⟩) 1 [4] from ⟨Own.lit wa wa.heap.size [4] (inByte_all (by decide)) (by simp) (Nat.le_refl _), GA.out.blk.next (new_below _ _), new_below _ _, GA.out.blk.lt, by simp⟩)
    have YC := Lib.hid GA.out.own.bytes
    have HB3 := Lib.hid (H1.out.trans (GA.out.bel.mono (by omega)))
    have SB := Lib.hid (show w.heap.size ≤ wa.heap.size by have := GA.out.hB; omega)
    (with_reducible refine (rput_new asn 2 2 rfl _ (by omega) (by omega) F2.out).mono ?_); rintro e x4 ⟨rfl, hr, hb⟩
    rw [sz_alloc] at hr
    have X4 := Lib.hid (X3.out.next hb)
    have Y4 := Lib.hid (hr.bytes (putL_byte _ _))
    clear hr hb
    go_wp2_with (refine wpList_appo (o := ⟨some 32, _, _, _, _, _⟩) (by rfl) (.tmp 29) (.tmp 31) (by rfl) wa.heap.size (some ⟨wa.heap.size, 0, none⟩) 1 [4] X4.out.own 1 (by rfl) (by rfl) _ 2 2 _ Y4.out (putL_len ..) (by rfl) 3 (by rfl) (by omega) X4.out.hB ?_; intro q5 cq5 x5 hO5 hB5 hG5; have X5 := Lib.hid (X4.out.app hO5.out hB5.out); have e1 := X5.out.blk.cell 1 (by simp))
    clear hO5 hB5 hG5
    (with_reducible refine (rput_new hold 2 2 rfl _ (by omega) (by omega) F3.out).mono ?_); rintro e x6 ⟨rfl, hr, hb⟩
    have X6 := Lib.hid (X5.out.next hb)
    have Y6 := Lib.hid (hr.bytes (putL_byte _ _))
    clear hr hb e1
    go_wp2_with (refine wpList_appo (o := ⟨some 37, _, _, _, _, _⟩) (by rfl) (.tmp 33) (.tmp 36) (by rfl) wa.heap.size q5 cq5 ([4] ++ putL asn 2) X6.out.own 3 (by simp [putL_len]) (by rfl) _ 2 2 _ Y6.out (putL_len ..) (by rfl) 5 (by rfl) (by omega) X6.out.hB ?_; intro q7 cq7 x7 hO7 hB7 hG7; have X7 := Lib.hid (X6.out.app hO7.out hB7.out); have e2 := X7.out.blk.cell 2 (by simp))
    clear hO7 hB7 hG7
    (with_reducible refine (rput_new id 4 4 rfl _ (by omega) (by omega) F4.out).mono ?_); rintro e x8 ⟨rfl, hr, hb⟩
    have X8 := Lib.hid (X7.out.next hb)
    have Y8 := Lib.hid (hr.bytes (putL_byte _ _))
    clear hr hb e2
    go_wp2_with (first
      | (refine wpList_appo (o := ⟨some 43, _, _, _, _, _⟩) (by rfl) (.tmp 38) (.tmp 42) (by rfl) wa.heap.size q7 cq7 ([4] ++ putL asn 2 ++ putL hold 2) X8.out.own 5 (by simp [putL_len]) (by rfl) _ 4 4 _ Y8.out (putL_len ..) (by rfl) 9 (by rfl) (by omega) X8.out.hB ?_; intro q9 cq9 x9 hO9 hB9 hG9; have X9 := Lib.hid (X8.out.app hO9.out hB9.out); have Y9 := Lib.hid (lit3 x9 20 2 18 (inByte_all (by decide))); have X9' := Lib.hid (X9.out.next (new_below _ (.cells #[.int .u8 20, .int .u8 2, .int .u8 18] 5))))
      | (refine wpList_appo (o := ⟨some 53, _, _, _, _, _⟩) (by rfl) (.tmp 44) (.tmp 52) (by rfl) wa.heap.size q9 cq9 ([4] ++ putL asn 2 ++ putL hold 2 ++ putL id 4) X9'.out.own 9 (by simp [putL_len]) (by rfl) _ 3 3 [20, 2, 18] Y9.out (by rfl) (by rfl) 12 (by rfl) (by omega) X9'.out.hB ?_; intro q10 cq10 x10 hO10 hB10 hG10; have X10 := Lib.hid (X9'.out.app hO10.out hB10.out); have Y10 := Lib.hid (YC.out.below X10.out.bel))
      | (refine wpList_appo (o := ⟨some 55, _, _, _, _, _⟩) (by rfl) (.tmp 53) (.tmp 54) (by rfl) wa.heap.size q10 cq10 (([4] ++ putL asn 2 ++ putL hold 2 ++ putL id 4) ++ [20, 2, 18]) X10.out.own 12 (by simp [putL_len]) (by rfl) qa 18 capa (([1, 4, 0, 1, 0, 1] ++ [65, 4] ++ putL asn 4) ++ [69, 4, 0, 1, 1, paths]) Y10.out (by first | rfl | simp [putL_len]) (by rfl) 30 (by rfl) (by omega) X10.out.hB ?_; intro q11 cq11 x11 hO11 hB11 hG11; have X11 := Lib.hid (X10.out.app hO11.out hB11.out)))
    have hcl : ((([1, 4, 0, 1, 0, 1] ++ [65, 4] ++ putL asn 4) ++ [69, 4, 0, 1, 1, paths]) : List Int).length = 18 := by first | rfl | simp [putL_len]
    have hfin : po = ([4] ++ putL asn 2 ++ putL hold 2 ++ putL id 4) ++ [20, 2, 18] ++ (([1, 4, 0, 1, 0, 1] ++ [65, 4] ++ putL asn 4) ++ [69, 4, 0, 1, 1, paths]) := by rw [HP.out, HC.out, HSH.out, hcl]; rfl
    have hlen : po.length = 30 := by rw [hfin]; simp [putL_len]
    go_ret
    exact ⟨q11, cq11, by rw [hlen]; rfl, by rw [hfin]; exact X11.out.own.mono SB.out, HB3.out.trans (X11.out.bel.mono SB.out)⟩

set_option maxRecDepth 100000 in
set_option maxHeartbeats 4000000 in
theorem rp_bfn (asn hold id paths : Int) (four : Bool) (w : World) (hf : FitO ⟨asn, hold, id, four, paths⟩) (hbig : 65535 < asn) (h4 : four = true) (hp : paths = 0) :
    Calls Tryd.prog 10 #[.agg #[.int .i64 asn, .int .i64 hold, .int .u32 id, .bool four, .int .i64 paths]] w fun e w' => RetB w w' (putO ⟨asn, hold, id, four, paths⟩) e := by
  subst h4
  subst hp
  have HP := Lib.hid (rput_shape ⟨asn, hold, id, true, 0⟩)
  obtain ⟨po, hpo⟩ : ∃ po, putO ⟨asn, hold, id, true, 0⟩ = po := ⟨_, rfl⟩
  rw [hpo] at HP ⊢
  clear hpo
  have HC := Lib.hid (show capsO ⟨asn, hold, id, true, 0⟩ = ([1, 4, 0, 1, 0, 1] ++ [65, 4] ++ putL asn 4) by simp [capsO, fourC, pathsC])
  have HSH := Lib.hid (show shortAS asn = 23456 by unfold shortAS; exact if_pos (by omega))
  have F1 := Lib.hid (show fitsB asn (4 : Nat) = true from fits4 hf.a0 hf.a1)
  have F2 := Lib.hid (show fitsB 23456 (2 : Nat) = true from fits2 (by have := hf.a0; simp only at this; omega) (by omega))
  have F3 := Lib.hid (show fitsB hold (2 : Nat) = true from fits2 hf.h0 hf.h1)
  have F4 := Lib.hid (show fitsB id (4 : Nat) = true from fits4 hf.i0 hf.i1)
  have i0 := hf.i0
  have i1 := hf.i1
  simp only at i0 i1
  clear hf
  obtain ⟨W, hW⟩ : ∃ W, w.alloc (.cells #[.int .i64 asn, .int .i64 hold, .int .u32 id, .bool true, .int .i64 0] 24) = W := ⟨_, rfl⟩
  obtain ⟨V, hV⟩ : ∃ V, W.alloc (.cells #[.int .u8 1, .int .u8 4, .int .u8 0, .int .u8 1, .int .u8 0, .int .u8 1] 5) = V := ⟨_, rfl⟩
  have hS : W.heap.size = w.heap.size + 1 := by rw [← hW]; simp
  have hSV : V.heap.size = w.heap.size + 2 := by rw [← hV, sz_alloc, hS]
  have H1 := Lib.hid (show Below w.heap.size w W by rw [← hW]; exact new_below _ _)
  have GV := Lib.hid (show GrowSt W (w.heap.size + 1) w.heap.size 24 [.int .i64 asn, .int .i64 hold, .int .u32 id, .bool true, .int .i64 0] V (some ⟨w.heap.size + 1, 0, none⟩) 6 [1, 4, 0, 1, 0, 1] from by
    rw [← hV, ← hS]
    exact ⟨Own.lit W W.heap.size [1, 4, 0, 1, 0, 1] (inByte_all (by decide)) (by simp) (Nat.le_refl _), (show Blk W w.heap.size 24 [.int .i64 asn, .int .i64 hold, .int .u32 id, .bool true, .int .i64 0] by rw [← hW]; exact Blk.new w _ _).alloc _, new_below _ _, by rw [hS]; omega, by simp⟩)
  have HW := Lib.hid hW
  have HV := Lib.hid hV
  have HSV := Lib.hid hSV
  have c0 := GV.out.blk.cell 0 (by simp)
  have c1 := GV.out.blk.cell 1 (by simp)
  have c2 := GV.out.blk.cell 2 (by simp)
  have c3 := GV.out.blk.cell 3 (by simp)
  have c4 := GV.out.blk.cell 4 (by simp)
  rw [← HV.out, ← HW.out] at c0 c1 c2 c3 c4
  clear hW hV hS hSV
  go_enter Tryd.func10, Tryd.ntmps10
  go_wp2_with fail
  clear c0 c1 c2 c3 c4
  rw [HW.out, HV.out]
  have c0 : V.drew.cell? ⟨w.heap.size, 0, none⟩ = some (.int .i64 asn) := GV.out.blk.cell 0 (by simp)
  have NL := fun v : World => Lib.hid (lit2 v 65 4 (inByte_all (by decide)))
  have GL := Lib.hid (GV.out.next (new_below V (.cells #[.int .u8 65, .int .u8 4] 5)).drew)
  go_region_held_law (fun w' => w'.cell? ⟨w.heap.size, 0, none⟩ = some (.int .i64 asn)) (first | with_reducible assumption | exact kept (new_below _ _) (by with_reducible assumption)) (first
    | (refine step_appo rfl (.tmp 13) (.tmp 14) rfl (w.heap.size + 1) (some ⟨w.heap.size + 1, 0, none⟩) 6 [1, 4, 0, 1, 0, 1] GL.out.own 6 rfl rfl _ 2 2 [65, 4] (NL V).out.drew rfl rfl 8 rfl (by omega) GL.out.hB ?_; intro p6 cap6 w6 hO6 hB6 hG6; have G6 := Lib.hid (GL.out.app hO6.out hB6.out); have cZ : w6.cell? ⟨w.heap.size, 0, none⟩ = some (.int .i64 asn) := G6.out.blk.cell 0 (by simp))
    | (go_at_call 27; (with_reducible refine (rput_new asn 4 4 rfl _ (by omega) (by omega) F1.out).mono ?_); rintro e w7 ⟨rfl, hr, hb⟩; have GZ := Lib.hid (G6.out.next hb); have RZ := Lib.hid (hr.bytes (putL_byte asn 4)); have cZ : w7.cell? ⟨w.heap.size, 0, none⟩ = some (.int .i64 asn) := GZ.out.blk.cell 0 (by simp); clear hr hb)
    | (go_at_call 27; (with_reducible refine (rput_new asn 4 4 rfl _ (by omega) (by omega) F1.out).mono ?_); rintro e w7 ⟨rfl, hr, hb⟩; rw [szd_alloc] at hr; have G7 := Lib.hid (GL.out.next hb); have Y7 := Lib.hid ((NL V).out.drew.below hb); have R7 := Lib.hid hr; have cZ : w7.cell? ⟨w.heap.size, 0, none⟩ = some (.int .i64 asn) := G7.out.blk.cell 0 (by simp); clear hr hb)
    | (refine step_appo rfl (.tmp 13) (.tmp 14) rfl (w.heap.size + 1) (some ⟨w.heap.size + 1, 0, none⟩) 6 [1, 4, 0, 1, 0, 1] G7.out.own 6 rfl rfl _ 2 2 [65, 4] Y7.out rfl rfl 8 rfl (by omega) G7.out.hB ?_; intro p6 cap6 w8 hO8 hB8 hG8; have GZ := Lib.hid (G7.out.app hO8.out hB8.out); have RZ := Lib.hid ((R7.out.grown (r := w.heap.size + 1) (by have := HSV.out; omega) hG8.out.1).bytes (putL_byte asn 4)); have cZ : w8.cell? ⟨w.heap.size, 0, none⟩ = some (.int .i64 asn) := GZ.out.blk.cell 0 (by simp))
    | (go_at_call 27; (with_reducible refine (rput_new asn 4 4 rfl _ (by omega) (by omega) F1.out).mono ?_); rintro e w7 ⟨rfl, hr, hb⟩; have G7 := Lib.hid (GV.out.next ((Below.refl _ _).drew.trans hb)); have R7 := Lib.hid (show BRow w7 V.heap.size (putL asn 4) from hr); have cZ : w7.cell? ⟨w.heap.size, 0, none⟩ = some (.int .i64 asn) := G7.out.blk.cell 0 (by simp); clear hr hb)
    | (refine step_appo rfl (.tmp 13) (.tmp 14) rfl (w.heap.size + 1) (some ⟨w.heap.size + 1, 0, none⟩) 6 [1, 4, 0, 1, 0, 1] (G7.out.next (new_below _ _)).own 6 rfl rfl _ 2 2 [65, 4] (NL w7).out rfl rfl 8 rfl (by omega) (G7.out.next (new_below _ _)).hB ?_; intro p6 cap6 w8 hO8 hB8 hG8; have GZ := Lib.hid ((G7.out.next (new_below w7 (.cells #[.int .u8 65, .int .u8 4] 5))).app hO8.out hB8.out); have RZ := Lib.hid (((R7.out.below (new_below w7 (.cells #[.int .u8 65, .int .u8 4] 5))).grown (r := w.heap.size + 1) (by have := HSV.out; omega) hG8.out.1).bytes (putL_byte asn 4)); have cZ : w8.cell? ⟨w.heap.size, 0, none⟩ = some (.int .i64 asn) := GZ.out.blk.cell 0 (by simp))
    | (refine step_appo rfl (.tmp 15) (.tmp 18) rfl (w.heap.size + 1) p6 cap6 ([1, 4, 0, 1, 0, 1] ++ [65, 4]) GZ.out.own 8 rfl rfl _ 4 4 (putL asn 4) RZ.out (putL_len ..) rfl 12 rfl (by omega) GZ.out.hB ?_; intro qz capz wz hOz hBz hGz; have G9 := Lib.hid (GZ.out.app hOz.out hBz.out); have c9 : wz.cell? ⟨w.heap.size, 0, none⟩ = some (.int .i64 asn) := G9.out.blk.cell 0 (by simp)))
  all_goals
    have c1 := G9.out.blk.cell 1 (by simp)
    have c2 := G9.out.blk.cell 2 (by simp)
    have c4 := G9.out.blk.cell 4 (by simp)
    have c0 := G9.out.blk.cell 0 (by simp)
    go_wp2_with fail
    have X3 := Lib.hid (show GrowSt wz wz.heap.size w.heap.size 24 [.int .i64 asn, .int .i64 hold, .int .u32 id, .bool true, .int .i64 0] (wz.alloc (.cells #[.int .u8 4] 5)) (some ⟨wz.heap.size, 0, none⟩) 1 [4] from ⟨Own.lit wz wz.heap.size [4] (inByte_all (by decide)) (by simp) (Nat.le_refl _), G9.out.blk.next (new_below _ _), new_below _ _, G9.out.blk.lt, by simp⟩)
    have YC := Lib.hid G9.out.own.bytes
    have HB3 := Lib.hid (H1.out.trans (G9.out.bel.mono (by omega)))
    have SB := Lib.hid (show w.heap.size ≤ wz.heap.size by have := G9.out.hB; omega)
    (with_reducible refine (rput_new 23456 2 2 rfl _ (by omega) (by omega) F2.out).mono ?_); rintro e x4 ⟨rfl, hr, hb⟩
    rw [sz_alloc] at hr
    have X4 := Lib.hid (X3.out.next hb)
    have Y4 := Lib.hid (hr.bytes (putL_byte _ _))
    clear hr hb
    go_wp2_with (refine wpList_appo (o := ⟨some 32, _, _, _, _, _⟩) (by rfl) (.tmp 29) (.tmp 31) (by rfl) wz.heap.size (some ⟨wz.heap.size, 0, none⟩) 1 [4] X4.out.own 1 (by rfl) (by rfl) _ 2 2 _ Y4.out (putL_len ..) (by rfl) 3 (by rfl) (by omega) X4.out.hB ?_; intro q5 cq5 x5 hO5 hB5 hG5; have X5 := Lib.hid (X4.out.app hO5.out hB5.out); have e1 := X5.out.blk.cell 1 (by simp))
    clear hO5 hB5 hG5
    (with_reducible refine (rput_new hold 2 2 rfl _ (by omega) (by omega) F3.out).mono ?_); rintro e x6 ⟨rfl, hr, hb⟩
    have X6 := Lib.hid (X5.out.next hb)
    have Y6 := Lib.hid (hr.bytes (putL_byte _ _))
    clear hr hb e1
    go_wp2_with (refine wpList_appo (o := ⟨some 37, _, _, _, _, _⟩) (by rfl) (.tmp 33) (.tmp 36) (by rfl) wz.heap.size q5 cq5 ([4] ++ putL 23456 2) X6.out.own 3 (by simp [putL_len]) (by rfl) _ 2 2 _ Y6.out (putL_len ..) (by rfl) 5 (by rfl) (by omega) X6.out.hB ?_; intro q7 cq7 x7 hO7 hB7 hG7; have X7 := Lib.hid (X6.out.app hO7.out hB7.out); have e2 := X7.out.blk.cell 2 (by simp))
    clear hO7 hB7 hG7
    (with_reducible refine (rput_new id 4 4 rfl _ (by omega) (by omega) F4.out).mono ?_); rintro e x8 ⟨rfl, hr, hb⟩
    have X8 := Lib.hid (X7.out.next hb)
    have Y8 := Lib.hid (hr.bytes (putL_byte _ _))
    clear hr hb e2
    go_wp2_with (first
      | (refine wpList_appo (o := ⟨some 43, _, _, _, _, _⟩) (by rfl) (.tmp 38) (.tmp 42) (by rfl) wz.heap.size q7 cq7 ([4] ++ putL 23456 2 ++ putL hold 2) X8.out.own 5 (by simp [putL_len]) (by rfl) _ 4 4 _ Y8.out (putL_len ..) (by rfl) 9 (by rfl) (by omega) X8.out.hB ?_; intro q9 cq9 x9 hO9 hB9 hG9; have X9 := Lib.hid (X8.out.app hO9.out hB9.out); have Y9 := Lib.hid (lit3 x9 14 2 12 (inByte_all (by decide))); have X9' := Lib.hid (X9.out.next (new_below _ (.cells #[.int .u8 14, .int .u8 2, .int .u8 12] 5))))
      | (refine wpList_appo (o := ⟨some 53, _, _, _, _, _⟩) (by rfl) (.tmp 44) (.tmp 52) (by rfl) wz.heap.size q9 cq9 ([4] ++ putL 23456 2 ++ putL hold 2 ++ putL id 4) X9'.out.own 9 (by simp [putL_len]) (by rfl) _ 3 3 [14, 2, 12] Y9.out (by rfl) (by rfl) 12 (by rfl) (by omega) X9'.out.hB ?_; intro q10 cq10 x10 hO10 hB10 hG10; have X10 := Lib.hid (X9'.out.app hO10.out hB10.out); have Y10 := Lib.hid (YC.out.below X10.out.bel))
      | (refine wpList_appo (o := ⟨some 55, _, _, _, _, _⟩) (by rfl) (.tmp 53) (.tmp 54) (by rfl) wz.heap.size q10 cq10 (([4] ++ putL 23456 2 ++ putL hold 2 ++ putL id 4) ++ [14, 2, 12]) X10.out.own 12 (by simp [putL_len]) (by rfl) qz 12 capz ([1, 4, 0, 1, 0, 1] ++ [65, 4] ++ putL asn 4) Y10.out (by first | rfl | simp [putL_len]) (by rfl) 24 (by rfl) (by omega) X10.out.hB ?_; intro q11 cq11 x11 hO11 hB11 hG11; have X11 := Lib.hid (X10.out.app hO11.out hB11.out)))
    have hcl : (([1, 4, 0, 1, 0, 1] ++ [65, 4] ++ putL asn 4) : List Int).length = 12 := by first | rfl | simp [putL_len]
    have hfin : po = ([4] ++ putL 23456 2 ++ putL hold 2 ++ putL id 4) ++ [14, 2, 12] ++ ([1, 4, 0, 1, 0, 1] ++ [65, 4] ++ putL asn 4) := by rw [HP.out, HC.out, HSH.out, hcl]; rfl
    have hlen : po.length = 24 := by rw [hfin]; simp [putL_len]
    go_ret
    exact ⟨q11, cq11, by rw [hlen]; rfl, by rw [hfin]; exact X11.out.own.mono SB.out, HB3.out.trans (X11.out.bel.mono SB.out)⟩

set_option maxRecDepth 100000 in
set_option maxHeartbeats 4000000 in
theorem rp_bfp (asn hold id paths : Int) (four : Bool) (w : World) (hf : FitO ⟨asn, hold, id, four, paths⟩) (hbig : 65535 < asn) (h4 : four = true) (hp : paths ≠ 0) :
    Calls Tryd.prog 10 #[.agg #[.int .i64 asn, .int .i64 hold, .int .u32 id, .bool four, .int .i64 paths]] w fun e w' => RetB w w' (putO ⟨asn, hold, id, four, paths⟩) e := by
  subst h4
  have HP := Lib.hid (rput_shape ⟨asn, hold, id, true, paths⟩)
  obtain ⟨po, hpo⟩ : ∃ po, putO ⟨asn, hold, id, true, paths⟩ = po := ⟨_, rfl⟩
  rw [hpo] at HP ⊢
  clear hpo
  have HC := Lib.hid (show capsO ⟨asn, hold, id, true, paths⟩ = (([1, 4, 0, 1, 0, 1] ++ [65, 4] ++ putL asn 4) ++ [69, 4, 0, 1, 1, paths]) by simp [capsO, fourC, pathsC, hp])
  have HSH := Lib.hid (show shortAS asn = 23456 by unfold shortAS; exact if_pos (by omega))
  have F1 := Lib.hid (show fitsB asn (4 : Nat) = true from fits4 hf.a0 hf.a1)
  have F2 := Lib.hid (show fitsB 23456 (2 : Nat) = true from fits2 (by have := hf.a0; simp only at this; omega) (by omega))
  have F3 := Lib.hid (show fitsB hold (2 : Nat) = true from fits2 hf.h0 hf.h1)
  have F4 := Lib.hid (show fitsB id (4 : Nat) = true from fits4 hf.i0 hf.i1)
  have i0 := hf.i0
  have i1 := hf.i1
  simp only at i0 i1
  have p0 := hf.p0
  have p1 := hf.p1
  simp only at p0 p1
  have pp : 0 < paths := by omega
  have hwk : IntKind.u8.wrap paths = paths := by rw [show IntKind.u8.wrap paths = paths % 256 from by first | rfl | exact IntKind.wrap_u8 _ | exact IntKind.wrap_u8' _]; omega
  clear hf hp
  obtain ⟨W, hW⟩ : ∃ W, w.alloc (.cells #[.int .i64 asn, .int .i64 hold, .int .u32 id, .bool true, .int .i64 paths] 24) = W := ⟨_, rfl⟩
  obtain ⟨V, hV⟩ : ∃ V, W.alloc (.cells #[.int .u8 1, .int .u8 4, .int .u8 0, .int .u8 1, .int .u8 0, .int .u8 1] 5) = V := ⟨_, rfl⟩
  have hS : W.heap.size = w.heap.size + 1 := by rw [← hW]; simp
  have hSV : V.heap.size = w.heap.size + 2 := by rw [← hV, sz_alloc, hS]
  have H1 := Lib.hid (show Below w.heap.size w W by rw [← hW]; exact new_below _ _)
  have GV := Lib.hid (show GrowSt W (w.heap.size + 1) w.heap.size 24 [.int .i64 asn, .int .i64 hold, .int .u32 id, .bool true, .int .i64 paths] V (some ⟨w.heap.size + 1, 0, none⟩) 6 [1, 4, 0, 1, 0, 1] from by
    rw [← hV, ← hS]
    exact ⟨Own.lit W W.heap.size [1, 4, 0, 1, 0, 1] (inByte_all (by decide)) (by simp) (Nat.le_refl _), (show Blk W w.heap.size 24 [.int .i64 asn, .int .i64 hold, .int .u32 id, .bool true, .int .i64 paths] by rw [← hW]; exact Blk.new w _ _).alloc _, new_below _ _, by rw [hS]; omega, by simp⟩)
  have HW := Lib.hid hW
  have HV := Lib.hid hV
  have HSV := Lib.hid hSV
  have c0 := GV.out.blk.cell 0 (by simp)
  have c1 := GV.out.blk.cell 1 (by simp)
  have c2 := GV.out.blk.cell 2 (by simp)
  have c3 := GV.out.blk.cell 3 (by simp)
  have c4 := GV.out.blk.cell 4 (by simp)
  rw [← HV.out, ← HW.out] at c0 c1 c2 c3 c4
  clear hW hV hS hSV
  go_enter Tryd.func10, Tryd.ntmps10
  go_wp2_with fail
  clear c0 c1 c2 c3 c4
  rw [HW.out, HV.out]
  have c0 : V.drew.cell? ⟨w.heap.size, 0, none⟩ = some (.int .i64 asn) := GV.out.blk.cell 0 (by simp)
  have NL := fun v : World => Lib.hid (lit2 v 65 4 (inByte_all (by decide)))
  have GL := Lib.hid (GV.out.next (new_below V (.cells #[.int .u8 65, .int .u8 4] 5)).drew)
  go_region_held_law (fun w' => w'.cell? ⟨w.heap.size, 0, none⟩ = some (.int .i64 asn)) (first | with_reducible assumption | exact kept (new_below _ _) (by with_reducible assumption)) (first
    | (refine step_appo rfl (.tmp 13) (.tmp 14) rfl (w.heap.size + 1) (some ⟨w.heap.size + 1, 0, none⟩) 6 [1, 4, 0, 1, 0, 1] GL.out.own 6 rfl rfl _ 2 2 [65, 4] (NL V).out.drew rfl rfl 8 rfl (by omega) GL.out.hB ?_; intro p6 cap6 w6 hO6 hB6 hG6; have G6 := Lib.hid (GL.out.app hO6.out hB6.out); have cZ : w6.cell? ⟨w.heap.size, 0, none⟩ = some (.int .i64 asn) := G6.out.blk.cell 0 (by simp))
    | (go_at_call 27; (with_reducible refine (rput_new asn 4 4 rfl _ (by omega) (by omega) F1.out).mono ?_); rintro e w7 ⟨rfl, hr, hb⟩; have GZ := Lib.hid (G6.out.next hb); have RZ := Lib.hid (hr.bytes (putL_byte asn 4)); have cZ : w7.cell? ⟨w.heap.size, 0, none⟩ = some (.int .i64 asn) := GZ.out.blk.cell 0 (by simp); clear hr hb)
    | (go_at_call 27; (with_reducible refine (rput_new asn 4 4 rfl _ (by omega) (by omega) F1.out).mono ?_); rintro e w7 ⟨rfl, hr, hb⟩; rw [szd_alloc] at hr; have G7 := Lib.hid (GL.out.next hb); have Y7 := Lib.hid ((NL V).out.drew.below hb); have R7 := Lib.hid hr; have cZ : w7.cell? ⟨w.heap.size, 0, none⟩ = some (.int .i64 asn) := G7.out.blk.cell 0 (by simp); clear hr hb)
    | (refine step_appo rfl (.tmp 13) (.tmp 14) rfl (w.heap.size + 1) (some ⟨w.heap.size + 1, 0, none⟩) 6 [1, 4, 0, 1, 0, 1] G7.out.own 6 rfl rfl _ 2 2 [65, 4] Y7.out rfl rfl 8 rfl (by omega) G7.out.hB ?_; intro p6 cap6 w8 hO8 hB8 hG8; have GZ := Lib.hid (G7.out.app hO8.out hB8.out); have RZ := Lib.hid ((R7.out.grown (r := w.heap.size + 1) (by have := HSV.out; omega) hG8.out.1).bytes (putL_byte asn 4)); have cZ : w8.cell? ⟨w.heap.size, 0, none⟩ = some (.int .i64 asn) := GZ.out.blk.cell 0 (by simp))
    | (go_at_call 27; (with_reducible refine (rput_new asn 4 4 rfl _ (by omega) (by omega) F1.out).mono ?_); rintro e w7 ⟨rfl, hr, hb⟩; have G7 := Lib.hid (GV.out.next ((Below.refl _ _).drew.trans hb)); have R7 := Lib.hid (show BRow w7 V.heap.size (putL asn 4) from hr); have cZ : w7.cell? ⟨w.heap.size, 0, none⟩ = some (.int .i64 asn) := G7.out.blk.cell 0 (by simp); clear hr hb)
    | (refine step_appo rfl (.tmp 13) (.tmp 14) rfl (w.heap.size + 1) (some ⟨w.heap.size + 1, 0, none⟩) 6 [1, 4, 0, 1, 0, 1] (G7.out.next (new_below _ _)).own 6 rfl rfl _ 2 2 [65, 4] (NL w7).out rfl rfl 8 rfl (by omega) (G7.out.next (new_below _ _)).hB ?_; intro p6 cap6 w8 hO8 hB8 hG8; have GZ := Lib.hid ((G7.out.next (new_below w7 (.cells #[.int .u8 65, .int .u8 4] 5))).app hO8.out hB8.out); have RZ := Lib.hid (((R7.out.below (new_below w7 (.cells #[.int .u8 65, .int .u8 4] 5))).grown (r := w.heap.size + 1) (by have := HSV.out; omega) hG8.out.1).bytes (putL_byte asn 4)); have cZ : w8.cell? ⟨w.heap.size, 0, none⟩ = some (.int .i64 asn) := GZ.out.blk.cell 0 (by simp))
    | (refine step_appo rfl (.tmp 15) (.tmp 18) rfl (w.heap.size + 1) p6 cap6 ([1, 4, 0, 1, 0, 1] ++ [65, 4]) GZ.out.own 8 rfl rfl _ 4 4 (putL asn 4) RZ.out (putL_len ..) rfl 12 rfl (by omega) GZ.out.hB ?_; intro qz capz wz hOz hBz hGz; have G9 := Lib.hid (GZ.out.app hOz.out hBz.out); have c9 : wz.cell? ⟨w.heap.size, 0, none⟩ = some (.int .i64 asn) := G9.out.blk.cell 0 (by simp)))
  all_goals
    have c1 := G9.out.blk.cell 1 (by simp)
    have c2 := G9.out.blk.cell 2 (by simp)
    have c4 := G9.out.blk.cell 4 (by simp)
    have c0 := G9.out.blk.cell 0 (by simp)
    have HGN := Lib.hid (G9.out.next (new_below wz (.cells #[.int .u8 69, .int .u8 4, .int .u8 0, .int .u8 1, .int .u8 1, .int .u8 paths] 5)))
    have HYN := Lib.hid (lit6 wz 69 4 0 1 1 paths (inByte_all fun x hx => by simp at hx; omega))
    go_wp2_with (refine wpList_appo (o := ⟨some 28, _, _, _, _, _⟩) (by rfl) (.tmp 23) (.tmp 27) (by rfl) (w.heap.size + 1) qz capz ([1, 4, 0, 1, 0, 1] ++ [65, 4] ++ putL asn 4) HGN.out.own 12 (by simp [putL_len]) (by rfl) _ 6 6 [69, 4, 0, 1, 1, paths] HYN.out (by rfl) (by rfl) 18 (by rfl) (by omega) HGN.out.hB ?_; intro qa capa wa hOa hBa hGa; have GA := Lib.hid (HGN.out.app hOa.out hBa.out); have d1 := GA.out.blk.cell 1 (by simp); have d2 := GA.out.blk.cell 2 (by simp))
    have X3 := Lib.hid (show GrowSt wa wa.heap.size w.heap.size 24 [.int .i64 asn, .int .i64 hold, .int .u32 id, .bool true, .int .i64 paths] (wa.alloc (.cells #[.int .u8 4] 5)) (some ⟨wa.heap.size, 0, none⟩) 1 [4] from ⟨Own.lit wa wa.heap.size [4] (inByte_all (by decide)) (by simp) (Nat.le_refl _), GA.out.blk.next (new_below _ _), new_below _ _, GA.out.blk.lt, by simp⟩)
    have YC := Lib.hid GA.out.own.bytes
    have HB3 := Lib.hid (H1.out.trans (GA.out.bel.mono (by omega)))
    have SB := Lib.hid (show w.heap.size ≤ wa.heap.size by have := GA.out.hB; omega)
    (with_reducible refine (rput_new 23456 2 2 rfl _ (by omega) (by omega) F2.out).mono ?_); rintro e x4 ⟨rfl, hr, hb⟩
    rw [sz_alloc] at hr
    have X4 := Lib.hid (X3.out.next hb)
    have Y4 := Lib.hid (hr.bytes (putL_byte _ _))
    clear hr hb
    go_wp2_with (refine wpList_appo (o := ⟨some 32, _, _, _, _, _⟩) (by rfl) (.tmp 29) (.tmp 31) (by rfl) wa.heap.size (some ⟨wa.heap.size, 0, none⟩) 1 [4] X4.out.own 1 (by rfl) (by rfl) _ 2 2 _ Y4.out (putL_len ..) (by rfl) 3 (by rfl) (by omega) X4.out.hB ?_; intro q5 cq5 x5 hO5 hB5 hG5; have X5 := Lib.hid (X4.out.app hO5.out hB5.out); have e1 := X5.out.blk.cell 1 (by simp))
    clear hO5 hB5 hG5
    (with_reducible refine (rput_new hold 2 2 rfl _ (by omega) (by omega) F3.out).mono ?_); rintro e x6 ⟨rfl, hr, hb⟩
    have X6 := Lib.hid (X5.out.next hb)
    have Y6 := Lib.hid (hr.bytes (putL_byte _ _))
    clear hr hb e1
    go_wp2_with (refine wpList_appo (o := ⟨some 37, _, _, _, _, _⟩) (by rfl) (.tmp 33) (.tmp 36) (by rfl) wa.heap.size q5 cq5 ([4] ++ putL 23456 2) X6.out.own 3 (by simp [putL_len]) (by rfl) _ 2 2 _ Y6.out (putL_len ..) (by rfl) 5 (by rfl) (by omega) X6.out.hB ?_; intro q7 cq7 x7 hO7 hB7 hG7; have X7 := Lib.hid (X6.out.app hO7.out hB7.out); have e2 := X7.out.blk.cell 2 (by simp))
    clear hO7 hB7 hG7
    (with_reducible refine (rput_new id 4 4 rfl _ (by omega) (by omega) F4.out).mono ?_); rintro e x8 ⟨rfl, hr, hb⟩
    have X8 := Lib.hid (X7.out.next hb)
    have Y8 := Lib.hid (hr.bytes (putL_byte _ _))
    clear hr hb e2
    go_wp2_with (first
      | (refine wpList_appo (o := ⟨some 43, _, _, _, _, _⟩) (by rfl) (.tmp 38) (.tmp 42) (by rfl) wa.heap.size q7 cq7 ([4] ++ putL 23456 2 ++ putL hold 2) X8.out.own 5 (by simp [putL_len]) (by rfl) _ 4 4 _ Y8.out (putL_len ..) (by rfl) 9 (by rfl) (by omega) X8.out.hB ?_; intro q9 cq9 x9 hO9 hB9 hG9; have X9 := Lib.hid (X8.out.app hO9.out hB9.out); have Y9 := Lib.hid (lit3 x9 20 2 18 (inByte_all (by decide))); have X9' := Lib.hid (X9.out.next (new_below _ (.cells #[.int .u8 20, .int .u8 2, .int .u8 18] 5))))
      | (refine wpList_appo (o := ⟨some 53, _, _, _, _, _⟩) (by rfl) (.tmp 44) (.tmp 52) (by rfl) wa.heap.size q9 cq9 ([4] ++ putL 23456 2 ++ putL hold 2 ++ putL id 4) X9'.out.own 9 (by simp [putL_len]) (by rfl) _ 3 3 [20, 2, 18] Y9.out (by rfl) (by rfl) 12 (by rfl) (by omega) X9'.out.hB ?_; intro q10 cq10 x10 hO10 hB10 hG10; have X10 := Lib.hid (X9'.out.app hO10.out hB10.out); have Y10 := Lib.hid (YC.out.below X10.out.bel))
      | (refine wpList_appo (o := ⟨some 55, _, _, _, _, _⟩) (by rfl) (.tmp 53) (.tmp 54) (by rfl) wa.heap.size q10 cq10 (([4] ++ putL 23456 2 ++ putL hold 2 ++ putL id 4) ++ [20, 2, 18]) X10.out.own 12 (by simp [putL_len]) (by rfl) qa 18 capa (([1, 4, 0, 1, 0, 1] ++ [65, 4] ++ putL asn 4) ++ [69, 4, 0, 1, 1, paths]) Y10.out (by first | rfl | simp [putL_len]) (by rfl) 30 (by rfl) (by omega) X10.out.hB ?_; intro q11 cq11 x11 hO11 hB11 hG11; have X11 := Lib.hid (X10.out.app hO11.out hB11.out)))
    have hcl : ((([1, 4, 0, 1, 0, 1] ++ [65, 4] ++ putL asn 4) ++ [69, 4, 0, 1, 1, paths]) : List Int).length = 18 := by first | rfl | simp [putL_len]
    have hfin : po = ([4] ++ putL 23456 2 ++ putL hold 2 ++ putL id 4) ++ [20, 2, 18] ++ (([1, 4, 0, 1, 0, 1] ++ [65, 4] ++ putL asn 4) ++ [69, 4, 0, 1, 1, paths]) := by rw [HP.out, HC.out, HSH.out, hcl]; rfl
    have hlen : po.length = 30 := by rw [hfin]; simp [putL_len]
    go_ret
    exact ⟨q11, cq11, by rw [hlen]; rfl, by rw [hfin]; exact X11.out.own.mono SB.out, HB3.out.trans (X11.out.bel.mono SB.out)⟩

theorem rput_any (asn hold id paths : Int) (four : Bool) (w : World) (hk : okO ⟨asn, hold, id, four, paths⟩ = true) (i0 : 0 ≤ id) (i1 : id ≤ 4294967295) :
    Calls Tryd.prog 10 #[.agg #[.int .i64 asn, .int .i64 hold, .int .u32 id, .bool four, .int .i64 paths]] w fun e w' => RetB w w' (putO ⟨asn, hold, id, four, paths⟩) e := by
  have hf := okO_fit hk i0 i1
  have hm := (okO_yes hk).2.1
  simp only at hm
  by_cases hb : 65535 < asn
  · rcases h4 : four with _ | _
    · rw [h4] at hm; simp [mostAS] at hm; omega
    · rw [h4] at hf
      by_cases hp : paths = 0
      · exact rp_bfn asn hold id paths true w hf hb rfl hp
      · exact rp_bfp asn hold id paths true w hf hb rfl hp
  · rcases h4 : four with _ | _
    · rw [h4] at hf
      by_cases hp : paths = 0
      · exact rp_snn asn hold id paths false w hf (by omega) rfl hp
      · exact rp_snp asn hold id paths false w hf (by omega) rfl hp
    · rw [h4] at hf
      by_cases hp : paths = 0
      · exact rp_sfn asn hold id paths true w hf (by omega) rfl hp
      · exact rp_sfp asn hold id paths true w hf (by omega) rfl hp
end Go.Proofs.YthpadbeilecpeaaDoor
