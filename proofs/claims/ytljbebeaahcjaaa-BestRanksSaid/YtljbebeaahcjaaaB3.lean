/- best: how a route stands. -/
import Derived.Test.YtljbebeaahcjaaaB2
namespace Go.Proofs.Ytljbebeaahcjaaa
open Go.RowKit Go.Maps Go.Sort
set_option linter.unusedVariables false
set_option linter.unusedSimpArgs false
set_option maxRecDepth 100000

theorem Blk.nine {w : World} {P : Nat} {t : TypeId} {u0 u1 u2 u3 u4 u5 u6 u7 u8 : Value} (h : Blk w P t [u0, u1, u2, u3, u4, u5, u6, u7, u8]) (a b c d e f g i j : Value) :
    Blk (((((((((w.setCell ⟨P, 0, none⟩ a).setCell ⟨P, 1, none⟩ b).setCell ⟨P, 2, none⟩ c).setCell ⟨P, 3, none⟩ d).setCell ⟨P, 4, none⟩ e).setCell ⟨P, 5, none⟩ f).setCell ⟨P, 6, none⟩ g).setCell ⟨P, 7, none⟩ i).setCell ⟨P, 8, none⟩ j) P t [a, b, c, d, e, f, g, i, j] := ((((((((h.set 0 a).set 1 b).set 2 c).set 3 d).set 4 e).set 5 f).set 6 g).set 7 i).set 8 j
theorem below_nine {B : Nat} {w0 w : World} {P : Nat} (h : Below B w0 w) (hP : B ≤ P) (a b c d e f g i j : Value) :
    Below B w0 (((((((((w.setCell ⟨P, 0, none⟩ a).setCell ⟨P, 1, none⟩ b).setCell ⟨P, 2, none⟩ c).setCell ⟨P, 3, none⟩ d).setCell ⟨P, 4, none⟩ e).setCell ⟨P, 5, none⟩ f).setCell ⟨P, 6, none⟩ g).setCell ⟨P, 7, none⟩ i).setCell ⟨P, 8, none⟩ j) :=
  ((((((((h.setCell (p := ⟨P, 0, none⟩) hP _).setCell (p := ⟨P, 1, none⟩) hP _).setCell (p := ⟨P, 2, none⟩) hP _).setCell (p := ⟨P, 3, none⟩) hP _).setCell (p := ⟨P, 4, none⟩) hP _).setCell (p := ⟨P, 5, none⟩) hP _).setCell (p := ⟨P, 6, none⟩) hP _).setCell (p := ⟨P, 7, none⟩) hP _).setCell (p := ⟨P, 8, none⟩) hP _
def standV (pl : Int) (y : Rv) : St := ⟨pl, keyV 0 y, keyV 1 y, keyV 2 y, firstL y.x.L, keyV 3 y, keyV 4 y, keyV 5 y, pl⟩
set_option maxHeartbeats 16000000 in
theorem stand_any (w : World) (b o : Nat) (y : Rv) (h : RvHere w b o y) (pl : Int) (hlen : lenL y.x.L ≤ 1000000) :
    Calls Try.prog 19 #[.int .i64 pl, .pointer (some ⟨b, o, none⟩)] w fun e w' => e = .returned (stV (standV pl y)) ∧ Below w.heap.size w w' := by
  have H0 := Lib.hid (fun (u : World) (hu : Below w.heap.size w u) => look0_any u b o y (h.below hu))
  have H1 := Lib.hid (fun (u : World) (hu : Below w.heap.size w u) => look1_any u b o y (h.below hu) hlen)
  have H2 := Lib.hid (fun (u : World) (hu : Below w.heap.size w u) => look2_any u b o y (h.below hu))
  have H3 := Lib.hid (fun (u : World) (hu : Below w.heap.size w u) => look3_any u b o y (h.below hu))
  have H4 := Lib.hid (fun (u : World) (hu : Below w.heap.size w u) => look4_any u b o y (h.below hu))
  have H5 := Lib.hid (fun (u : World) (hu : Below w.heap.size w u) => look5_any u b o y (h.below hu))
  have HF := Lib.hid (fun (u : World) (hu : Below w.heap.size w u) => first_any u y.x (h.below hu).ao)
  have HST := Lib.hid (show standV pl y = ⟨pl, keyV 0 y, keyV 1 y, keyV 2 y, firstL y.x.L, keyV 3 y, keyV 4 y, keyV 5 y, pl⟩ from rfl)
  rw [HST.out]
  obtain ⟨t0, ht0⟩ : ∃ t, keyV 0 y = t := ⟨_, rfl⟩
  obtain ⟨t1, ht1⟩ : ∃ t, keyV 1 y = t := ⟨_, rfl⟩
  obtain ⟨t2, ht2⟩ : ∃ t, keyV 2 y = t := ⟨_, rfl⟩
  obtain ⟨md, hmd⟩ : ∃ t, keyV 3 y = t := ⟨_, rfl⟩
  obtain ⟨u0, hu0⟩ : ∃ t, keyV 4 y = t := ⟨_, rfl⟩
  obtain ⟨u1, hu1⟩ : ∃ t, keyV 5 y = t := ⟨_, rfl⟩
  obtain ⟨fa, hfa⟩ : ∃ t, firstL y.x.L = t := ⟨_, rfl⟩
  rw [ht0] at H0 ⊢
  rw [ht1] at H1 ⊢
  rw [ht2] at H2 ⊢
  rw [hmd] at H3 ⊢
  rw [hu0] at H4 ⊢
  rw [hu1] at H5 ⊢
  rw [hfa] at HF ⊢
  have hb0 := newB w (.cells #[.int .i64 0, .int .i64 0, .int .i64 0, .int .i64 0, .int .i64 0, .int .i64 0, .int .i64 0, .int .i64 0, .int .i64 0] 57)
  have hR := Blk.new w 57 [.int .i64 0, .int .i64 0, .int .i64 0, .int .i64 0, .int .i64 0, .int .i64 0, .int .i64 0, .int .i64 0, .int .i64 0]
  obtain ⟨V, hV⟩ : ∃ V, w.alloc (.cells #[.int .i64 0, .int .i64 0, .int .i64 0, .int .i64 0, .int .i64 0, .int .i64 0, .int .i64 0, .int .i64 0, .int .i64 0] 57) = V := ⟨_, rfl⟩
  obtain ⟨P, hP⟩ : ∃ P, w.heap.size = P := ⟨_, rfl⟩
  have HHW := Lib.hid (show RvHere (w.alloc (.cells #[.int .i64 0, .int .i64 0, .int .i64 0, .int .i64 0, .int .i64 0, .int .i64 0, .int .i64 0, .int .i64 0, .int .i64 0] 57)) b o y from h.below hb0)
  have c4 := HHW.out.c4; have c5 := HHW.out.c5; have c6 := HHW.out.c6; have c7 := HHW.out.c7; have c8 := HHW.out.c8; have c9 := HHW.out.c9
  have HR := Lib.hid (show Blk V P 57 [.int .i64 0, .int .i64 0, .int .i64 0, .int .i64 0, .int .i64 0, .int .i64 0, .int .i64 0, .int .i64 0, .int .i64 0] from by rw [← hV, ← hP]; exact hR)
  have HB0 := Lib.hid (show Below w.heap.size w V from hV ▸ hb0)
  have HVE := Lib.hid hV
  have HPE := Lib.hid hP
  clear hb0 hR hV hP h ht0 ht1 ht2 hmd hu0 hu1 hfa HST
  go_enter Try.func19, Try.ntmps19
  go_wp2_with fail
  rw [HVE.out, HPE.out]
  refine (HF.out V HB0.out).mono ?_
  rintro e U1 ⟨rfl, hb1⟩
  have HB1 := Lib.hid (HB0.out.trans (hb1.mono HB0.out.size))
  have HR1 := Lib.hid (HR.out.next hb1)
  clear hb1 c4 c5 c6 c7 c8 c9
  go_wp2_with fail
  refine (H3.out U1 HB1.out).mono ?_
  rintro e U2 ⟨rfl, rfl⟩
  have hb2 := newB U1 (.cells #[.int .i64 pl, .int .i64 0, .int .i64 0, .int .i64 0, .int .i64 fa, .int .i64 md, .int .i64 0, .int .i64 0, .int .i64 0] 57)
  have hQ := Blk.new U1 57 [.int .i64 pl, .int .i64 0, .int .i64 0, .int .i64 0, .int .i64 fa, .int .i64 md, .int .i64 0, .int .i64 0, .int .i64 0]
  obtain ⟨Z, hZ⟩ : ∃ Z, U1.alloc (.cells #[.int .i64 pl, .int .i64 0, .int .i64 0, .int .i64 0, .int .i64 fa, .int .i64 md, .int .i64 0, .int .i64 0, .int .i64 0] 57) = Z := ⟨_, rfl⟩
  obtain ⟨Q, hQE⟩ : ∃ Q, U1.heap.size = Q := ⟨_, rfl⟩
  rw [hZ] at hb2 hQ
  rw [hQE] at hQ
  have HQ := Lib.hid (show w.heap.size ≤ Q from by have := HB1.out.size; omega)
  have HPQ := Lib.hid (show P < Q from by have := HR1.out.lt; omega)
  have HZE := Lib.hid hZ
  have HQE := Lib.hid hQE
  have HBZ := Lib.hid (HB1.out.trans (hb2.mono HB1.out.size))
  have HRZ := Lib.hid (HR1.out.next hb2)
  have HQZ := Lib.hid hQ
  clear hb2 hQ hZ hQE
  go_wp2_with fail
  rw [HZE.out, HQE.out]
  refine (ahead_any _).mono ?_
  rintro e Y ⟨rfl, hb3⟩
  have HBY := Lib.hid (HBZ.out.trans (hb3.mono HBZ.out.size))
  have HQY := Lib.hid (HQZ.out.next hb3)
  have HRY := Lib.hid (HRZ.out.next hb3)
  clear hb3
  go_wp2_with fail
  go_loopw [20] (fun iv wr => (iv = .int .i64 0 ∧ Hid (Blk wr Q 57 [.int .i64 pl, .int .i64 0, .int .i64 0, .int .i64 0, .int .i64 fa, .int .i64 md, .int .i64 0, .int .i64 0, .int .i64 0]) ∧ Hid (Below w.heap.size w wr) ∧ Hid (Blk wr P 57 [.int .i64 0, .int .i64 0, .int .i64 0, .int .i64 0, .int .i64 0, .int .i64 0, .int .i64 0, .int .i64 0, .int .i64 0])) ∨ (iv = .int .i64 1 ∧ Hid (Blk wr Q 57 [.int .i64 pl, .int .i64 t0, .int .i64 0, .int .i64 0, .int .i64 fa, .int .i64 md, .int .i64 0, .int .i64 0, .int .i64 0]) ∧ Hid (Below w.heap.size w wr) ∧ Hid (Blk wr P 57 [.int .i64 0, .int .i64 0, .int .i64 0, .int .i64 0, .int .i64 0, .int .i64 0, .int .i64 0, .int .i64 0, .int .i64 0])) ∨ (iv = .int .i64 2 ∧ Hid (Blk wr Q 57 [.int .i64 pl, .int .i64 t0, .int .i64 t1, .int .i64 0, .int .i64 fa, .int .i64 md, .int .i64 0, .int .i64 0, .int .i64 0]) ∧ Hid (Below w.heap.size w wr) ∧ Hid (Blk wr P 57 [.int .i64 0, .int .i64 0, .int .i64 0, .int .i64 0, .int .i64 0, .int .i64 0, .int .i64 0, .int .i64 0, .int .i64 0])) ∨ (iv = .int .i64 3 ∧ Hid (Blk wr Q 57 [.int .i64 pl, .int .i64 t0, .int .i64 t1, .int .i64 t2, .int .i64 fa, .int .i64 md, .int .i64 0, .int .i64 0, .int .i64 0]) ∧ Hid (Below w.heap.size w wr) ∧ Hid (Blk wr P 57 [.int .i64 0, .int .i64 0, .int .i64 0, .int .i64 0, .int .i64 0, .int .i64 0, .int .i64 0, .int .i64 0, .int .i64 0]))) (fun iv _ => 3 - (intOf iv).toNat)
  case atStart => exact .inl ⟨rfl, HQY, HBY, HRY⟩
  case round =>
    rcases hrel with ⟨rfl, HBl, HBw, HRr⟩ | ⟨rfl, HBl, HBw, HRr⟩ | ⟨rfl, HBl, HBw, HRr⟩ | ⟨rfl, HBl, HBw, HRr⟩
    · have hix := run_idx0
      have hf := HBl.out.f 1
      have hcl := HBl.out.cell 1 (by simp)
      simp only [List.getD_cons_zero, List.getD_cons_succ] at hcl
      go_wp2_with (go_at_call 43; refine (H0.out _ HBw.out).mono ?_; rintro e u ⟨rfl, hb⟩; have HBl := Lib.hid (HBl.out.next hb); have HRr := Lib.hid (HRr.out.next hb); have HBw := Lib.hid (HBw.out.trans (hb.mono HBw.out.size)); have hf := HBl.out.f 1; have hcl := HBl.out.cell 1 (by simp); simp only [List.getD_cons_zero, List.getD_cons_succ] at hcl; clear hb)
      go_roundw
      case rel => exact .inr (.inl ⟨by first | rfl | go_num, Lib.hid (HBl.out.set 1 (.int .i64 t0)), Lib.hid (HBw.out.setCell (p := ⟨Q, 1, none⟩) (by have := HQ.out; omega) _), Lib.hid (HRr.out.of_same (Below.heap_setCell _ _ _ _ (by have := HPQ.out; show P ≠ Q; omega)))⟩)
      case measure => simp [intOf]
    · have hix := run_idx1
      have hf := HBl.out.f 2
      have hcl := HBl.out.cell 2 (by simp)
      simp only [List.getD_cons_zero, List.getD_cons_succ] at hcl
      go_wp2_with (go_at_call 44; refine (H1.out _ HBw.out).mono ?_; rintro e u ⟨rfl, hb⟩; have HBl := Lib.hid (HBl.out.next hb); have HRr := Lib.hid (HRr.out.next hb); have HBw := Lib.hid (HBw.out.trans (hb.mono HBw.out.size)); have hf := HBl.out.f 2; have hcl := HBl.out.cell 2 (by simp); simp only [List.getD_cons_zero, List.getD_cons_succ] at hcl; clear hb)
      go_roundw
      case rel => exact .inr (.inr (.inl ⟨by first | rfl | go_num, Lib.hid (HBl.out.set 2 (.int .i64 t1)), Lib.hid (HBw.out.setCell (p := ⟨Q, 2, none⟩) (by have := HQ.out; omega) _), Lib.hid (HRr.out.of_same (Below.heap_setCell _ _ _ _ (by have := HPQ.out; show P ≠ Q; omega)))⟩))
      case measure => simp [intOf]
    · have hix := run_idx2
      have hf := HBl.out.f 3
      have hcl := HBl.out.cell 3 (by simp)
      simp only [List.getD_cons_zero, List.getD_cons_succ] at hcl
      go_wp2_with (go_at_call 46; refine (H2.out _ HBw.out).mono ?_; rintro e u ⟨rfl, hb⟩; have HBl := Lib.hid (HBl.out.next hb); have HRr := Lib.hid (HRr.out.next hb); have HBw := Lib.hid (HBw.out.trans (hb.mono HBw.out.size)); have hf := HBl.out.f 3; have hcl := HBl.out.cell 3 (by simp); simp only [List.getD_cons_zero, List.getD_cons_succ] at hcl; clear hb)
      go_roundw
      case rel => exact .inr (.inr (.inr (⟨by first | rfl | go_num, Lib.hid (HBl.out.set 3 (.int .i64 t2)), Lib.hid (HBw.out.setCell (p := ⟨Q, 3, none⟩) (by have := HQ.out; omega) _), Lib.hid (HRr.out.of_same (Below.heap_setCell _ _ _ _ (by have := HPQ.out; show P ≠ Q; omega)))⟩)))
      case measure => simp [intOf]
    · go_wp2_with fail
      refine (behind_any _).mono ?_
      rintro e Y2 ⟨rfl, hb3⟩
      have HBY2 := Lib.hid (HBw.out.trans (hb3.mono HBw.out.size))
      have HQY2 := Lib.hid (HBl.out.next hb3)
      have HRY2 := Lib.hid (HRr.out.next hb3)
      clear hb3
      go_wp2_with fail
      go_loopw [32] (fun iv wr => (iv = .int .i64 0 ∧ Hid (Blk wr Q 57 [.int .i64 pl, .int .i64 t0, .int .i64 t1, .int .i64 t2, .int .i64 fa, .int .i64 md, .int .i64 0, .int .i64 0, .int .i64 0]) ∧ Hid (Below w.heap.size w wr) ∧ Hid (Blk wr P 57 [.int .i64 0, .int .i64 0, .int .i64 0, .int .i64 0, .int .i64 0, .int .i64 0, .int .i64 0, .int .i64 0, .int .i64 0])) ∨ (iv = .int .i64 1 ∧ Hid (Blk wr Q 57 [.int .i64 pl, .int .i64 t0, .int .i64 t1, .int .i64 t2, .int .i64 fa, .int .i64 md, .int .i64 u0, .int .i64 0, .int .i64 0]) ∧ Hid (Below w.heap.size w wr) ∧ Hid (Blk wr P 57 [.int .i64 0, .int .i64 0, .int .i64 0, .int .i64 0, .int .i64 0, .int .i64 0, .int .i64 0, .int .i64 0, .int .i64 0])) ∨ (iv = .int .i64 2 ∧ Hid (Blk wr Q 57 [.int .i64 pl, .int .i64 t0, .int .i64 t1, .int .i64 t2, .int .i64 fa, .int .i64 md, .int .i64 u0, .int .i64 u1, .int .i64 0]) ∧ Hid (Below w.heap.size w wr) ∧ Hid (Blk wr P 57 [.int .i64 0, .int .i64 0, .int .i64 0, .int .i64 0, .int .i64 0, .int .i64 0, .int .i64 0, .int .i64 0, .int .i64 0]))) (fun iv _ => 2 - (intOf iv).toNat)
      case atStart => exact .inl ⟨rfl, HQY2, HBY2, HRY2⟩
      case round =>
        rcases hrel with ⟨rfl, HBl, HBw, HRr⟩ | ⟨rfl, HBl, HBw, HRr⟩ | ⟨rfl, HBl, HBw, HRr⟩
        · have hix := run_idxB0
          have hf := HBl.out.f 6
          have hcl := HBl.out.cell 6 (by simp)
          simp only [List.getD_cons_zero, List.getD_cons_succ] at hcl
          go_wp2_with (go_at_call 29; refine (H4.out _ HBw.out).mono ?_; rintro e u ⟨rfl, hb⟩; have HBl := Lib.hid (HBl.out.next hb); have HRr := Lib.hid (HRr.out.next hb); have HBw := Lib.hid (HBw.out.trans (hb.mono HBw.out.size)); have hf := HBl.out.f 6; have hcl := HBl.out.cell 6 (by simp); simp only [List.getD_cons_zero, List.getD_cons_succ] at hcl; clear hb)
          go_roundw
          case rel => exact .inr (.inl ⟨by first | rfl | go_num, Lib.hid (HBl.out.set 6 (.int .i64 u0)), Lib.hid (HBw.out.setCell (p := ⟨Q, 6, none⟩) (by have := HQ.out; omega) _), Lib.hid (HRr.out.of_same (Below.heap_setCell _ _ _ _ (by have := HPQ.out; show P ≠ Q; omega)))⟩)
          case measure => simp [intOf]
        · have hix := run_idxB1
          have hf := HBl.out.f 7
          have hcl := HBl.out.cell 7 (by simp)
          simp only [List.getD_cons_zero, List.getD_cons_succ] at hcl
          go_wp2_with (go_at_call 30; refine (H5.out _ HBw.out).mono ?_; rintro e u ⟨rfl, hb⟩; have HBl := Lib.hid (HBl.out.next hb); have HRr := Lib.hid (HRr.out.next hb); have HBw := Lib.hid (HBw.out.trans (hb.mono HBw.out.size)); have hf := HBl.out.f 7; have hcl := HBl.out.cell 7 (by simp); simp only [List.getD_cons_zero, List.getD_cons_succ] at hcl; clear hb)
          go_roundw
          case rel => exact .inr (.inr (⟨by first | rfl | go_num, Lib.hid (HBl.out.set 7 (.int .i64 u1)), Lib.hid (HBw.out.setCell (p := ⟨Q, 7, none⟩) (by have := HQ.out; omega) _), Lib.hid (HRr.out.of_same (Below.heap_setCell _ _ _ _ (by have := HPQ.out; show P ≠ Q; omega)))⟩))
          case measure => simp [intOf]
        · have hb8 := HBw.out.setCell (p := ⟨Q, 8, none⟩) (by have := HQ.out; omega) (.int .i64 pl)
          have hQ8 := HBl.out.set 8 (.int .i64 pl)
          have hR8 := HRr.out.of_same (Below.heap_setCell wr ⟨Q, 8, none⟩ (.int .i64 pl) P (by have := HPQ.out; show P ≠ Q; omega))
          have hf := HBl.out.f 8
          have hcl := HBl.out.cell 8 (by simp)
          simp only [List.getD_cons_zero, List.getD_cons_succ] at hcl
          obtain ⟨X, hX⟩ : ∃ X, wr.setCell ⟨Q, 8, none⟩ (.int .i64 pl) = X := ⟨_, rfl⟩
          rw [hX] at hb8 hQ8 hR8
          have hQ8 : Blk X Q 57 [.int .i64 pl, .int .i64 t0, .int .i64 t1, .int .i64 t2, .int .i64 fa, .int .i64 md, .int .i64 u0, .int .i64 u1, .int .i64 pl] := hQ8
          have HX := Lib.hid hX
          have HB8 := Lib.hid hb8
          have HR8 := Lib.hid hR8
          have HQ8 := Lib.hid hQ8
          clear hX hb8 hR8 hQ8
          have q0 := HQ8.out.cell 0 (by simp); have q1 := HQ8.out.cell 1 (by simp); have q2 := HQ8.out.cell 2 (by simp); have q3 := HQ8.out.cell 3 (by simp); have q4 := HQ8.out.cell 4 (by simp); have q5 := HQ8.out.cell 5 (by simp); have q6 := HQ8.out.cell 6 (by simp); have q7 := HQ8.out.cell 7 (by simp); have q8 := HQ8.out.cell 8 (by simp)
          have r0 := HR8.out.cell 0 (by simp); have r1 := HR8.out.cell 1 (by simp); have r2 := HR8.out.cell 2 (by simp); have r3 := HR8.out.cell 3 (by simp); have r4 := HR8.out.cell 4 (by simp); have r5 := HR8.out.cell 5 (by simp); have r6 := HR8.out.cell 6 (by simp); have r7 := HR8.out.cell 7 (by simp); have r8 := HR8.out.cell 8 (by simp)
          have f0 := HR8.out.f 0; have f1 := HR8.out.f 1; have f2 := HR8.out.f 2; have f3 := HR8.out.f 3; have f4 := HR8.out.f 4; have f5 := HR8.out.f 5; have f6 := HR8.out.f 6; have f7 := HR8.out.f 7; have f8 := HR8.out.f 8
          simp only [List.getD_cons_zero, List.getD_cons_succ] at q0 q1 q2 q3 q4 q5 q6 q7 q8 r0 r1 r2 r3 r4 r5 r6 r7 r8
          rw [← HX.out] at q0 q1 q2 q3 q4 q5 q6 q7 q8 r0 r1 r2 r3 r4 r5 r6 r7 r8 f0 f1 f2 f3 f4 f5 f6 f7 f8
          go_wp2_with fail
          rw [HX.out]
          have HE := Blk.nine HR8.out (.int .i64 pl) (.int .i64 t0) (.int .i64 t1) (.int .i64 t2) (.int .i64 fa) (.int .i64 md) (.int .i64 u0) (.int .i64 u1) (.int .i64 pl)
          have e0 := HE.cell 0 (by simp); have e1 := HE.cell 1 (by simp); have e2 := HE.cell 2 (by simp); have e3 := HE.cell 3 (by simp); have e4 := HE.cell 4 (by simp); have e5 := HE.cell 5 (by simp); have e6 := HE.cell 6 (by simp); have e7 := HE.cell 7 (by simp); have e8 := HE.cell 8 (by simp)
          simp only [List.getD_cons_zero, List.getD_cons_succ] at e0 e1 e2 e3 e4 e5 e6 e7 e8
          exact bodyPost_ret (v := .agg #[.int .i64 pl, .int .i64 t0, .int .i64 t1, .int .i64 t2, .int .i64 fa, .int .i64 md, .int .i64 u0, .int .i64 u1, .int .i64 pl]) (by simp [results, Try.results19, go_sem, e0, e1, e2, e3, e4, e5, e6, e7, e8]) rfl ⟨rfl, below_nine HB8.out (by rw [HPE.out]; omega) _ _ _ _ _ _ _ _ _⟩
end Go.Proofs.Ytljbebeaahcjaaa
