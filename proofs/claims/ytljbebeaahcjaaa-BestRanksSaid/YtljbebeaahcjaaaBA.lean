/- best: what lives says. -/
import Derived.Test.YtljbebeaahcjaaaB9
import Derived.Test.YtljbebeaahcjaaaJN
namespace Go.Proofs.Ytljbebeaahcjaaa
open Go.RowKit Go.Maps Go.Sort Go.Shelf
set_option linter.unusedVariables false
set_option linter.unusedSimpArgs false
set_option maxRecDepth 100000
def mkX (a : Int) (g1 g2 : Nat) (md pf : Int) : Ao := ⟨0, some ⟨g2, 0, none⟩, 1, 1, [⟨false, some ⟨g1, 0, none⟩, 1, 1, [a]⟩], 1, md, pf, none, 0, 0, []⟩
theorem slOk_one {a : Addr} {b : Nat} (hb : b ≤ 32) : SlOk (some a) 1 1 b := ⟨Nat.le_refl 1, by unfold maxLen; omega, by omega, fun h => by cases h⟩
theorem slOk_none {b : Nat} : SlOk none 0 0 b := ⟨Nat.le_refl 0, by unfold maxLen; omega, by omega, fun _ => ⟨rfl, rfl⟩⟩
theorem aoAt_mk {w : World} {a md pf : Int} {g1 g2 : Nat} (h1 : Blk w g1 3 [.int .i64 a]) (h2 : Blk w g2 42 [.bool false, .slice (some ⟨g1, 0, none⟩) 1 1]) (ha : InI a) : AoAt w (mkX a g1 g2 md pf) where
  path := ⟨sg_at (rest := []) h2 (fun x hx => by
    obtain rfl := List.mem_singleton.1 hx
    exact ⟨rfl, slOk_one (by omega)⟩), fun x hx => by
    obtain rfl := List.mem_singleton.1 hx
    exact AtBk.at ⟨_, h1, rfl, rfl, Nat.le_refl 1⟩ (fun y hy => by obtain rfl := List.mem_singleton.1 hy; exact ha)⟩
  pl := rfl
  ps := slOk_one (by omega)
  com := LAt.nil _ _ _ _ _ _
  cl := rfl
  cs := slOk_none
  u0 := by show (0 : Int) ≤ 1; decide
  u1 := by show (1 : Int) ≤ 4294967295; decide
set_option maxHeartbeats 4000000 in
theorem said_any (w : World) (a : Int) (ha : InI a) :
    Calls Try.prog 26 #[.int .i64 a, .int .u32 1] w fun e w' => ∃ g1 g2, e = .returned (.agg #[.int .i64 0, .slice (some ⟨g2, 0, none⟩) 1 1, .int .u32 1, .int .i64 (-1), .int .i64 (-1), .slice none 0 0]) ∧ Blk w' g1 3 [.int .i64 a] ∧ Blk w' g2 42 [.bool false, .slice (some ⟨g1, 0, none⟩) 1 1] ∧ Below w.heap.size w w' ∧ w.heap.size ≤ g1 ∧ w.heap.size ≤ g2 := by
  go_enter Try.func26, Try.ntmps26
  go_wp2_with fail
  have hb1 := newB w (.cells #[.int .i64 0, .slice (some ⟨w.heap.size + 1 + 1, 0, none⟩) 1 1, .int .u32 1, .int .i64 (-1), .int .i64 (-1), .slice none 0 0] 33)
  have hs1 : (w.alloc (.cells #[.int .i64 0, .slice (some ⟨w.heap.size + 1 + 1, 0, none⟩) 1 1, .int .u32 1, .int .i64 (-1), .int .i64 (-1), .slice none 0 0] 33)).heap.size = w.heap.size + 1 := sz_alloc _ _
  have H0 := Lib.hid (Blk.new w 33 [.int .i64 0, .slice (some ⟨w.heap.size + 1 + 1, 0, none⟩) 1 1, .int .u32 1, .int .i64 (-1), .int .i64 (-1), .slice none 0 0])
  generalize hA : w.alloc (.cells #[.int .i64 0, .slice (some ⟨w.heap.size + 1 + 1, 0, none⟩) 1 1, .int .u32 1, .int .i64 (-1), .int .i64 (-1), .slice none 0 0] 33) = A at *
  have h1 := Blk.new A 3 [.int .i64 a]
  have hb2 := newB A (.cells #[.int .i64 a] 3)
  have hs2 : (A.alloc (.cells #[.int .i64 a] 3)).heap.size = A.heap.size + 1 := sz_alloc _ _
  generalize hB : A.alloc (.cells #[.int .i64 a] 3) = B at *
  have h1 : Blk B (w.heap.size + 1) 3 [.int .i64 a] := by rw [← hs1]; exact h1
  have h2 := Blk.new B 42 [.bool false, .slice (some ⟨w.heap.size + 1, 0, none⟩) 1 1]
  have hb3 := newB B (.cells #[.bool false, .slice (some ⟨w.heap.size + 1, 0, none⟩) 1 1] 42)
  have h2 : Blk (B.alloc (.cells #[.bool false, .slice (some ⟨w.heap.size + 1, 0, none⟩) 1 1] 42)) (w.heap.size + 1 + 1) 42 [.bool false, .slice (some ⟨w.heap.size + 1, 0, none⟩) 1 1] := by rw [show w.heap.size + 1 + 1 = B.heap.size by omega]; exact h2
  have HE := (H0.out.next (hb2.mono (Nat.le_refl _))).next hb3
  have e0 := HE.cell 0 (by simp); have e1 := HE.cell 1 (by simp); have e2 := HE.cell 2 (by simp); have e3 := HE.cell 3 (by simp); have e4 := HE.cell 4 (by simp); have e5 := HE.cell 5 (by simp)
  simp only [List.getD_cons_zero, List.getD_cons_succ] at e0 e1 e2 e3 e4 e5
  exact bodyPost_ret (v := .agg #[.int .i64 0, .slice (some ⟨w.heap.size + 1 + 1, 0, none⟩) 1 1, .int .u32 1, .int .i64 (-1), .int .i64 (-1), .slice none 0 0]) (by simp [results, Try.results26, go_sem, e0, e1, e2, e3, e4, e5]) rfl ⟨w.heap.size + 1, w.heap.size + 1 + 1, rfl, h1.next hb3, h2, (hb1.trans (hb2.mono (by omega))).trans (hb3.mono (by omega)), by omega, by omega⟩
theorem set_far {w : World} {g P k : Nat} {t : TypeId} {vs : List Value} (h : Blk w g t vs) (hn : g ≠ P) (v : Value) : Blk (w.setCell ⟨P, k, none⟩ v) g t vs := h.of_same (Below.heap_setCell w ⟨P, k, none⟩ v g hn)
def mkR (r a : Int) (g1 g2 : Nat) (md pf : Int) : Rv := ⟨r, 0, 0, 0, mkX a g1 g2 md pf⟩
abbrev rvV (y : Rv) : Value := .agg #[.int .i64 y.r, .int .u32 y.a, .int .i64 y.n, .int .i64 y.i, .int .i64 y.x.og, .slice y.x.p1 y.x.n1 y.x.c1, .int .u32 y.x.nx, .int .i64 y.x.md, .int .i64 y.x.pf, .slice y.x.p2 y.x.n2 y.x.c2]
set_option maxHeartbeats 4000000 in
theorem route_any (w : World) (r pf md a : Int) (ha : InI a) :
    Calls Try.prog 12 #[.int .i64 r, .int .i64 pf, .int .i64 md, .int .i64 a] w fun e w' => ∃ g1 g2, e = .returned (rvV (mkR r a g1 g2 md pf)) ∧ AoAt w' (mkX a g1 g2 md pf) ∧ Below w.heap.size w w' := by
  have HS := Lib.hid (fun u => said_any u a ha)
  have hb0 := newB w (.cells #[.int .i64 0, .int .u32 0, .int .i64 0, .int .i64 0, .int .i64 0, .slice none 0 0, .int .u32 0, .int .i64 0, .int .i64 0, .slice none 0 0] 35)
  have hR := Blk.new w 35 [.int .i64 0, .int .u32 0, .int .i64 0, .int .i64 0, .int .i64 0, .slice none 0 0, .int .u32 0, .int .i64 0, .int .i64 0, .slice none 0 0]
  have hRl : w.heap.size < (w.alloc (.cells #[.int .i64 0, .int .u32 0, .int .i64 0, .int .i64 0, .int .i64 0, .slice none 0 0, .int .u32 0, .int .i64 0, .int .i64 0, .slice none 0 0] 35)).heap.size := by rw [sz_alloc]; omega
  obtain ⟨P, hP⟩ : ∃ P, w.heap.size = P := ⟨_, rfl⟩
  obtain ⟨V, hV⟩ : ∃ V, w.alloc (.cells #[.int .i64 0, .int .u32 0, .int .i64 0, .int .i64 0, .int .i64 0, .slice none 0 0, .int .u32 0, .int .i64 0, .int .i64 0, .slice none 0 0] 35) = V := ⟨_, rfl⟩
  have hR : Blk V P 35 [.int .i64 0, .int .u32 0, .int .i64 0, .int .i64 0, .int .i64 0, .slice none 0 0, .int .u32 0, .int .i64 0, .int .i64 0, .slice none 0 0] := by rw [← hV, ← hP]; exact hR
  rw [hV] at hb0 hRl
  rw [hP] at hRl
  have HVE := Lib.hid hV
  have HPE := Lib.hid hP
  have HR := Lib.hid hR
  have HB0 := Lib.hid hb0
  have HRL := Lib.hid hRl
  clear hR hb0 hRl hV hP
  go_enter Try.func12, Try.ntmps12
  go_wp2_with fail
  rw [HVE.out, HPE.out]
  go_wp2_with (go_at_call 26; refine (HS.out _).mono ?_; rintro e u ⟨g1, g2, rfl, h1, h2, hb, hg1, hg2⟩; have HN1 := Lib.hid (show g1 ≠ P by have := HRL.out; omega); have HN2 := Lib.hid (show g2 ≠ P by have := HRL.out; omega); clear hg1 hg2; have H1 := Lib.hid h1; have H2 := Lib.hid h2; have HBu := Lib.hid hb; have hPu : P < u.heap.size := Nat.lt_of_lt_of_le HRL.out hb.size; have hPQ : P ≠ u.heap.size := Nat.ne_of_lt hPu; have HRu := Lib.hid (HR.out.next hb); have r0 := HRu.out.cell 0 (by simp); have f0 := HRu.out.f 0; have r1 := HRu.out.cell 1 (by simp); have f1 := HRu.out.f 1; have r2 := HRu.out.cell 2 (by simp); have f2 := HRu.out.f 2; have r3 := HRu.out.cell 3 (by simp); have f3 := HRu.out.f 3; have r4 := HRu.out.cell 4 (by simp); have f4 := HRu.out.f 4; have r5 := HRu.out.cell 5 (by simp); have f5 := HRu.out.f 5; have r6 := HRu.out.cell 6 (by simp); have f6 := HRu.out.f 6; have r7 := HRu.out.cell 7 (by simp); have f7 := HRu.out.f 7; have r8 := HRu.out.cell 8 (by simp); have f8 := HRu.out.f 8; have r9 := HRu.out.cell 9 (by simp); have f9 := HRu.out.f 9; simp only [List.getD_cons_zero, List.getD_cons_succ] at r0 r1 r2 r3 r4 r5 r6 r7 r8 r9; clear h1 h2 hb)
  have HBV := Lib.hid (HB0.out.trans (HBu.out.mono HB0.out.size))
  have hT : Blk ((((((((((u.setCell ⟨P, 0, none⟩ (.int .i64 r)).setCell ⟨P, 1, none⟩ (.int .u32 0)).setCell ⟨P, 2, none⟩ (.int .i64 0)).setCell ⟨P, 3, none⟩ (.int .i64 0)).setCell ⟨P, 4, none⟩ (.int .i64 0)).setCell ⟨P, 5, none⟩ (.slice (some ⟨g2, 0, none⟩) 1 1)).setCell ⟨P, 6, none⟩ (.int .u32 1)).setCell ⟨P, 7, none⟩ (.int .i64 md)).setCell ⟨P, 8, none⟩ (.int .i64 pf)).setCell ⟨P, 9, none⟩ (.slice none 0 0)) P 35 [.int .i64 r, .int .u32 0, .int .i64 0, .int .i64 0, .int .i64 0, .slice (some ⟨g2, 0, none⟩) 1 1, .int .u32 1, .int .i64 md, .int .i64 pf, .slice none 0 0] := ((((((((((HRu.out.set 0 (.int .i64 r)).set 1 (.int .u32 0)).set 2 (.int .i64 0)).set 3 (.int .i64 0)).set 4 (.int .i64 0)).set 5 (.slice (some ⟨g2, 0, none⟩) 1 1)).set 6 (.int .u32 1)).set 7 (.int .i64 md)).set 8 (.int .i64 pf)).set 9 (.slice none 0 0))
  have hBT : Below w.heap.size w ((((((((((u.setCell ⟨P, 0, none⟩ (.int .i64 r)).setCell ⟨P, 1, none⟩ (.int .u32 0)).setCell ⟨P, 2, none⟩ (.int .i64 0)).setCell ⟨P, 3, none⟩ (.int .i64 0)).setCell ⟨P, 4, none⟩ (.int .i64 0)).setCell ⟨P, 5, none⟩ (.slice (some ⟨g2, 0, none⟩) 1 1)).setCell ⟨P, 6, none⟩ (.int .u32 1)).setCell ⟨P, 7, none⟩ (.int .i64 md)).setCell ⟨P, 8, none⟩ (.int .i64 pf)).setCell ⟨P, 9, none⟩ (.slice none 0 0)) := ((((((((((HBV.out.setCell (p := ⟨P, 0, none⟩) (by rw [HPE.out]; exact Nat.le_refl _) (.int .i64 r)).setCell (p := ⟨P, 1, none⟩) (by rw [HPE.out]; exact Nat.le_refl _) (.int .u32 0)).setCell (p := ⟨P, 2, none⟩) (by rw [HPE.out]; exact Nat.le_refl _) (.int .i64 0)).setCell (p := ⟨P, 3, none⟩) (by rw [HPE.out]; exact Nat.le_refl _) (.int .i64 0)).setCell (p := ⟨P, 4, none⟩) (by rw [HPE.out]; exact Nat.le_refl _) (.int .i64 0)).setCell (p := ⟨P, 5, none⟩) (by rw [HPE.out]; exact Nat.le_refl _) (.slice (some ⟨g2, 0, none⟩) 1 1)).setCell (p := ⟨P, 6, none⟩) (by rw [HPE.out]; exact Nat.le_refl _) (.int .u32 1)).setCell (p := ⟨P, 7, none⟩) (by rw [HPE.out]; exact Nat.le_refl _) (.int .i64 md)).setCell (p := ⟨P, 8, none⟩) (by rw [HPE.out]; exact Nat.le_refl _) (.int .i64 pf)).setCell (p := ⟨P, 9, none⟩) (by rw [HPE.out]; exact Nat.le_refl _) (.slice none 0 0))
  have h1T : Blk ((((((((((u.setCell ⟨P, 0, none⟩ (.int .i64 r)).setCell ⟨P, 1, none⟩ (.int .u32 0)).setCell ⟨P, 2, none⟩ (.int .i64 0)).setCell ⟨P, 3, none⟩ (.int .i64 0)).setCell ⟨P, 4, none⟩ (.int .i64 0)).setCell ⟨P, 5, none⟩ (.slice (some ⟨g2, 0, none⟩) 1 1)).setCell ⟨P, 6, none⟩ (.int .u32 1)).setCell ⟨P, 7, none⟩ (.int .i64 md)).setCell ⟨P, 8, none⟩ (.int .i64 pf)).setCell ⟨P, 9, none⟩ (.slice none 0 0)) g1 3 [.int .i64 a] := (set_far (set_far (set_far (set_far (set_far (set_far (set_far (set_far (set_far (set_far H1.out HN1.out _) HN1.out _) HN1.out _) HN1.out _) HN1.out _) HN1.out _) HN1.out _) HN1.out _) HN1.out _) HN1.out _)
  have h2T : Blk ((((((((((u.setCell ⟨P, 0, none⟩ (.int .i64 r)).setCell ⟨P, 1, none⟩ (.int .u32 0)).setCell ⟨P, 2, none⟩ (.int .i64 0)).setCell ⟨P, 3, none⟩ (.int .i64 0)).setCell ⟨P, 4, none⟩ (.int .i64 0)).setCell ⟨P, 5, none⟩ (.slice (some ⟨g2, 0, none⟩) 1 1)).setCell ⟨P, 6, none⟩ (.int .u32 1)).setCell ⟨P, 7, none⟩ (.int .i64 md)).setCell ⟨P, 8, none⟩ (.int .i64 pf)).setCell ⟨P, 9, none⟩ (.slice none 0 0)) g2 42 [.bool false, .slice (some ⟨g1, 0, none⟩) 1 1] := (set_far (set_far (set_far (set_far (set_far (set_far (set_far (set_far (set_far (set_far H2.out HN2.out _) HN2.out _) HN2.out _) HN2.out _) HN2.out _) HN2.out _) HN2.out _) HN2.out _) HN2.out _) HN2.out _)
  obtain ⟨X, hX⟩ : ∃ X, ((((((((((u.setCell ⟨P, 0, none⟩ (.int .i64 r)).setCell ⟨P, 1, none⟩ (.int .u32 0)).setCell ⟨P, 2, none⟩ (.int .i64 0)).setCell ⟨P, 3, none⟩ (.int .i64 0)).setCell ⟨P, 4, none⟩ (.int .i64 0)).setCell ⟨P, 5, none⟩ (.slice (some ⟨g2, 0, none⟩) 1 1)).setCell ⟨P, 6, none⟩ (.int .u32 1)).setCell ⟨P, 7, none⟩ (.int .i64 md)).setCell ⟨P, 8, none⟩ (.int .i64 pf)).setCell ⟨P, 9, none⟩ (.slice none 0 0)) = X := ⟨_, rfl⟩
  rw [hX] at hT hBT h1T h2T ⊢
  clear hX
  have hbx := newB X (.cells #[.int .i64 0, .slice (some ⟨g2, 0, none⟩) 1 1, .int .u32 1, .int .i64 md, .int .i64 pf, .slice none 0 0] 33)
  have HE := hT.next hbx
  have e0 := HE.cell 0 (by simp); have e1 := HE.cell 1 (by simp); have e2 := HE.cell 2 (by simp); have e3 := HE.cell 3 (by simp); have e4 := HE.cell 4 (by simp); have e5 := HE.cell 5 (by simp); have e6 := HE.cell 6 (by simp); have e7 := HE.cell 7 (by simp); have e8 := HE.cell 8 (by simp); have e9 := HE.cell 9 (by simp)
  simp only [List.getD_cons_zero, List.getD_cons_succ] at e0 e1 e2 e3 e4 e5 e6 e7 e8 e9
  exact bodyPost_ret (v := .agg #[.int .i64 r, .int .u32 0, .int .i64 0, .int .i64 0, .int .i64 0, .slice (some ⟨g2, 0, none⟩) 1 1, .int .u32 1, .int .i64 md, .int .i64 pf, .slice none 0 0]) (by simp [results, Try.results12, go_sem, e0, e1, e2, e3, e4, e5, e6, e7, e8, e9]) rfl ⟨g1, g2, rfl, aoAt_mk (h1T.next hbx) (h2T.next hbx) ha, hBT.trans (hbx.mono hBT.size)⟩
end Go.Proofs.Ytljbebeaahcjaaa
