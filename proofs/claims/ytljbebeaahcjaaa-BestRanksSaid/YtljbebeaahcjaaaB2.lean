/- best: how a route stands; held against each other. -/
import Derived.Test.YtljbebeaahcjaaaB1
namespace Go.Proofs.Ytljbebeaahcjaaa
open Go.RowKit Go.Maps Go.Sort
set_option linter.unusedVariables false
set_option linter.unusedSimpArgs false
set_option maxRecDepth 100000

/-- A place, what is looked at ahead of Med, the AS, Med, the turn. -/
structure St where
  intro ::
  p : Int
  t0 : Int
  t1 : Int
  t2 : Int
  a : Int
  m : Int
  u0 : Int
  u1 : Int
  u2 : Int
deriving instance DecidableEq for St
def stC (x : St) : List Value := [.int .i64 x.p, .int .i64 x.t0, .int .i64 x.t1, .int .i64 x.t2, .int .i64 x.a, .int .i64 x.m, .int .i64 x.u0, .int .i64 x.u1, .int .i64 x.u2]
abbrev stV (x : St) : Value := .agg #[.int .i64 x.p, .int .i64 x.t0, .int .i64 x.t1, .int .i64 x.t2, .int .i64 x.a, .int .i64 x.m, .int .i64 x.u0, .int .i64 x.u1, .int .i64 x.u2]
def St.zero : St := ⟨0, 0, 0, 0, 0, 0, 0, 0, 0⟩
def cmpAS (x y : St) : Int := orV [cmp3 (x.t0, x.t1, x.t2) (y.t0, y.t1, y.t2), cmpI x.a y.a, cmpI x.m y.m, cmp3 (x.u0, x.u1, x.u2) (y.u0, y.u1, y.u2)]
def cmpTurn (x y : St) : Int := orV [cmp3 (x.t0, x.t1, x.t2) (y.t0, y.t1, y.t2), cmp3 (x.u0, x.u1, x.u2) (y.u0, y.u1, y.u2)]
set_option maxHeartbeats 8000000 in
theorem byAS_gr (x y : St) (w : World) :
    Calls Try.prog 21 #[stV x, stV y] w fun e w' => e = .returned (.int .i64 (cmpAS x y)) ∧ Gr w w' := by
  obtain ⟨x0, x1, x2, x3, x4, x5, x6, x7, x8⟩ := x
  obtain ⟨y0, y1, y2, y3, y4, y5, y6, y7, y8⟩ := y
  have hb := newB (w.alloc (.cells #[.int .i64 x0, .int .i64 x1, .int .i64 x2, .int .i64 x3, .int .i64 x4, .int .i64 x5, .int .i64 x6, .int .i64 x7, .int .i64 x8] 57)) (.cells #[.int .i64 y0, .int .i64 y1, .int .i64 y2, .int .i64 y3, .int .i64 y4, .int .i64 y5, .int .i64 y6, .int .i64 y7, .int .i64 y8] 57)
  have hX := (Blk.new w 57 [.int .i64 x0, .int .i64 x1, .int .i64 x2, .int .i64 x3, .int .i64 x4, .int .i64 x5, .int .i64 x6, .int .i64 x7, .int .i64 x8]).next hb
  have hY := Blk.new (w.alloc (.cells #[.int .i64 x0, .int .i64 x1, .int .i64 x2, .int .i64 x3, .int .i64 x4, .int .i64 x5, .int .i64 x6, .int .i64 x7, .int .i64 x8] 57)) 57 [.int .i64 y0, .int .i64 y1, .int .i64 y2, .int .i64 y3, .int .i64 y4, .int .i64 y5, .int .i64 y6, .int .i64 y7, .int .i64 y8]
  rw [sz_alloc] at hY
  have HG := Lib.hid ((Gr.two w (.cells #[.int .i64 x0, .int .i64 x1, .int .i64 x2, .int .i64 x3, .int .i64 x4, .int .i64 x5, .int .i64 x6, .int .i64 x7, .int .i64 x8] 57) (.cells #[.int .i64 y0, .int .i64 y1, .int .i64 y2, .int .i64 y3, .int .i64 y4, .int .i64 y5, .int .i64 y6, .int .i64 y7, .int .i64 y8] 57)).drew)
  obtain ⟨P, hP⟩ : ∃ P, w.heap.size = P := ⟨_, rfl⟩
  obtain ⟨V, hV⟩ : ∃ V, (w.alloc (.cells #[.int .i64 x0, .int .i64 x1, .int .i64 x2, .int .i64 x3, .int .i64 x4, .int .i64 x5, .int .i64 x6, .int .i64 x7, .int .i64 x8] 57)).alloc (.cells #[.int .i64 y0, .int .i64 y1, .int .i64 y2, .int .i64 y3, .int .i64 y4, .int .i64 y5, .int .i64 y6, .int .i64 y7, .int .i64 y8] 57) = V := ⟨_, rfl⟩
  have hX : Blk V P 57 [.int .i64 x0, .int .i64 x1, .int .i64 x2, .int .i64 x3, .int .i64 x4, .int .i64 x5, .int .i64 x6, .int .i64 x7, .int .i64 x8] := by rw [← hV, ← hP]; exact hX
  have hY : Blk V (P + 1) 57 [.int .i64 y0, .int .i64 y1, .int .i64 y2, .int .i64 y3, .int .i64 y4, .int .i64 y5, .int .i64 y6, .int .i64 y7, .int .i64 y8] := by rw [← hV, ← hP]; exact hY
  rw [hV] at HG
  have HVE := Lib.hid hV
  have HPE := Lib.hid hP
  have HALL := Lib.hid (fun (W : World) (hW : Below V.heap.size V W) => show W.cell? ⟨P, 1, none⟩ = some (.int .i64 x1) ∧ W.cell? ⟨P, 2, none⟩ = some (.int .i64 x2) ∧ W.cell? ⟨P, 3, none⟩ = some (.int .i64 x3) ∧ W.cell? ⟨P, 4, none⟩ = some (.int .i64 x4) ∧ W.cell? ⟨P, 5, none⟩ = some (.int .i64 x5) ∧ W.cell? ⟨P, 6, none⟩ = some (.int .i64 x6) ∧ W.cell? ⟨P, 7, none⟩ = some (.int .i64 x7) ∧ W.cell? ⟨P, 8, none⟩ = some (.int .i64 x8) ∧ W.cell? ⟨(P + 1), 1, none⟩ = some (.int .i64 y1) ∧ W.cell? ⟨(P + 1), 2, none⟩ = some (.int .i64 y2) ∧ W.cell? ⟨(P + 1), 3, none⟩ = some (.int .i64 y3) ∧ W.cell? ⟨(P + 1), 4, none⟩ = some (.int .i64 y4) ∧ W.cell? ⟨(P + 1), 5, none⟩ = some (.int .i64 y5) ∧ W.cell? ⟨(P + 1), 6, none⟩ = some (.int .i64 y6) ∧ W.cell? ⟨(P + 1), 7, none⟩ = some (.int .i64 y7) ∧ W.cell? ⟨(P + 1), 8, none⟩ = some (.int .i64 y8) from by
    have a := hX.next hW
    have b := hY.next hW
    exact ⟨a.cell 1 (by simp), a.cell 2 (by simp), a.cell 3 (by simp), a.cell 4 (by simp), a.cell 5 (by simp), a.cell 6 (by simp), a.cell 7 (by simp), a.cell 8 (by simp), b.cell 1 (by simp), b.cell 2 (by simp), b.cell 3 (by simp), b.cell 4 (by simp), b.cell 5 (by simp), b.cell 6 (by simp), b.cell 7 (by simp), b.cell 8 (by simp)⟩)
  have HB9 := Lib.hid (show Below V.heap.size V V.drew from (Below.refl _ _).drew)
  have hS := HALL.out _ HB9.out
  obtain ⟨E, hE⟩ : ∃ E, cmpAS ⟨x0, x1, x2, x3, x4, x5, x6, x7, x8⟩ ⟨y0, y1, y2, y3, y4, y5, y6, y7, y8⟩ = E := ⟨_, rfl⟩
  rw [hE]
  unfold cmpAS at hE
  dsimp only at hE
  obtain ⟨c1, hc1⟩ : ∃ c, cmp3 (x1, x2, x3) (y1, y2, y3) = c := ⟨_, rfl⟩
  have Hc1 := Lib.hid (fun u => lcmp_gr x1 x2 x3 y1 y2 y3 u)
  rw [hc1] at Hc1 hE
  clear hc1
  obtain ⟨c2, hc2⟩ : ∃ c, cmpI x4 y4 = c := ⟨_, rfl⟩
  have Hc2 := Lib.hid (fun u => cmpI_any x4 y4 u)
  rw [hc2] at Hc2 hE
  clear hc2
  obtain ⟨c3, hc3⟩ : ∃ c, cmpI x5 y5 = c := ⟨_, rfl⟩
  have Hc3 := Lib.hid (fun u => cmpI_any x5 y5 u)
  rw [hc3] at Hc3 hE
  clear hc3
  obtain ⟨c4, hc4⟩ : ∃ c, cmp3 (x6, x7, x8) (y6, y7, y8) = c := ⟨_, rfl⟩
  have Hc4 := Lib.hid (fun u => lcmp_gr x6 x7 x8 y6 y7 y8 u)
  rw [hc4] at Hc4 hE
  clear hc4
  have HE := Lib.hid hE
  clear hX hY hV hP hb hE
  go_enter Try.func21, Try.ntmps21
  go_wp2_with fail
  rw [HVE.out, HPE.out]
  go_region_held_law (fun W => W.cell? ⟨P, 1, none⟩ = some (.int .i64 x1) ∧ W.cell? ⟨P, 2, none⟩ = some (.int .i64 x2) ∧ W.cell? ⟨P, 3, none⟩ = some (.int .i64 x3) ∧ W.cell? ⟨P, 4, none⟩ = some (.int .i64 x4) ∧ W.cell? ⟨P, 5, none⟩ = some (.int .i64 x5) ∧ W.cell? ⟨P, 6, none⟩ = some (.int .i64 x6) ∧ W.cell? ⟨P, 7, none⟩ = some (.int .i64 x7) ∧ W.cell? ⟨P, 8, none⟩ = some (.int .i64 x8) ∧ W.cell? ⟨(P + 1), 1, none⟩ = some (.int .i64 y1) ∧ W.cell? ⟨(P + 1), 2, none⟩ = some (.int .i64 y2) ∧ W.cell? ⟨(P + 1), 3, none⟩ = some (.int .i64 y3) ∧ W.cell? ⟨(P + 1), 4, none⟩ = some (.int .i64 y4) ∧ W.cell? ⟨(P + 1), 5, none⟩ = some (.int .i64 y5) ∧ W.cell? ⟨(P + 1), 6, none⟩ = some (.int .i64 y6) ∧ W.cell? ⟨(P + 1), 7, none⟩ = some (.int .i64 y7) ∧ W.cell? ⟨(P + 1), 8, none⟩ = some (.int .i64 y8)) (first | with_reducible assumption | exact HALL.out _ HB9.out | exact HALL.out _ (HB9.out.alloc HB9.out.size _)) (first
    | (go_at_call 39; (with_reducible refine (Hc1.out _).mono ?_); rintro e v9 ⟨rfl, hg⟩; have HG := Lib.hid (HG.out.trans hg); have HB9 := Lib.hid (HB9.out.trans (hg.below.mono HB9.out.size)); have hS := HALL.out _ HB9.out; clear hg)
    | (go_at_call 39; (with_reducible refine (Hc4.out _).mono ?_); rintro e v9 ⟨rfl, hg⟩; have HG := Lib.hid (HG.out.trans hg); have HB9 := Lib.hid (HB9.out.trans (hg.below.mono HB9.out.size)); have hS := HALL.out _ HB9.out; clear hg)
    | (go_at_call 40; (with_reducible refine (Hc2.out _).mono ?_); rintro e v9 ⟨rfl, rfl⟩)
    | (go_at_call 40; (with_reducible refine (Hc3.out _).mono ?_); rintro e v9 ⟨rfl, rfl⟩)
    | (go_at_call 38; refine (or_any [c1, c2, c3, c4] 4 4 _ _ rfl (by omega) (fun i hi => by
          have a := (Blk.new v9 3 [.int .i64 c1, .int .i64 c2, .int .i64 c3, .int .i64 c4]).cell i (by simpa using hi)
          refine a.trans ?_
          have : i < 4 := hi
          rcases i with _ | _ | _ | _ | i <;> first | rfl | omega)).mono ?_; rintro e v8 ⟨rfl, rfl⟩; have HG := Lib.hid (HG.out.alloc (.cells #[.int .i64 c1, .int .i64 c2, .int .i64 c3, .int .i64 c4] 3)); have hS9 := HALL.out _ (HB9.out.alloc HB9.out.size (.cells #[.int .i64 c1, .int .i64 c2, .int .i64 c3, .int .i64 c4] 3))))
  all_goals
    go_wp2_with fail
    go_ret
    exact ⟨by rw [← HE.out]; rfl, HG.out⟩
set_option maxHeartbeats 8000000 in
theorem byTurn_gr (x y : St) (w : World) :
    Calls Try.prog 24 #[stV x, stV y] w fun e w' => e = .returned (.int .i64 (cmpTurn x y)) ∧ Gr w w' := by
  obtain ⟨x0, x1, x2, x3, x4, x5, x6, x7, x8⟩ := x
  obtain ⟨y0, y1, y2, y3, y4, y5, y6, y7, y8⟩ := y
  have hb := newB (w.alloc (.cells #[.int .i64 x0, .int .i64 x1, .int .i64 x2, .int .i64 x3, .int .i64 x4, .int .i64 x5, .int .i64 x6, .int .i64 x7, .int .i64 x8] 57)) (.cells #[.int .i64 y0, .int .i64 y1, .int .i64 y2, .int .i64 y3, .int .i64 y4, .int .i64 y5, .int .i64 y6, .int .i64 y7, .int .i64 y8] 57)
  have hX := (Blk.new w 57 [.int .i64 x0, .int .i64 x1, .int .i64 x2, .int .i64 x3, .int .i64 x4, .int .i64 x5, .int .i64 x6, .int .i64 x7, .int .i64 x8]).next hb
  have hY := Blk.new (w.alloc (.cells #[.int .i64 x0, .int .i64 x1, .int .i64 x2, .int .i64 x3, .int .i64 x4, .int .i64 x5, .int .i64 x6, .int .i64 x7, .int .i64 x8] 57)) 57 [.int .i64 y0, .int .i64 y1, .int .i64 y2, .int .i64 y3, .int .i64 y4, .int .i64 y5, .int .i64 y6, .int .i64 y7, .int .i64 y8]
  rw [sz_alloc] at hY
  have HG := Lib.hid ((Gr.two w (.cells #[.int .i64 x0, .int .i64 x1, .int .i64 x2, .int .i64 x3, .int .i64 x4, .int .i64 x5, .int .i64 x6, .int .i64 x7, .int .i64 x8] 57) (.cells #[.int .i64 y0, .int .i64 y1, .int .i64 y2, .int .i64 y3, .int .i64 y4, .int .i64 y5, .int .i64 y6, .int .i64 y7, .int .i64 y8] 57)).drew)
  obtain ⟨P, hP⟩ : ∃ P, w.heap.size = P := ⟨_, rfl⟩
  obtain ⟨V, hV⟩ : ∃ V, (w.alloc (.cells #[.int .i64 x0, .int .i64 x1, .int .i64 x2, .int .i64 x3, .int .i64 x4, .int .i64 x5, .int .i64 x6, .int .i64 x7, .int .i64 x8] 57)).alloc (.cells #[.int .i64 y0, .int .i64 y1, .int .i64 y2, .int .i64 y3, .int .i64 y4, .int .i64 y5, .int .i64 y6, .int .i64 y7, .int .i64 y8] 57) = V := ⟨_, rfl⟩
  have hX : Blk V P 57 [.int .i64 x0, .int .i64 x1, .int .i64 x2, .int .i64 x3, .int .i64 x4, .int .i64 x5, .int .i64 x6, .int .i64 x7, .int .i64 x8] := by rw [← hV, ← hP]; exact hX
  have hY : Blk V (P + 1) 57 [.int .i64 y0, .int .i64 y1, .int .i64 y2, .int .i64 y3, .int .i64 y4, .int .i64 y5, .int .i64 y6, .int .i64 y7, .int .i64 y8] := by rw [← hV, ← hP]; exact hY
  rw [hV] at HG
  have HVE := Lib.hid hV
  have HPE := Lib.hid hP
  have HALL := Lib.hid (fun (W : World) (hW : Below V.heap.size V W) => show W.cell? ⟨P, 1, none⟩ = some (.int .i64 x1) ∧ W.cell? ⟨P, 2, none⟩ = some (.int .i64 x2) ∧ W.cell? ⟨P, 3, none⟩ = some (.int .i64 x3) ∧ W.cell? ⟨P, 6, none⟩ = some (.int .i64 x6) ∧ W.cell? ⟨P, 7, none⟩ = some (.int .i64 x7) ∧ W.cell? ⟨P, 8, none⟩ = some (.int .i64 x8) ∧ W.cell? ⟨(P + 1), 1, none⟩ = some (.int .i64 y1) ∧ W.cell? ⟨(P + 1), 2, none⟩ = some (.int .i64 y2) ∧ W.cell? ⟨(P + 1), 3, none⟩ = some (.int .i64 y3) ∧ W.cell? ⟨(P + 1), 6, none⟩ = some (.int .i64 y6) ∧ W.cell? ⟨(P + 1), 7, none⟩ = some (.int .i64 y7) ∧ W.cell? ⟨(P + 1), 8, none⟩ = some (.int .i64 y8) from by
    have a := hX.next hW
    have b := hY.next hW
    exact ⟨a.cell 1 (by simp), a.cell 2 (by simp), a.cell 3 (by simp), a.cell 6 (by simp), a.cell 7 (by simp), a.cell 8 (by simp), b.cell 1 (by simp), b.cell 2 (by simp), b.cell 3 (by simp), b.cell 6 (by simp), b.cell 7 (by simp), b.cell 8 (by simp)⟩)
  have HB9 := Lib.hid (show Below V.heap.size V V.drew from (Below.refl _ _).drew)
  have hS := HALL.out _ HB9.out
  obtain ⟨E, hE⟩ : ∃ E, cmpTurn ⟨x0, x1, x2, x3, x4, x5, x6, x7, x8⟩ ⟨y0, y1, y2, y3, y4, y5, y6, y7, y8⟩ = E := ⟨_, rfl⟩
  rw [hE]
  unfold cmpTurn at hE
  dsimp only at hE
  obtain ⟨c1, hc1⟩ : ∃ c, cmp3 (x1, x2, x3) (y1, y2, y3) = c := ⟨_, rfl⟩
  have Hc1 := Lib.hid (fun u => lcmp_gr x1 x2 x3 y1 y2 y3 u)
  rw [hc1] at Hc1 hE
  clear hc1
  obtain ⟨c4, hc4⟩ : ∃ c, cmp3 (x6, x7, x8) (y6, y7, y8) = c := ⟨_, rfl⟩
  have Hc4 := Lib.hid (fun u => lcmp_gr x6 x7 x8 y6 y7 y8 u)
  rw [hc4] at Hc4 hE
  clear hc4
  have HE := Lib.hid hE
  clear hX hY hV hP hb hE
  go_enter Try.func24, Try.ntmps24
  go_wp2_with fail
  rw [HVE.out, HPE.out]
  go_region_held_law (fun W => W.cell? ⟨P, 1, none⟩ = some (.int .i64 x1) ∧ W.cell? ⟨P, 2, none⟩ = some (.int .i64 x2) ∧ W.cell? ⟨P, 3, none⟩ = some (.int .i64 x3) ∧ W.cell? ⟨P, 6, none⟩ = some (.int .i64 x6) ∧ W.cell? ⟨P, 7, none⟩ = some (.int .i64 x7) ∧ W.cell? ⟨P, 8, none⟩ = some (.int .i64 x8) ∧ W.cell? ⟨(P + 1), 1, none⟩ = some (.int .i64 y1) ∧ W.cell? ⟨(P + 1), 2, none⟩ = some (.int .i64 y2) ∧ W.cell? ⟨(P + 1), 3, none⟩ = some (.int .i64 y3) ∧ W.cell? ⟨(P + 1), 6, none⟩ = some (.int .i64 y6) ∧ W.cell? ⟨(P + 1), 7, none⟩ = some (.int .i64 y7) ∧ W.cell? ⟨(P + 1), 8, none⟩ = some (.int .i64 y8)) (first | with_reducible assumption | exact HALL.out _ HB9.out | exact HALL.out _ (HB9.out.alloc HB9.out.size _)) (first
    | (go_at_call 39; (with_reducible refine (Hc1.out _).mono ?_); rintro e v9 ⟨rfl, hg⟩; have HG := Lib.hid (HG.out.trans hg); have HB9 := Lib.hid (HB9.out.trans (hg.below.mono HB9.out.size)); have hS := HALL.out _ HB9.out; clear hg)
    | (go_at_call 39; (with_reducible refine (Hc4.out _).mono ?_); rintro e v9 ⟨rfl, hg⟩; have HG := Lib.hid (HG.out.trans hg); have HB9 := Lib.hid (HB9.out.trans (hg.below.mono HB9.out.size)); have hS := HALL.out _ HB9.out; clear hg)
    | (go_at_call 38; refine (or_any [c1, c4] 2 2 _ _ rfl (by omega) (fun i hi => by
          have a := (Blk.new v9 3 [.int .i64 c1, .int .i64 c4]).cell i (by simpa using hi)
          refine a.trans ?_
          have : i < 2 := hi
          rcases i with _ | _ | i <;> first | rfl | omega)).mono ?_; rintro e v8 ⟨rfl, rfl⟩; have HG := Lib.hid (HG.out.alloc (.cells #[.int .i64 c1, .int .i64 c4] 3)); have hS9 := HALL.out _ (HB9.out.alloc HB9.out.size (.cells #[.int .i64 c1, .int .i64 c4] 3))))
  all_goals
    go_wp2_with fail
    go_ret
    exact ⟨by rw [← HE.out]; rfl, HG.out⟩
end Go.Proofs.Ytljbebeaahcjaaa
