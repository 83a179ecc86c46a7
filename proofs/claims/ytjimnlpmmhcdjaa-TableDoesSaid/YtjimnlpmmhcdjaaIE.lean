/- TableAnew's walk. -/
import Derived.Test.YtjimnlpmmhcdjaaID
namespace Go.Proofs.Ytjimnlpmmhcdjaa
open Go.RowKit Go.Maps Go.Sort
set_option linter.unusedVariables false
set_option linter.unusedSimpArgs false
set_option maxRecDepth 100000

theorem setD_nil (o : Dt) : setD o [] = [o] := rfl
theorem setD_one {a b : Dt} (h : b.p = a.p) : setD b [a] = [b] := by
  unfold setD
  have e1 : decide (ltN a.p b.p) = false := decide_eq_false (h ▸ ltN_irrefl _)
  have e2 : decide (ltN b.p a.p) = false := decide_eq_false (h ▸ ltN_irrefl _)
  simp [List.filter_cons, e1, e2]
theorem look_one (b : Dt) : lookD [b] b.p = some b := by unfold lookD; simp
theorem setR_nil (o : Dt) : setR o [] = if okP o.p.a o.p.n = false then (20, []) else (0, [o]) := by
  unfold setR
  split
  · rfl
  · rw [if_neg (by simp)]; rfl
theorem setR_one {a b : Dt} (h : b.p = a.p) (hk : okP a.p.a a.p.n = true) : setR b [a] = (0, [b]) := by
  unfold setR
  rw [if_neg (by rw [h, hk]; simp), if_neg (by rw [h, look_one]; simp), setD_one h]
set_option maxHeartbeats 16000000 in
theorem anew_walk (W : World) (x : Dt) (hx : InDt x) (y : Dt) (hy : InDt y) :
    Calls Try.prog 6 #[.agg #[.int .i64 x.r, .int .u32 x.p.a, .int .i64 x.p.n, .int .i64 x.d, .int .i64 x.u], .agg #[.int .i64 y.r, .int .u32 y.p.a, .int .i64 y.p.n, .int .i64 y.d, .int .i64 y.u]] W fun e W' => e = .returned (.bool true) ∧ Below W.heap.size W W' := by
  obtain ⟨x0, ⟨x1, x2⟩, x3, x4⟩ := x
  obtain ⟨y0, ⟨y1, y2⟩, y3, y4⟩ := y
  have hx : InPf ⟨x1, x2⟩ := hx
  dsimp only
  have hb1 := newB W (.cells #[.int .i64 x0, .int .u32 x1, .int .i64 x2, .int .i64 x3, .int .i64 x4] 36)
  have hb2 := newB (W.alloc (.cells #[.int .i64 x0, .int .u32 x1, .int .i64 x2, .int .i64 x3, .int .i64 x4] 36)) (.cells #[.int .i64 y0, .int .u32 x1, .int .i64 x2, .int .i64 y3, .int .i64 y4] 36)
  have hX2 := (Blk.new W 36 [.int .i64 x0, .int .u32 x1, .int .i64 x2, .int .i64 x3, .int .i64 x4]).next hb2
  have hY2 := Blk.new (W.alloc (.cells #[.int .i64 x0, .int .u32 x1, .int .i64 x2, .int .i64 x3, .int .i64 x4] 36)) 36 [.int .i64 y0, .int .u32 x1, .int .i64 x2, .int .i64 y3, .int .i64 y4]
  rw [sz_alloc] at hY2
  have hbv := hb1.trans (hb2.mono hb1.size)
  obtain ⟨V, hV⟩ : ∃ V, (W.alloc (.cells #[.int .i64 x0, .int .u32 x1, .int .i64 x2, .int .i64 x3, .int .i64 x4] 36)).alloc (.cells #[.int .i64 y0, .int .u32 x1, .int .i64 x2, .int .i64 y3, .int .i64 y4] 36) = V := ⟨_, rfl⟩
  have hX2 : Blk V W.heap.size 36 [.int .i64 x0, .int .u32 x1, .int .i64 x2, .int .i64 x3, .int .i64 x4] := hV ▸ hX2
  have hY2 : Blk V (W.heap.size + 1) 36 [.int .i64 y0, .int .u32 x1, .int .i64 x2, .int .i64 y3, .int .i64 y4] := hV ▸ hY2
  have hbv : Below W.heap.size W V := hV ▸ hbv
  have HX := Lib.hid hX2
  have HY := Lib.hid hY2
  have HB := Lib.hid hbv
  have HVE := Lib.hid hV
  have HIN := Lib.hid hx
  clear hb1 hb2 hY2 hX2 hbv hV hx hy
  go_enter Try.func6, Try.ntmps6
  go_wp2_with fail
  rw [HVE.out]
  obtain ⟨P, hP⟩ : ∃ P, W.heap.size = P := ⟨_, rfl⟩
  have HP := Lib.hid hP
  rw [hP] at HX HY
  rw [hP]
  clear hP HVE
  refine (tbnew_any V).mono ?_
  rintro e W0 ⟨g, b, rfl, h1, h2, h3, h4⟩
  have H0 := Lib.hid (show TLv V W0 g b 0 [] from ⟨h2, h1, h4⟩)
  clear h1 h2 h3 h4
  go_wp2_with fail
  refine (lives23_any W0).mono ?_
  rintro e W1 ⟨rfl, hb⟩
  have H1 := Lib.hid (H0.out.next hb)
  have HX1 := Lib.hid (HX.out.next H1.out.bel)
  have HY1 := Lib.hid (HY.out.next H1.out.bel)
  obtain ⟨a0, a1, a2, a3, a4⟩ := dt_boxes HX1.out
  clear hb H0
  rcases hok : okP x1 x2 with _ | _
  · have HS := Lib.hid (show Calls Try.prog 9 #[.pointer (some ⟨g, 0, none⟩), .agg #[.int .i64 x0, .int .u32 x1, .int .i64 x2, .int .i64 x3, .int .i64 x4]] W1 _ from lset H1.out ⟨x0, ⟨x1, x2⟩, x3, x4⟩ HIN.out (by omega) (show setR ⟨x0, ⟨x1, x2⟩, x3, x4⟩ [] = (20, []) from by rw [setR_nil, if_pos hok]))
    clear hok
    go_wp2_with fail
    refine HS.out.mono ?_
    rintro e W2 ⟨rfl, n2, hn2, h2, _⟩
    have H2 := Lib.hid h2
    clear h2
    go_wp2_with (go_at_call 20; refine (tblen_any _ g b n2 [] H2.out.tab).mono ?_; rintro e u ⟨rfl, rfl⟩)
    go_ret
    exact ⟨ret_bool (by simp), HB.out.trans (H2.out.bel.mono HB.out.size)⟩
  · have HS := Lib.hid (show Calls Try.prog 9 #[.pointer (some ⟨g, 0, none⟩), .agg #[.int .i64 x0, .int .u32 x1, .int .i64 x2, .int .i64 x3, .int .i64 x4]] W1 _ from lset H1.out ⟨x0, ⟨x1, x2⟩, x3, x4⟩ HIN.out (by omega) (show setR ⟨x0, ⟨x1, x2⟩, x3, x4⟩ [] = (0, [⟨x0, ⟨x1, x2⟩, x3, x4⟩]) from by rw [setR_nil, if_neg (by simp [hok])]))
    have HSR := Lib.hid (setR_one (a := ⟨x0, ⟨x1, x2⟩, x3, x4⟩) (b := ⟨y0, ⟨x1, x2⟩, y3, y4⟩) rfl hok)
    clear hok
    go_wp2_with fail
    refine HS.out.mono ?_
    rintro e W2 ⟨rfl, n2, hn2, h2, t2⟩
    have HN2 := Lib.hid hn2
    have H2 := Lib.hid h2
    have HXB := Lib.hid (show P ≠ b ∧ P + 1 ≠ b from ⟨H1.out.tab.map.notBlk HX1.out, H1.out.tab.map.notBlk HY1.out⟩)
    have HX2 := Lib.hid (HX1.out.of_same (t2.block P HX1.out.lt HXB.out.1))
    have HY2 := Lib.hid (HY1.out.of_same (t2.block (P + 1) HY1.out.lt HXB.out.2))
    clear h2 hn2 t2 a0 a1 a2 a3 a4 HS
    have HS := Lib.hid (show Calls Try.prog 9 #[.pointer (some ⟨g, 0, none⟩), .agg #[.int .i64 y0, .int .u32 x1, .int .i64 x2, .int .i64 y3, .int .i64 y4]] W2 _ from lset H2.out ⟨y0, ⟨x1, x2⟩, y3, y4⟩ HIN.out (by have := HN2.out; omega) HSR.out)
    obtain ⟨c0, c1, c2, c3, c4⟩ := dt_boxes HY2.out
    go_wp2_with fail
    refine HS.out.mono ?_
    rintro e W3 ⟨rfl, n3, hn3, h3, t3⟩
    have HN3 := Lib.hid (show n3 ≤ 2 by have := HN2.out; omega)
    have H3 := Lib.hid h3
    have HX3 := Lib.hid (HX2.out.of_same (t3.block P HX2.out.lt HXB.out.1))
    have HY3 := Lib.hid (HY2.out.of_same (t3.block (P + 1) HY2.out.lt HXB.out.2))
    clear h3 hn3 t3 c0 c1 c2 c3 c4 HS
    have HG := Lib.hid (show Calls Try.prog 17 #[.pointer (some ⟨g, 0, none⟩), .agg #[.int .u32 x1, .int .i64 x2]] W3 fun e w' => e = .returned (.tuple #[.agg #[.int .i64 y0, .int .u32 x1, .int .i64 x2, .int .i64 y3, .int .i64 y4], .bool true]) ∧ Below W3.heap.size W3 w' from by
      have := tbget_any W3 g b n3 [⟨y0, ⟨x1, x2⟩, y3, y4⟩] H3.out.tab ⟨x1, x2⟩ HIN.out
      rw [show lookD [⟨y0, ⟨x1, x2⟩, y3, y4⟩] ⟨x1, x2⟩ = some ⟨y0, ⟨x1, x2⟩, y3, y4⟩ from look_one ⟨y0, ⟨x1, x2⟩, y3, y4⟩] at this
      exact this)
    obtain ⟨a0, a1, a2, a3, a4⟩ := dt_boxes HX3.out
    go_wp2_with fail
    refine HG.out.mono ?_
    rintro e W4 ⟨rfl, hb⟩
    have hb5 := newB W4 (.cells #[.int .i64 y0, .int .u32 x1, .int .i64 x2, .int .i64 y3, .int .i64 y4] 36)
    have hZ := Blk.new W4 36 [.int .i64 y0, .int .u32 x1, .int .i64 x2, .int .i64 y3, .int .i64 y4]
    have hbz := hb.trans (hb5.mono hb.size)
    have HH5 := Lib.hid (H3.out.next hbz)
    obtain ⟨z0, z1, z2, z3, z4⟩ := dt_boxes hZ
    obtain ⟨c0, c1, c2, c3, c4⟩ := dt_boxes (HY3.out.next hbz)
    have hg := dt_eqGuard
    have hq : ∀ u, (binOp .eql 36 (.agg #[.int .i64 y0, .int .u32 x1, .int .i64 x2, .int .i64 y3, .int .i64 y4]) (.agg #[.int .i64 y0, .int .u32 x1, .int .i64 x2, .int .i64 y3, .int .i64 y4])).run Try.prog u = .ok (.bool true) u := fun u => by
      have := dt_eql ⟨y0, ⟨x1, x2⟩, y3, y4⟩ ⟨y0, ⟨x1, x2⟩, y3, y4⟩ u
      rw [(eqD_iff _ _).2 rfl] at this
      exact this
    clear hb hb5 hZ hbz a0 a1 a2 a3 a4
    go_wp2_with (first | (go_at_call 20; refine (tblen_any _ g b n3 _ HH5.out.tab).mono ?_; rintro e u ⟨rfl, rfl⟩) | (go_at_call 19; refine (lall HH5.out (by have := HN3.out; omega)).mono ?_; rintro e W6 ⟨q6, c6, rfl, _, h6, _, _, _⟩))
    go_ret
    exact ⟨ret_bool (by simp), HB.out.trans (h6.bel.mono HB.out.size)⟩
theorem anew_arg (W : World) (x : Dt) (hx : DtArg x) (y : Dt) (hy : DtArg y) :
    Calls Try.prog 6 #[.agg #[.int .i64 x.r, .int .u32 x.p.a, .int .i64 x.p.n, .int .i64 x.d, .int .i64 x.u], .agg #[.int .i64 y.r, .int .u32 y.p.a, .int .i64 y.p.n, .int .i64 y.d, .int .i64 y.u]] W fun e W' => e = .returned (.bool true) ∧ Below W.heap.size W W' := anew_walk W x hx.ok y hy.ok
end Go.Proofs.Ytjimnlpmmhcdjaa
