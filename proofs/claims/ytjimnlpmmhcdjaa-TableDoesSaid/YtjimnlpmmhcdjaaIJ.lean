/- TableDoes' walk. -/
import Derived.Test.YtjimnlpmmhcdjaaII
namespace Go.Proofs.Ytjimnlpmmhcdjaa
open Go.RowKit Go.Maps Go.Sort
set_option linter.unusedVariables false
set_option linter.unusedSimpArgs false
set_option maxRecDepth 100000

theorem oq_cell {w : World} {p : Option Addr} {l : List Oq} {n k : Nat} (h : LAt oqC InOq Oq.zero 7 w p l) (hn : l.length = n) (hk : k < n) : ∃ b off, p = some ⟨b, off, none⟩ ∧ w.cell? ⟨b, off + k * 7, none⟩ = some (.int .i64 (l.getD k Oq.zero).k) ∧ w.cell? ⟨b, off + k * 7 + 1, none⟩ = some (.int .i64 (l.getD k Oq.zero).o.r) ∧ w.cell? ⟨b, off + k * 7 + 2, none⟩ = some (.int .u32 (l.getD k Oq.zero).o.p.a) ∧ w.cell? ⟨b, off + k * 7 + 3, none⟩ = some (.int .i64 (l.getD k Oq.zero).o.p.n) ∧ w.cell? ⟨b, off + k * 7 + 4, none⟩ = some (.int .i64 (l.getD k Oq.zero).o.d) ∧ w.cell? ⟨b, off + k * 7 + 5, none⟩ = some (.int .i64 (l.getD k Oq.zero).o.u) ∧ w.cell? ⟨b, off + k * 7 + 6, none⟩ = some (.int .i64 (l.getD k Oq.zero).n) := by
  obtain ⟨b, off, rfl, hc⟩ := h.cell hn hk
  exact ⟨b, off, rfl, hc 0 _ rfl, hc 1 _ rfl, hc 2 _ rfl, hc 3 _ rfl, hc 4 _ rfl, hc 5 _ rfl, hc 6 _ rfl⟩
theorem oq_boxes {w : World} {g : Nat} {kk x0 x1 x2 x3 x4 nw : Int} (h : Blk w g 38 [.int .i64 kk, .int .i64 x0, .int .u32 x1, .int .i64 x2, .int .i64 x3, .int .i64 x4, .int .i64 nw]) : w.cell? ⟨g, 0, none⟩ = some (.int .i64 kk) ∧ w.cell? ⟨g, 1, none⟩ = some (.int .i64 x0) ∧ w.cell? ⟨g, 2, none⟩ = some (.int .u32 x1) ∧ w.cell? ⟨g, 3, none⟩ = some (.int .i64 x2) ∧ w.cell? ⟨g, 4, none⟩ = some (.int .i64 x3) ∧ w.cell? ⟨g, 5, none⟩ = some (.int .i64 x4) ∧ w.cell? ⟨g, 6, none⟩ = some (.int .i64 nw) :=
  ⟨h.cell 0 (by simp), h.cell 1 (by simp), h.cell 2 (by simp), h.cell 3 (by simp), h.cell 4 (by simp), h.cell 5 (by simp), h.cell 6 (by simp)⟩
/-- The one call's box, apart from what turns. -/
structure OB (W : World) (P b r : Nat) (kk x0 x1 x2 x3 x4 nw : Int) : Prop where
  intro ::
  blk : Blk W P 38 [.int .i64 kk, .int .i64 x0, .int .u32 x1, .int .i64 x2, .int .i64 x3, .int .i64 x4, .int .i64 nw]
  nb : P ≠ b
  nr : P ≠ r
theorem OB.next {W W' : World} {P b r : Nat} {kk x0 x1 x2 x3 x4 nw : Int} (h : OB W P b r kk x0 x1 x2 x3 x4 nw) (hb : Below W.heap.size W W') : OB W' P b r kk x0 x1 x2 x3 x4 nw := ⟨h.blk.next hb, h.nb, h.nr⟩
theorem OB.turn {W W' : World} {P b r : Nat} {kk x0 x1 x2 x3 x4 nw : Int} (h : OB W P b r kk x0 x1 x2 x3 x4 nw) (hT : Turns (fun k => k = b ∨ k = r) W W') : OB W' P b r kk x0 x1 x2 x3 x4 nw := ⟨h.blk.of_same (hT.block P h.blk.lt (fun e => e.elim h.nb h.nr)), h.nb, h.nr⟩
theorem OB.turn1 {W W' : World} {P b r : Nat} {kk x0 x1 x2 x3 x4 nw : Int} (h : OB W P b r kk x0 x1 x2 x3 x4 nw) (hT : Turns (fun k => k = b) W W') : OB W' P b r kk x0 x1 x2 x3 x4 nw := h.turn (hT.mono fun k h => .inl h)
theorem size_le_n {w W : World} {g b n r : Nat} {L : List Dt} (h : BB w W g b n r L) : L.length ≤ n := by
  obtain ⟨D, h1, h2, _⟩ := h.t.tab.map
  rw [← h2]; exact h1.size_le
set_option maxHeartbeats 32000000 in
theorem does_walk (W : World) (x : Option Addr × List Oq × Nat) (hx : OqsArg W x) :
    Calls Try.prog 3 #[.slice x.1 x.2.1.length x.2.2] W fun e W' => e = .returned (.bool true) ∧ Below W.heap.size W W' := by
  obtain ⟨p, l, c⟩ := x
  obtain ⟨hat, hle, hmx⟩ := hx
  dsimp only at hat hle hmx
  dsimp only
  obtain ⟨m, hm⟩ : ∃ m, l.length = m := ⟨_, rfl⟩
  rw [hm] at hle
  rw [hm]
  have HAT := Lib.hid hat
  have HM := Lib.hid hm
  unfold maxLen at hmx
  clear hat hm
  go_enter Try.func3, Try.ntmps3
  go_wp2_with fail
  refine (tbnew_any W).mono ?_
  rintro e W0 ⟨g, b, rfl, h1, h2, h3, h4⟩
  have hbr := newB W0 (.cells #[.slice none 0 0] RTf)
  have hR := Blk.new W0 RTf [.slice none 0 0]
  have H0 := Lib.hid (show BB W (W0.alloc (.cells #[.slice none 0 0] RTf)) g b 0 W0.heap.size [] from ⟨(show TLv W W0 g b 0 [] from ⟨h2, h1, h4⟩).next hbr, ⟨none, 0, hR, LAt.nil _ _ _ _ _ _, Nat.le_refl _, Nat.zero_le _, SrtD.nil, fun x hx => (by cases hx), fun r off e => (by cases e)⟩, h2.size⟩)
  obtain ⟨r, hr⟩ : ∃ r, W0.heap.size = r := ⟨_, rfl⟩
  obtain ⟨V, hV⟩ : ∃ V, W0.alloc (.cells #[.slice none 0 0] RTf) = V := ⟨_, rfl⟩
  rw [hV, hr] at H0
  have HVE := Lib.hid hV
  have HRE := Lib.hid hr
  clear h1 h2 h3 h4 hbr hR hr hV
  go_wp2_with fail
  rw [HVE.out, HRE.out]
  refine (lives23_any V).mono ?_
  rintro e W1 ⟨rfl, hb⟩
  have H1 := Lib.hid (H0.out.next hb)
  clear hb H0 HVE HRE
  go_wp2_with fail
  go_loopw [5] (fun i wr => ∃ k : Nat, k ≤ m ∧ k ≤ 150 ∧ i = .int .i64 k ∧ ∃ nn L, nn ≤ k ∧ BB W wr g b nn r L) (fun i _ => m - (intOf i).toNat)
  case atStart => exact ⟨0, Nat.zero_le _, Nat.zero_le _, rfl, 0, [], Nat.le_refl _, H1.out⟩
  case round =>
    obtain ⟨k, hk, hk5, rfl, nn, L, hnn, hT⟩ := hrel
    have HT := Lib.hid hT
    have HNN := Lib.hid hnn
    have HK5 := Lib.hid hk5
    clear hT hnn
    by_cases hlt : k < m
    case neg =>
      obtain rfl : k = m := by omega
      clear hk5
      go_wp2_with fail
      go_ret
      exact ⟨rfl, HT.out.t.bel⟩
    have hltI : (k : Int) < (m : Int) := by omega
    by_cases h150 : k < 150
    case neg =>
      have t9 : decide ((k : Int) < 150) = false := decide_eq_false (by omega)
      clear hk5
      go_wp2_with fail
      go_ret
      exact ⟨rfl, HT.out.t.bel⟩
    have t9 : decide ((k : Int) < 150) = true := decide_eq_true (by omega)
    have HK9 := Lib.hid h150
    clear hk5 h150
    obtain ⟨z, off, rfl, e0, e1, e2, e3, e4, e5, e6⟩ := oq_cell (HAT.out.below HT.out.t.bel) HM.out hlt
    obtain ⟨y, hy⟩ : ∃ y, l.getD k Oq.zero = y := ⟨_, rfl⟩
    have HIN := Lib.hid (show InDt y.o from hy ▸ HAT.out.ok _ (by simp [List.getD, show k < l.length by rw [HM.out]; exact hlt]))
    rw [hy] at e0 e1 e2 e3 e4 e5 e6
    clear hy
    obtain ⟨kk, ⟨x0, ⟨x1, x2⟩, x3, x4⟩, nw⟩ := y
    dsimp only at e0 e1 e2 e3 e4 e5 e6
    dsimp only at HIN
    have HPF := Lib.hid (show InPf ⟨x1, x2⟩ from HIN.out)
    have hA := newB wr (.cells #[.int .i64 kk, .int .i64 x0, .int .u32 x1, .int .i64 x2, .int .i64 x3, .int .i64 x4, .int .i64 nw] 38)
    have hX := Blk.new wr 38 [.int .i64 kk, .int .i64 x0, .int .u32 x1, .int .i64 x2, .int .i64 x3, .int .i64 x4, .int .i64 nw]
    obtain ⟨U, hU⟩ : ∃ U, wr.alloc (.cells #[.int .i64 kk, .int .i64 x0, .int .u32 x1, .int .i64 x2, .int .i64 x3, .int .i64 x4, .int .i64 nw] 38) = U := ⟨_, rfl⟩
    obtain ⟨P, hP⟩ : ∃ P, wr.heap.size = P := ⟨_, rfl⟩
    have HPL := Lib.hid (show P ≠ b ∧ P ≠ r from by have := HT.out.lt; omega)
    rw [hU] at hA hX
    rw [hP] at hX
    have HU := Lib.hid hU
    have HPE := Lib.hid hP
    have HTU := Lib.hid (HT.out.next hA)
    have HOB := Lib.hid (show OB U P b r kk x0 x1 x2 x3 x4 nw from ⟨hX, HPL.out.1, HPL.out.2⟩)
    have HLN := Lib.hid (show L.length ≤ 150 from by have := size_le_n HT.out; have := HNN.out; have := HK9.out; omega)
    have HN9 := Lib.hid (show nn < 1000000 from by have := HNN.out; have := HK9.out; omega)
    clear hA hX hU hP HT
    obtain ⟨o0, o1, o2, o3, o4, o5, o6⟩ := oq_boxes HOB.out.blk
    have hkk : kk = 1 ∨ kk = 2 ∨ kk = 3 ∨ kk = 4 ∨ (((kk == 1) = false ∧ decide (kk = 1) = false) ∧ ((kk == 2) = false ∧ decide (kk = 2) = false) ∧ ((kk == 3) = false ∧ decide (kk = 3) = false) ∧ ((kk == 4) = false ∧ decide (kk = 4) = false)) := by
      by_cases h1 : kk = 1; exact .inl h1
      by_cases h2 : kk = 2; exact .inr (.inl h2)
      by_cases h3 : kk = 3; exact .inr (.inr (.inl h3))
      by_cases h4 : kk = 4; exact .inr (.inr (.inr (.inl h4)))
      exact .inr (.inr (.inr (.inr ⟨⟨by simpa using h1, decide_eq_false h1⟩, ⟨by simpa using h2, decide_eq_false h2⟩, ⟨by simpa using h3, decide_eq_false h3⟩, by simpa using h4, decide_eq_false h4⟩)))
    rcases hkk with rfl | rfl | rfl | rfl | ⟨⟨q1, d1⟩, ⟨q2, d2⟩, ⟨q3, d3⟩, q4, d4⟩
    · have HS := Lib.hid (show Calls Try.prog 9 #[.pointer (some ⟨g, 0, none⟩), .agg #[.int .i64 x0, .int .u32 x1, .int .i64 x2, .int .i64 x3, .int .i64 x4]] U.drew _ from bbset (HTU.out.next (Below.refl _ _).drew) ⟨x0, ⟨x1, x2⟩, x3, x4⟩ HIN.out HN9.out (by have := HLN.out; omega))
      have hOBD := HOB.out.next (Below.refl U.heap.size U).drew
      have HOBD := Lib.hid hOBD
      obtain ⟨R, hR⟩ : ∃ R, setR ⟨x0, ⟨x1, x2⟩, x3, x4⟩ L = R := ⟨_, rfl⟩
      rw [hR] at HS
      obtain ⟨rr, L5⟩ := R
      dsimp only at HS
      have hrr : (rr == rr) = true := by simp
      have hrr2 : decide (rr = rr) = true := by simp
      have hS : U.drew.cell? ⟨P, 1, none⟩ = some (.int .i64 x0) ∧ U.drew.cell? ⟨P, 2, none⟩ = some (.int .u32 x1) ∧ U.drew.cell? ⟨P, 3, none⟩ = some (.int .i64 x2) ∧ U.drew.cell? ⟨P, 4, none⟩ = some (.int .i64 x3) ∧ U.drew.cell? ⟨P, 5, none⟩ = some (.int .i64 x4) := by
        obtain ⟨o0, o1, o2, o3, o4, o5, o6⟩ := oq_boxes hOBD.blk
        exact ⟨o1, o2, o3, o4, o5⟩
      clear hR hOBD
      go_wp2_with fail
      rw [HU.out, HPE.out]
      go_wp2_with fail
      go_region_held_law (fun W => W.cell? ⟨P, 1, none⟩ = some (.int .i64 x0) ∧ W.cell? ⟨P, 2, none⟩ = some (.int .u32 x1) ∧ W.cell? ⟨P, 3, none⟩ = some (.int .i64 x2) ∧ W.cell? ⟨P, 4, none⟩ = some (.int .i64 x3) ∧ W.cell? ⟨P, 5, none⟩ = some (.int .i64 x4)) (with_reducible assumption) (first
        | (go_at_call 9; refine HS.out.mono ?_; rintro e u1 ⟨rfl, hN, hT1⟩; have HNX := Lib.hid hN; have hOB1 := HOBD.out.turn1 hT1; have hS1 : u1.cell? ⟨P, 1, none⟩ = some (.int .i64 x0) ∧ u1.cell? ⟨P, 2, none⟩ = some (.int .u32 x1) ∧ u1.cell? ⟨P, 3, none⟩ = some (.int .i64 x2) ∧ u1.cell? ⟨P, 4, none⟩ = some (.int .i64 x3) ∧ u1.cell? ⟨P, 5, none⟩ = some (.int .i64 x4) := (by
            obtain ⟨o0, o1, o2, o3, o4, o5, o6⟩ := oq_boxes hOB1.blk
            exact ⟨o1, o2, o3, o4, o5⟩); clear hN)
        | (go_at_call 10; refine HNX.out.mono ?_; rintro e u2 ⟨rfl, ⟨n5, hn5, hBB⟩, hT2⟩; have hOB2 := HOBD.out.turn hT2; have HB := Lib.hid hBB; have HO := Lib.hid hOB2; have HN5 := Lib.hid (show n5 ≤ k + 1 from (by have := HNN.out; omega)); have hS2 : u2.cell? ⟨P, 1, none⟩ = some (.int .i64 x0) ∧ u2.cell? ⟨P, 2, none⟩ = some (.int .u32 x1) ∧ u2.cell? ⟨P, 3, none⟩ = some (.int .i64 x2) ∧ u2.cell? ⟨P, 4, none⟩ = some (.int .i64 x3) ∧ u2.cell? ⟨P, 5, none⟩ = some (.int .i64 x4) := (by
            obtain ⟨o0, o1, o2, o3, o4, o5, o6⟩ := oq_boxes hOB2.blk
            exact ⟨o1, o2, o3, o4, o5⟩); clear hBB hn5))
      all_goals
        obtain ⟨o0, o1, o2, o3, o4, o5, o6⟩ := oq_boxes HO.out.blk
        have hl5 := size_le_n HB.out
        obtain ⟨q5, c5, hx5⟩ := HB.out.x
        have HX5 := Lib.hid hx5
        obtain ⟨⟨y0, ⟨y1, y2⟩, y3, y4⟩, hy⟩ : ∃ y, (lookD L5 ⟨x1, x2⟩).getD Dt.zero = y := ⟨_, rfl⟩
        obtain ⟨is, his⟩ : ∃ o, (lookD L5 ⟨x1, x2⟩).isSome = o := ⟨_, rfl⟩
        have hG := tbget_any u2 g b n5 L5 HB.out.t.tab ⟨x1, x2⟩ HPF.out
        rw [hy, his] at hG
        have HG := Lib.hid (show Calls Try.prog 17 #[.pointer (some ⟨g, 0, none⟩), .agg #[.int .u32 x1, .int .i64 x2]] u2 fun e w' => e = .returned (.tuple #[.agg #[.int .i64 y0, .int .u32 y1, .int .i64 y2, .int .i64 y3, .int .i64 y4], .bool is]) ∧ Below u2.heap.size u2 w' from hG)
        have HG2 := Lib.hid (fun (Z : World) (hZ : Below u2.heap.size u2 Z) => show Calls Try.prog 18 #[.pointer (some ⟨r, 0, none⟩), .agg #[.int .u32 x1, .int .i64 x2]] Z fun e w' => e = .returned (.tuple #[.agg #[.int .i64 y0, .int .u32 y1, .int .i64 y2, .int .i64 y3, .int .i64 y4], .bool is]) ∧ Below Z.heap.size Z w' from by
          have := rgetD_any Z r q5 c5 L5 (hx5.next hZ) ⟨x1, x2⟩
          rw [hy, his] at this
          exact this)
        clear hG hy his hx5 hl5
        go_wp2_with fail
        refine HG.out.mono ?_
        rintro e U6 ⟨rfl, hb⟩
        have hbn := newB U6 (.cells #[.int .i64 y0, .int .u32 y1, .int .i64 y2, .int .i64 y3, .int .i64 y4] 36)
        have hY := Blk.new U6 36 [.int .i64 y0, .int .u32 y1, .int .i64 y2, .int .i64 y3, .int .i64 y4]
        obtain ⟨U7, hU7⟩ : ∃ U7, U6.alloc (.cells #[.int .i64 y0, .int .u32 y1, .int .i64 y2, .int .i64 y3, .int .i64 y4] 36) = U7 := ⟨_, rfl⟩
        obtain ⟨A, hA⟩ : ∃ A, U6.heap.size = A := ⟨_, rfl⟩
        rw [hU7] at hbn hY
        rw [hA] at hY
        have HU7 := Lib.hid hU7
        have HAE := Lib.hid hA
        have HB7 := Lib.hid (hb.trans (hbn.mono hb.size))
        have HY := Lib.hid hY
        have HG2 := Lib.hid (HG2.out U7 HB7.out)
        clear o0 o1 o2 o3 o4 o5 o6
        obtain ⟨o0, o1, o2, o3, o4, o5, o6⟩ := oq_boxes (HO.out.next HB7.out).blk
        rw [← hU7] at o0 o1 o2 o3 o4 o5 o6
        clear hU7 hA hbn hY hb
        go_wp2_with fail
        rw [HU7.out, HAE.out]
        refine HG2.out.mono ?_
        rintro e U8 ⟨rfl, hb⟩
        have hbn := newB U8 (.cells #[.int .i64 y0, .int .u32 y1, .int .i64 y2, .int .i64 y3, .int .i64 y4] 36)
        have hZ := Blk.new U8 36 [.int .i64 y0, .int .u32 y1, .int .i64 y2, .int .i64 y3, .int .i64 y4]
        obtain ⟨U9, hU9⟩ : ∃ U9, U8.alloc (.cells #[.int .i64 y0, .int .u32 y1, .int .i64 y2, .int .i64 y3, .int .i64 y4] 36) = U9 := ⟨_, rfl⟩
        obtain ⟨C, hC⟩ : ∃ C, U8.heap.size = C := ⟨_, rfl⟩
        rw [hU9] at hbn hZ
        rw [hC] at hZ
        have HU9 := Lib.hid hU9
        have HCE := Lib.hid hC
        have HB89 := Lib.hid (hb.trans (hbn.mono hb.size))
        have HB9 := Lib.hid (HB7.out.trans (HB89.out.mono HB7.out.size))
        have HY9 := Lib.hid (HY.out.next HB89.out)
        have HZ9 := Lib.hid hZ
        have HBB9 := Lib.hid (HB.out.next HB9.out)
        have HX9 := Lib.hid (HX5.out.next HB9.out)
        obtain ⟨n6, hn6⟩ : ∃ n6, L5.length = n6 := ⟨_, rfl⟩
        have HN6 := Lib.hid hn6
        have HALL := Lib.hid (fun (Z : World) (hZ : Below U9.heap.size U9 Z) => show (Z.cell? ⟨A, 0, none⟩ = some (.int .i64 y0) ∧ Z.cell? ⟨A, 1, none⟩ = some (.int .u32 y1) ∧ Z.cell? ⟨A, 2, none⟩ = some (.int .i64 y2) ∧ Z.cell? ⟨A, 3, none⟩ = some (.int .i64 y3) ∧ Z.cell? ⟨A, 4, none⟩ = some (.int .i64 y4)) ∧ (Z.cell? ⟨C, 0, none⟩ = some (.int .i64 y0) ∧ Z.cell? ⟨C, 1, none⟩ = some (.int .u32 y1) ∧ Z.cell? ⟨C, 2, none⟩ = some (.int .i64 y2) ∧ Z.cell? ⟨C, 3, none⟩ = some (.int .i64 y3) ∧ Z.cell? ⟨C, 4, none⟩ = some (.int .i64 y4)) ∧ Z.cell? ⟨r, 0, none⟩ = some (.slice q5 n6 c5) from ⟨dt_boxes (HY9.out.next hZ), dt_boxes (HZ9.out.next hZ), (HX9.out.next hZ).at0 hn6⟩)
        have hgd := dt_eqGuard
        have hqd : ∀ u, (binOp .neq 36 (.agg #[.int .i64 y0, .int .u32 y1, .int .i64 y2, .int .i64 y3, .int .i64 y4]) (.agg #[.int .i64 y0, .int .u32 y1, .int .i64 y2, .int .i64 y3, .int .i64 y4])).run Try.prog u = .ok (.bool false) u := fun u => by
          have := dt_neq ⟨y0, ⟨y1, y2⟩, y3, y4⟩ ⟨y0, ⟨y1, y2⟩, y3, y4⟩ u
          rw [(eqD_iff _ _).2 rfl] at this
          exact this
        have hbb : (is != is) = false := by cases is <;> rfl
        have hnn6 : ((n6 : Int) != (n6 : Int)) = false := by simp
        have HMX := Lib.hid (show n6 ≤ maxLen from by have := HX9.out.le; have := HX9.out.max; omega)
        have HBD := Lib.hid (show Below U9.heap.size U9 U9.drew from (Below.refl _ _).drew)
        clear hU9 hC hbn hZ hb hn6 o0 o1 o2 o3 o4 o5 o6
        go_wp2_with fail
        rw [HU9.out, HCE.out]
        have hS := HALL.out _ HBD.out
        refine wp_region_held_drew (S := fun w' => (w'.cell? ⟨A, 0, none⟩ = some (.int .i64 y0) ∧ w'.cell? ⟨A, 1, none⟩ = some (.int .u32 y1) ∧ w'.cell? ⟨A, 2, none⟩ = some (.int .i64 y2) ∧ w'.cell? ⟨A, 3, none⟩ = some (.int .i64 y3) ∧ w'.cell? ⟨A, 4, none⟩ = some (.int .i64 y4)) ∧ (w'.cell? ⟨C, 0, none⟩ = some (.int .i64 y0) ∧ w'.cell? ⟨C, 1, none⟩ = some (.int .u32 y1) ∧ w'.cell? ⟨C, 2, none⟩ = some (.int .i64 y2) ∧ w'.cell? ⟨C, 3, none⟩ = some (.int .i64 y3) ∧ w'.cell? ⟨C, 4, none⟩ = some (.int .i64 y4)) ∧ w'.cell? ⟨r, 0, none⟩ = some (.slice q5 n6 c5)) (by kernel_rfl) hS ?_
        intro hS1
        refine wpAnyH_take (i := 0) (oi := ⟨some 106, _, _, _, _, _⟩) (v := ?_) rfl (by kernel_rfl) (by kernel_rfl) (by kernel_rfl) (fun _ _ _ h => h) (Or.inl ⟨by kernel_rfl, fun U hU => by (dsimp only at hU; go_split_ands; go_simp; first | done | with_reducible rfl)⟩) (by assumption) ?_; (try simp only [Act.put, List.setIfInBounds_toArray, List.set_cons_zero, List.set_cons_succ])
        refine wpAnyH_take (i := 1) (oi := ⟨some 107, _, _, _, _, _⟩) (v := ?_) rfl (by kernel_rfl) (by kernel_rfl) (by kernel_rfl) (fun _ _ _ h => h) (Or.inl ⟨by kernel_rfl, fun U hU => by (dsimp only at hU; go_split_ands; go_simp; first | done | with_reducible rfl)⟩) (by assumption) ?_; (try simp only [Act.put, List.setIfInBounds_toArray, List.set_cons_zero, List.set_cons_succ])
        refine wpAnyH_take (i := 2) (oi := ⟨some 108, _, _, _, _, _⟩) (v := ?_) rfl (by kernel_rfl) (by kernel_rfl) (by kernel_rfl) (fun _ _ _ h => h) (Or.inl ⟨by kernel_rfl, fun U hU => by (dsimp only at hU; go_split_ands; go_simp; first | done | with_reducible rfl)⟩) (by assumption) ?_; (try simp only [Act.put, List.setIfInBounds_toArray, List.set_cons_zero, List.set_cons_succ])
        refine wpAnyH_take (i := 3) (oi := ⟨some 109, _, _, _, _, _⟩) (v := ?_) rfl (by kernel_rfl) (by kernel_rfl) (by kernel_rfl) (fun _ _ _ h => h) (Or.inl ⟨by kernel_rfl, fun U hU => by (dsimp only at hU; go_split_ands; go_simp; first | done | with_reducible rfl)⟩) (by assumption) ?_; (try simp only [Act.put, List.setIfInBounds_toArray, List.set_cons_zero, List.set_cons_succ])
        refine wpAnyH_take (i := 4) (oi := ⟨some 110, _, _, _, _, _⟩) (v := ?_) rfl (by kernel_rfl) (by kernel_rfl) (by kernel_rfl) (fun _ _ _ h => h) (Or.inl ⟨by kernel_rfl, fun U hU => by (dsimp only at hU; go_split_ands; go_simp; first | done | with_reducible rfl)⟩) (by assumption) ?_; (try simp only [Act.put, List.setIfInBounds_toArray, List.set_cons_zero, List.set_cons_succ])
        refine wpAnyH_take (i := 5) (oi := ⟨some 111, _, _, _, _, _⟩) (v := ?_) rfl (by kernel_rfl) (by kernel_rfl) (by kernel_rfl) (fun _ _ _ h => h) (Or.inl ⟨by kernel_rfl, fun U hU => by (dsimp only at hU; go_split_ands; go_simp; first | done | with_reducible rfl)⟩) (by assumption) ?_; (try simp only [Act.put, List.setIfInBounds_toArray, List.set_cons_zero, List.set_cons_succ])
        refine wpAnyH_take (i := 6) (oi := ⟨some 112, _, _, _, _, _⟩) (v := ?_) rfl (by kernel_rfl) (by kernel_rfl) (by kernel_rfl) (fun _ _ _ h => h) (Or.inl ⟨by kernel_rfl, fun U hU => by (dsimp only at hU; go_split_ands; go_simp; first | done | with_reducible rfl)⟩) (by assumption) ?_; (try simp only [Act.put, List.setIfInBounds_toArray, List.set_cons_zero, List.set_cons_succ])
        refine wpAnyH_take (i := 7) (oi := ⟨some 113, _, _, _, _, _⟩) (v := ?_) rfl (by kernel_rfl) (by kernel_rfl) (by kernel_rfl) (fun _ _ _ h => h) (Or.inl ⟨by kernel_rfl, fun U hU => by (dsimp only at hU; go_split_ands; go_simp; first | done | with_reducible rfl)⟩) (by assumption) ?_; (try simp only [Act.put, List.setIfInBounds_toArray, List.set_cons_zero, List.set_cons_succ])
        refine wpAnyH_take (i := 8) (oi := ⟨some 114, _, _, _, _, _⟩) (v := ?_) rfl (by kernel_rfl) (by kernel_rfl) (by kernel_rfl) (fun _ _ _ h => h) (Or.inl ⟨by kernel_rfl, fun U hU => by (dsimp only at hU; go_split_ands; go_simp; first | done | with_reducible rfl)⟩) (by assumption) ?_; (try simp only [Act.put, List.setIfInBounds_toArray, List.set_cons_zero, List.set_cons_succ])
        refine wpAnyH_take (i := 9) (oi := ⟨some 115, _, _, _, _, _⟩) (v := ?_) rfl (by kernel_rfl) (by kernel_rfl) (by kernel_rfl) (fun _ _ _ h => h) (Or.inl ⟨by kernel_rfl, fun U hU => by (dsimp only at hU; go_split_ands; go_simp; first | done | with_reducible rfl)⟩) (by assumption) ?_; (try simp only [Act.put, List.setIfInBounds_toArray, List.set_cons_zero, List.set_cons_succ])
        refine wpAnyH_take (i := 10) (oi := ⟨some 116, _, _, _, _, _⟩) (v := ?_) rfl (by kernel_rfl) (by kernel_rfl) (by kernel_rfl) (fun _ _ _ h => h) (Or.inl ⟨by kernel_rfl, fun U hU => by (dsimp only at hU; go_split_ands; go_simp; first | done | with_reducible rfl)⟩) (by assumption) ?_; (try simp only [Act.put, List.setIfInBounds_toArray, List.set_cons_zero, List.set_cons_succ])
        refine wpAnyH_take (i := 11) (oi := ⟨some 117, _, _, _, _, _⟩) (v := ?_) rfl (by kernel_rfl) (by kernel_rfl) (by kernel_rfl) (fun _ _ _ h => h) (Or.inl ⟨by kernel_rfl, fun U hU => by (dsimp only at hU; go_split_ands; go_simp; first | done | with_reducible rfl)⟩) (by assumption) ?_; (try simp only [Act.put, List.setIfInBounds_toArray, List.set_cons_zero, List.set_cons_succ])
        refine wpAnyH_take (i := 12) (oi := ⟨some 118, _, _, _, _, _⟩) (v := ?_) rfl (by kernel_rfl) (by kernel_rfl) (by kernel_rfl) (fun _ _ _ h => h) (Or.inl ⟨by kernel_rfl, fun U hU => by (dsimp only at hU; go_split_ands; go_simp; first | done | with_reducible rfl)⟩) (by assumption) ?_; (try simp only [Act.put, List.setIfInBounds_toArray, List.set_cons_zero, List.set_cons_succ])
        refine wpAnyH_take (i := 13) (oi := ⟨some 119, _, _, _, _, _⟩) (v := ?_) rfl (by kernel_rfl) (by kernel_rfl) (by kernel_rfl) (fun _ _ _ h => h) (Or.inl ⟨by kernel_rfl, fun U hU => by (dsimp only at hU; go_split_ands; go_simp; first | done | with_reducible rfl)⟩) (by assumption) ?_; (try simp only [Act.put, List.setIfInBounds_toArray, List.set_cons_zero, List.set_cons_succ])
        refine wpAnyH_take (i := 15) (oi := ⟨some 121, _, _, _, _, _⟩) (v := ?_) rfl (by kernel_rfl) (by kernel_rfl) (by kernel_rfl) (fun _ _ _ h => h) (Or.inl ⟨by kernel_rfl, fun U hU => by (dsimp only at hU; go_split_ands; go_simp; first | done | with_reducible rfl)⟩) (by assumption) ?_; (try simp only [Act.put, List.setIfInBounds_toArray, List.set_cons_zero, List.set_cons_succ])
        refine wpAnyH_take (i := 16) (oi := ⟨some 122, _, _, _, _, _⟩) (v := ?_) rfl (by kernel_rfl) (by kernel_rfl) (by kernel_rfl) (fun _ _ _ h => h) (Or.inl ⟨by kernel_rfl, fun U hU => by (dsimp only at hU; go_split_ands; go_simp; first | done | with_reducible rfl)⟩) (by assumption) ?_; (try simp only [Act.put, List.setIfInBounds_toArray, List.set_cons_zero, List.set_cons_succ])
        refine wpAnyH_take (i := 17) (oi := ⟨some 123, _, _, _, _, _⟩) (v := ?_) rfl (by kernel_rfl) (by kernel_rfl) (by kernel_rfl) (fun _ _ _ h => h) (Or.inl ⟨by kernel_rfl, fun U hU => by (dsimp only at hU; go_split_ands; go_simp; first | done | with_reducible rfl)⟩) (by assumption) ?_; (try simp only [Act.put, List.setIfInBounds_toArray, List.set_cons_zero, List.set_cons_succ])
        refine wpAnyH_take (i := 18) (oi := ⟨some 124, _, _, _, _, _⟩) (v := ?_) rfl (by kernel_rfl) (by kernel_rfl) (by kernel_rfl) (fun _ _ _ h => h) (Or.inl ⟨by kernel_rfl, fun U hU => by (dsimp only at hU; go_split_ands; go_simp; first | done | with_reducible rfl)⟩) (by assumption) ?_; (try simp only [Act.put, List.setIfInBounds_toArray, List.set_cons_zero, List.set_cons_succ])
        refine wpAnyH_ready (rs := [14]) (by kernel_rfl) (by simp) ?_
        refine AllReadyH.cons (o := ⟨some 120, _, _, _, _, _⟩) rfl (fun K hK => ?_) AllReadyH.nil
        go_simp
        go_at_call 19; refine (lall (HBB9.out.next HBD.out).t (by have := HN5.out; have := HK9.out; omega)).mono ?_; rintro e v9 ⟨q9, c9, rfl, hl9, _, hb, _, _⟩; rw [HN6.out]; have HL9 := Lib.hid hl9; have HBD := Lib.hid (HBD.out.trans (hb.mono HBD.out.size)); have hS4 := HALL.out _ HBD.out; clear hb hl9
        refine hK.out _ _ hS4 (fun hS5 => ?_)
        try simp only [Act.put, List.setIfInBounds_toArray, List.set_cons_zero, List.set_cons_succ]
        clear hK K hS1; have hS1 := hS4; clear hS4 hS5
        refine wpAnyH_ready (rs := [19]) (by kernel_rfl) (by simp) ?_
        refine AllReadyH.cons (o := ⟨some 125, _, _, _, _, _⟩) rfl (fun K hK => ?_) AllReadyH.nil
        go_simp
        go_at_call 13; refine (rsameD_yes q9 q5 L5 n6 c9 c5 v9 HL9.out.at_ (HX9.out.next HBD.out).at_ HN6.out HMX.out).mono ?_; rintro e v8 ⟨rfl, hb⟩; have HBD := Lib.hid (HBD.out.trans (hb.mono HBD.out.size)); have hS4 := HALL.out _ HBD.out; clear hb
        refine hK.out _ _ hS4 (fun hS5 => ?_)
        try simp only [Act.put, List.setIfInBounds_toArray, List.set_cons_zero, List.set_cons_succ]
        clear hK K hS1; have hS1 := hS4; clear hS4 hS5
        refine wpAnyH_take (i := 20) (oi := ⟨some 126, _, _, _, _, _⟩) (v := ?_) rfl (by kernel_rfl) (by kernel_rfl) (by kernel_rfl) (fun _ _ _ h => h) (Or.inl ⟨by kernel_rfl, fun U hU => by (dsimp only at hU; go_split_ands; go_simp; first | done | with_reducible rfl)⟩) (by assumption) ?_; (try simp only [Act.put, List.setIfInBounds_toArray, List.set_cons_zero, List.set_cons_succ])
        refine wpAnyH_take (i := 21) (oi := ⟨some 127, _, _, _, _, _⟩) (v := ?_) rfl (by kernel_rfl) (by kernel_rfl) (by kernel_rfl) (fun _ _ _ h => h) (Or.inl ⟨by kernel_rfl, fun U hU => by (dsimp only at hU; go_split_ands; go_simp; first | done | with_reducible rfl)⟩) (by assumption) ?_; (try simp only [Act.put, List.setIfInBounds_toArray, List.set_cons_zero, List.set_cons_succ])
        refine wpAnyH_take (i := 22) (oi := ⟨some 128, _, _, _, _, _⟩) (v := ?_) rfl (by kernel_rfl) (by kernel_rfl) (by kernel_rfl) (fun _ _ _ h => h) (Or.inl ⟨by kernel_rfl, fun U hU => by (dsimp only at hU; go_split_ands; go_simp; first | done | with_reducible rfl)⟩) (by assumption) ?_; (try simp only [Act.put, List.setIfInBounds_toArray, List.set_cons_zero, List.set_cons_succ])
        refine wpAnyH_take (i := 23) (oi := ⟨some 129, _, _, _, _, _⟩) (v := ?_) rfl (by kernel_rfl) (by kernel_rfl) (by kernel_rfl) (fun _ _ _ h => h) (Or.inl ⟨by kernel_rfl, fun U hU => by (dsimp only at hU; go_split_ands; go_simp; first | done | with_reducible rfl)⟩) (by assumption) ?_; (try simp only [Act.put, List.setIfInBounds_toArray, List.set_cons_zero, List.set_cons_succ])
        refine wpAnyH_take (i := 25) (oi := ⟨some 131, _, _, _, _, _⟩) (v := ?_) rfl (by kernel_rfl) (by kernel_rfl) (by kernel_rfl) (fun _ _ _ h => h) (Or.inl ⟨by kernel_rfl, fun U hU => by (dsimp only at hU; go_split_ands; go_simp; first | done | with_reducible rfl)⟩) (by assumption) ?_; (try simp only [Act.put, List.setIfInBounds_toArray, List.set_cons_zero, List.set_cons_succ])
        refine wpAnyH_take (i := 26) (oi := ⟨some 132, _, _, _, _, _⟩) (v := ?_) rfl (by kernel_rfl) (by kernel_rfl) (by kernel_rfl) (fun _ _ _ h => h) (Or.inl ⟨by kernel_rfl, fun U hU => by (dsimp only at hU; go_split_ands; go_simp; first | done | with_reducible rfl)⟩) (by assumption) ?_; (try simp only [Act.put, List.setIfInBounds_toArray, List.set_cons_zero, List.set_cons_succ])
        refine wpAnyH_take (i := 27) (oi := ⟨some 133, _, _, _, _, _⟩) (v := ?_) rfl (by kernel_rfl) (by kernel_rfl) (by kernel_rfl) (fun _ _ _ h => h) (Or.inl ⟨by kernel_rfl, fun U hU => by (dsimp only at hU; go_split_ands; go_simp; first | done | with_reducible rfl)⟩) (by assumption) ?_; (try simp only [Act.put, List.setIfInBounds_toArray, List.set_cons_zero, List.set_cons_succ])
        refine wpAnyH_take (i := 28) (oi := ⟨some 134, _, _, _, _, _⟩) (v := ?_) rfl (by kernel_rfl) (by kernel_rfl) (by kernel_rfl) (fun _ _ _ h => h) (Or.inl ⟨by kernel_rfl, fun U hU => by (dsimp only at hU; go_split_ands; go_simp; first | done | with_reducible rfl)⟩) (by assumption) ?_; (try simp only [Act.put, List.setIfInBounds_toArray, List.set_cons_zero, List.set_cons_succ])
        refine wpAnyH_take (i := 29) (oi := ⟨some 135, _, _, _, _, _⟩) (v := ?_) rfl (by kernel_rfl) (by kernel_rfl) (by kernel_rfl) (fun _ _ _ h => h) (Or.inl ⟨by kernel_rfl, fun U hU => by (dsimp only at hU; go_split_ands; go_simp; first | done | with_reducible rfl)⟩) (by assumption) ?_; (try simp only [Act.put, List.setIfInBounds_toArray, List.set_cons_zero, List.set_cons_succ])
        refine wpAnyH_ready (rs := [24]) (by kernel_rfl) (by simp) ?_
        refine AllReadyH.cons (o := ⟨some 130, _, _, _, _, _⟩) rfl (fun K hK => ?_) AllReadyH.nil
        go_simp
        go_at_call 20; refine (tblen_any v8 g b n5 L5 (HBB9.out.next HBD.out).t.tab).mono ?_; rintro e v7 ⟨rfl, rfl⟩; rw [HN6.out]; have hS4 := HALL.out _ HBD.out
        refine hK.out _ _ hS4 (fun hS5 => ?_)
        try simp only [Act.put, List.setIfInBounds_toArray, List.set_cons_zero, List.set_cons_succ]
        clear hK K hS1; have hS1 := hS4; clear hS4 hS5
        refine wpAnyH_take (i := 30) (oi := ⟨some 136, _, _, _, _, _⟩) (v := ?_) rfl (by kernel_rfl) (by kernel_rfl) (by kernel_rfl) (fun _ _ _ h => h) (Or.inl ⟨by kernel_rfl, fun U hU => by (dsimp only at hU; go_split_ands; go_simp; first | done | with_reducible rfl)⟩) (by assumption) ?_; (try simp only [Act.put, List.setIfInBounds_toArray, List.set_cons_zero, List.set_cons_succ])
        refine wpAnyH_take (i := 31) (oi := ⟨some 137, _, _, _, _, _⟩) (v := ?_) rfl (by kernel_rfl) (by kernel_rfl) (by kernel_rfl) (fun _ _ _ h => h) (Or.inl ⟨by kernel_rfl, fun U hU => by (dsimp only at hU; go_split_ands; go_simp; first | done | with_reducible rfl)⟩) (by assumption) ?_; (try simp only [Act.put, List.setIfInBounds_toArray, List.set_cons_zero, List.set_cons_succ])
        refine wpAnyH_done (by kernel_rfl) ?_ _
        go_wp2_with fail
        go_roundw
        case rel => exact ⟨k + 1, by omega, by have := HK9.out; omega, by go_num, n5, L5, HN5.out, HBB9.out.next HBD.out⟩
        case measure => simp [intOf]; omega
    · have HS := Lib.hid (show Calls Try.prog 11 #[.pointer (some ⟨g, 0, none⟩), .agg #[.int .u32 x1, .int .i64 x2]] U.drew _ from bbdel (HTU.out.next (Below.refl _ _).drew) ⟨x1, x2⟩ HPF.out (by have := HLN.out; omega))
      have hOBD := HOB.out.next (Below.refl U.heap.size U).drew
      have HOBD := Lib.hid hOBD
      obtain ⟨L5, hL5⟩ : ∃ R, delD ⟨x1, x2⟩ L = R := ⟨_, rfl⟩
      obtain ⟨rr, hrr0⟩ : ∃ R, (lookD L ⟨x1, x2⟩).isSome = R := ⟨_, rfl⟩
      obtain ⟨n5, hn5⟩ : ∃ n5, nn = n5 := ⟨_, rfl⟩
      have HN5 := Lib.hid (show n5 ≤ k + 1 from hn5 ▸ Nat.le_succ_of_le HNN.out)
      rw [hL5, hrr0, hn5] at HS
      have hrr : (rr == rr) = true := by cases rr <;> rfl
      have hS : U.drew.cell? ⟨P, 2, none⟩ = some (.int .u32 x1) ∧ U.drew.cell? ⟨P, 3, none⟩ = some (.int .i64 x2) := by
        obtain ⟨o0, o1, o2, o3, o4, o5, o6⟩ := oq_boxes hOBD.blk
        exact ⟨o2, o3⟩
      clear hL5 hrr0 hn5 hOBD
      go_wp2_with fail
      rw [HU.out, HPE.out]
      go_wp2_with fail
      go_region_held_law (fun W => W.cell? ⟨P, 2, none⟩ = some (.int .u32 x1) ∧ W.cell? ⟨P, 3, none⟩ = some (.int .i64 x2)) (with_reducible assumption) (first
        | (go_at_call 11; refine HS.out.mono ?_; rintro e u1 ⟨rfl, hN, hT1⟩; have HNX := Lib.hid hN; have hOB1 := HOBD.out.turn1 hT1; have hS1 : u1.cell? ⟨P, 2, none⟩ = some (.int .u32 x1) ∧ u1.cell? ⟨P, 3, none⟩ = some (.int .i64 x2) := (by
            obtain ⟨o0, o1, o2, o3, o4, o5, o6⟩ := oq_boxes hOB1.blk
            exact ⟨o2, o3⟩); clear hN)
        | (go_at_call 12; refine HNX.out.mono ?_; rintro e u2 ⟨rfl, hBB, hT2⟩; have hOB2 := HOBD.out.turn hT2; have HB := Lib.hid hBB; have HO := Lib.hid hOB2; have hS2 : u2.cell? ⟨P, 2, none⟩ = some (.int .u32 x1) ∧ u2.cell? ⟨P, 3, none⟩ = some (.int .i64 x2) := (by
            obtain ⟨o0, o1, o2, o3, o4, o5, o6⟩ := oq_boxes hOB2.blk
            exact ⟨o2, o3⟩); clear hBB))
      all_goals
        obtain ⟨o0, o1, o2, o3, o4, o5, o6⟩ := oq_boxes HO.out.blk
        have hl5 := size_le_n HB.out
        obtain ⟨q5, c5, hx5⟩ := HB.out.x
        have HX5 := Lib.hid hx5
        obtain ⟨⟨y0, ⟨y1, y2⟩, y3, y4⟩, hy⟩ : ∃ y, (lookD L5 ⟨x1, x2⟩).getD Dt.zero = y := ⟨_, rfl⟩
        obtain ⟨is, his⟩ : ∃ o, (lookD L5 ⟨x1, x2⟩).isSome = o := ⟨_, rfl⟩
        have hG := tbget_any u2 g b n5 L5 HB.out.t.tab ⟨x1, x2⟩ HPF.out
        rw [hy, his] at hG
        have HG := Lib.hid (show Calls Try.prog 17 #[.pointer (some ⟨g, 0, none⟩), .agg #[.int .u32 x1, .int .i64 x2]] u2 fun e w' => e = .returned (.tuple #[.agg #[.int .i64 y0, .int .u32 y1, .int .i64 y2, .int .i64 y3, .int .i64 y4], .bool is]) ∧ Below u2.heap.size u2 w' from hG)
        have HG2 := Lib.hid (fun (Z : World) (hZ : Below u2.heap.size u2 Z) => show Calls Try.prog 18 #[.pointer (some ⟨r, 0, none⟩), .agg #[.int .u32 x1, .int .i64 x2]] Z fun e w' => e = .returned (.tuple #[.agg #[.int .i64 y0, .int .u32 y1, .int .i64 y2, .int .i64 y3, .int .i64 y4], .bool is]) ∧ Below Z.heap.size Z w' from by
          have := rgetD_any Z r q5 c5 L5 (hx5.next hZ) ⟨x1, x2⟩
          rw [hy, his] at this
          exact this)
        clear hG hy his hx5 hl5
        go_wp2_with fail
        refine HG.out.mono ?_
        rintro e U6 ⟨rfl, hb⟩
        have hbn := newB U6 (.cells #[.int .i64 y0, .int .u32 y1, .int .i64 y2, .int .i64 y3, .int .i64 y4] 36)
        have hY := Blk.new U6 36 [.int .i64 y0, .int .u32 y1, .int .i64 y2, .int .i64 y3, .int .i64 y4]
        obtain ⟨U7, hU7⟩ : ∃ U7, U6.alloc (.cells #[.int .i64 y0, .int .u32 y1, .int .i64 y2, .int .i64 y3, .int .i64 y4] 36) = U7 := ⟨_, rfl⟩
        obtain ⟨A, hA⟩ : ∃ A, U6.heap.size = A := ⟨_, rfl⟩
        rw [hU7] at hbn hY
        rw [hA] at hY
        have HU7 := Lib.hid hU7
        have HAE := Lib.hid hA
        have HB7 := Lib.hid (hb.trans (hbn.mono hb.size))
        have HY := Lib.hid hY
        have HG2 := Lib.hid (HG2.out U7 HB7.out)
        clear o0 o1 o2 o3 o4 o5 o6
        obtain ⟨o0, o1, o2, o3, o4, o5, o6⟩ := oq_boxes (HO.out.next HB7.out).blk
        rw [← hU7] at o0 o1 o2 o3 o4 o5 o6
        clear hU7 hA hbn hY hb
        go_wp2_with fail
        rw [HU7.out, HAE.out]
        refine HG2.out.mono ?_
        rintro e U8 ⟨rfl, hb⟩
        have hbn := newB U8 (.cells #[.int .i64 y0, .int .u32 y1, .int .i64 y2, .int .i64 y3, .int .i64 y4] 36)
        have hZ := Blk.new U8 36 [.int .i64 y0, .int .u32 y1, .int .i64 y2, .int .i64 y3, .int .i64 y4]
        obtain ⟨U9, hU9⟩ : ∃ U9, U8.alloc (.cells #[.int .i64 y0, .int .u32 y1, .int .i64 y2, .int .i64 y3, .int .i64 y4] 36) = U9 := ⟨_, rfl⟩
        obtain ⟨C, hC⟩ : ∃ C, U8.heap.size = C := ⟨_, rfl⟩
        rw [hU9] at hbn hZ
        rw [hC] at hZ
        have HU9 := Lib.hid hU9
        have HCE := Lib.hid hC
        have HB89 := Lib.hid (hb.trans (hbn.mono hb.size))
        have HB9 := Lib.hid (HB7.out.trans (HB89.out.mono HB7.out.size))
        have HY9 := Lib.hid (HY.out.next HB89.out)
        have HZ9 := Lib.hid hZ
        have HBB9 := Lib.hid (HB.out.next HB9.out)
        have HX9 := Lib.hid (HX5.out.next HB9.out)
        obtain ⟨n6, hn6⟩ : ∃ n6, L5.length = n6 := ⟨_, rfl⟩
        have HN6 := Lib.hid hn6
        have HALL := Lib.hid (fun (Z : World) (hZ : Below U9.heap.size U9 Z) => show (Z.cell? ⟨A, 0, none⟩ = some (.int .i64 y0) ∧ Z.cell? ⟨A, 1, none⟩ = some (.int .u32 y1) ∧ Z.cell? ⟨A, 2, none⟩ = some (.int .i64 y2) ∧ Z.cell? ⟨A, 3, none⟩ = some (.int .i64 y3) ∧ Z.cell? ⟨A, 4, none⟩ = some (.int .i64 y4)) ∧ (Z.cell? ⟨C, 0, none⟩ = some (.int .i64 y0) ∧ Z.cell? ⟨C, 1, none⟩ = some (.int .u32 y1) ∧ Z.cell? ⟨C, 2, none⟩ = some (.int .i64 y2) ∧ Z.cell? ⟨C, 3, none⟩ = some (.int .i64 y3) ∧ Z.cell? ⟨C, 4, none⟩ = some (.int .i64 y4)) ∧ Z.cell? ⟨r, 0, none⟩ = some (.slice q5 n6 c5) from ⟨dt_boxes (HY9.out.next hZ), dt_boxes (HZ9.out.next hZ), (HX9.out.next hZ).at0 hn6⟩)
        have hgd := dt_eqGuard
        have hqd : ∀ u, (binOp .neq 36 (.agg #[.int .i64 y0, .int .u32 y1, .int .i64 y2, .int .i64 y3, .int .i64 y4]) (.agg #[.int .i64 y0, .int .u32 y1, .int .i64 y2, .int .i64 y3, .int .i64 y4])).run Try.prog u = .ok (.bool false) u := fun u => by
          have := dt_neq ⟨y0, ⟨y1, y2⟩, y3, y4⟩ ⟨y0, ⟨y1, y2⟩, y3, y4⟩ u
          rw [(eqD_iff _ _).2 rfl] at this
          exact this
        have hbb : (is != is) = false := by cases is <;> rfl
        have hnn6 : ((n6 : Int) != (n6 : Int)) = false := by simp
        have HMX := Lib.hid (show n6 ≤ maxLen from by have := HX9.out.le; have := HX9.out.max; omega)
        have HBD := Lib.hid (show Below U9.heap.size U9 U9.drew from (Below.refl _ _).drew)
        clear hU9 hC hbn hZ hb hn6 o0 o1 o2 o3 o4 o5 o6
        go_wp2_with fail
        rw [HU9.out, HCE.out]
        have hS := HALL.out _ HBD.out
        refine wp_region_held_drew (S := fun w' => (w'.cell? ⟨A, 0, none⟩ = some (.int .i64 y0) ∧ w'.cell? ⟨A, 1, none⟩ = some (.int .u32 y1) ∧ w'.cell? ⟨A, 2, none⟩ = some (.int .i64 y2) ∧ w'.cell? ⟨A, 3, none⟩ = some (.int .i64 y3) ∧ w'.cell? ⟨A, 4, none⟩ = some (.int .i64 y4)) ∧ (w'.cell? ⟨C, 0, none⟩ = some (.int .i64 y0) ∧ w'.cell? ⟨C, 1, none⟩ = some (.int .u32 y1) ∧ w'.cell? ⟨C, 2, none⟩ = some (.int .i64 y2) ∧ w'.cell? ⟨C, 3, none⟩ = some (.int .i64 y3) ∧ w'.cell? ⟨C, 4, none⟩ = some (.int .i64 y4)) ∧ w'.cell? ⟨r, 0, none⟩ = some (.slice q5 n6 c5)) (by kernel_rfl) hS ?_
        intro hS1
        refine wpAnyH_take (i := 0) (oi := ⟨some 106, _, _, _, _, _⟩) (v := ?_) rfl (by kernel_rfl) (by kernel_rfl) (by kernel_rfl) (fun _ _ _ h => h) (Or.inl ⟨by kernel_rfl, fun U hU => by (dsimp only at hU; go_split_ands; go_simp; first | done | with_reducible rfl)⟩) (by assumption) ?_; (try simp only [Act.put, List.setIfInBounds_toArray, List.set_cons_zero, List.set_cons_succ])
        refine wpAnyH_take (i := 1) (oi := ⟨some 107, _, _, _, _, _⟩) (v := ?_) rfl (by kernel_rfl) (by kernel_rfl) (by kernel_rfl) (fun _ _ _ h => h) (Or.inl ⟨by kernel_rfl, fun U hU => by (dsimp only at hU; go_split_ands; go_simp; first | done | with_reducible rfl)⟩) (by assumption) ?_; (try simp only [Act.put, List.setIfInBounds_toArray, List.set_cons_zero, List.set_cons_succ])
        refine wpAnyH_take (i := 2) (oi := ⟨some 108, _, _, _, _, _⟩) (v := ?_) rfl (by kernel_rfl) (by kernel_rfl) (by kernel_rfl) (fun _ _ _ h => h) (Or.inl ⟨by kernel_rfl, fun U hU => by (dsimp only at hU; go_split_ands; go_simp; first | done | with_reducible rfl)⟩) (by assumption) ?_; (try simp only [Act.put, List.setIfInBounds_toArray, List.set_cons_zero, List.set_cons_succ])
        refine wpAnyH_take (i := 3) (oi := ⟨some 109, _, _, _, _, _⟩) (v := ?_) rfl (by kernel_rfl) (by kernel_rfl) (by kernel_rfl) (fun _ _ _ h => h) (Or.inl ⟨by kernel_rfl, fun U hU => by (dsimp only at hU; go_split_ands; go_simp; first | done | with_reducible rfl)⟩) (by assumption) ?_; (try simp only [Act.put, List.setIfInBounds_toArray, List.set_cons_zero, List.set_cons_succ])
        refine wpAnyH_take (i := 4) (oi := ⟨some 110, _, _, _, _, _⟩) (v := ?_) rfl (by kernel_rfl) (by kernel_rfl) (by kernel_rfl) (fun _ _ _ h => h) (Or.inl ⟨by kernel_rfl, fun U hU => by (dsimp only at hU; go_split_ands; go_simp; first | done | with_reducible rfl)⟩) (by assumption) ?_; (try simp only [Act.put, List.setIfInBounds_toArray, List.set_cons_zero, List.set_cons_succ])
        refine wpAnyH_take (i := 5) (oi := ⟨some 111, _, _, _, _, _⟩) (v := ?_) rfl (by kernel_rfl) (by kernel_rfl) (by kernel_rfl) (fun _ _ _ h => h) (Or.inl ⟨by kernel_rfl, fun U hU => by (dsimp only at hU; go_split_ands; go_simp; first | done | with_reducible rfl)⟩) (by assumption) ?_; (try simp only [Act.put, List.setIfInBounds_toArray, List.set_cons_zero, List.set_cons_succ])
        refine wpAnyH_take (i := 6) (oi := ⟨some 112, _, _, _, _, _⟩) (v := ?_) rfl (by kernel_rfl) (by kernel_rfl) (by kernel_rfl) (fun _ _ _ h => h) (Or.inl ⟨by kernel_rfl, fun U hU => by (dsimp only at hU; go_split_ands; go_simp; first | done | with_reducible rfl)⟩) (by assumption) ?_; (try simp only [Act.put, List.setIfInBounds_toArray, List.set_cons_zero, List.set_cons_succ])
        refine wpAnyH_take (i := 7) (oi := ⟨some 113, _, _, _, _, _⟩) (v := ?_) rfl (by kernel_rfl) (by kernel_rfl) (by kernel_rfl) (fun _ _ _ h => h) (Or.inl ⟨by kernel_rfl, fun U hU => by (dsimp only at hU; go_split_ands; go_simp; first | done | with_reducible rfl)⟩) (by assumption) ?_; (try simp only [Act.put, List.setIfInBounds_toArray, List.set_cons_zero, List.set_cons_succ])
        refine wpAnyH_take (i := 8) (oi := ⟨some 114, _, _, _, _, _⟩) (v := ?_) rfl (by kernel_rfl) (by kernel_rfl) (by kernel_rfl) (fun _ _ _ h => h) (Or.inl ⟨by kernel_rfl, fun U hU => by (dsimp only at hU; go_split_ands; go_simp; first | done | with_reducible rfl)⟩) (by assumption) ?_; (try simp only [Act.put, List.setIfInBounds_toArray, List.set_cons_zero, List.set_cons_succ])
        refine wpAnyH_take (i := 9) (oi := ⟨some 115, _, _, _, _, _⟩) (v := ?_) rfl (by kernel_rfl) (by kernel_rfl) (by kernel_rfl) (fun _ _ _ h => h) (Or.inl ⟨by kernel_rfl, fun U hU => by (dsimp only at hU; go_split_ands; go_simp; first | done | with_reducible rfl)⟩) (by assumption) ?_; (try simp only [Act.put, List.setIfInBounds_toArray, List.set_cons_zero, List.set_cons_succ])
        refine wpAnyH_take (i := 10) (oi := ⟨some 116, _, _, _, _, _⟩) (v := ?_) rfl (by kernel_rfl) (by kernel_rfl) (by kernel_rfl) (fun _ _ _ h => h) (Or.inl ⟨by kernel_rfl, fun U hU => by (dsimp only at hU; go_split_ands; go_simp; first | done | with_reducible rfl)⟩) (by assumption) ?_; (try simp only [Act.put, List.setIfInBounds_toArray, List.set_cons_zero, List.set_cons_succ])
        refine wpAnyH_take (i := 11) (oi := ⟨some 117, _, _, _, _, _⟩) (v := ?_) rfl (by kernel_rfl) (by kernel_rfl) (by kernel_rfl) (fun _ _ _ h => h) (Or.inl ⟨by kernel_rfl, fun U hU => by (dsimp only at hU; go_split_ands; go_simp; first | done | with_reducible rfl)⟩) (by assumption) ?_; (try simp only [Act.put, List.setIfInBounds_toArray, List.set_cons_zero, List.set_cons_succ])
        refine wpAnyH_take (i := 12) (oi := ⟨some 118, _, _, _, _, _⟩) (v := ?_) rfl (by kernel_rfl) (by kernel_rfl) (by kernel_rfl) (fun _ _ _ h => h) (Or.inl ⟨by kernel_rfl, fun U hU => by (dsimp only at hU; go_split_ands; go_simp; first | done | with_reducible rfl)⟩) (by assumption) ?_; (try simp only [Act.put, List.setIfInBounds_toArray, List.set_cons_zero, List.set_cons_succ])
        refine wpAnyH_take (i := 13) (oi := ⟨some 119, _, _, _, _, _⟩) (v := ?_) rfl (by kernel_rfl) (by kernel_rfl) (by kernel_rfl) (fun _ _ _ h => h) (Or.inl ⟨by kernel_rfl, fun U hU => by (dsimp only at hU; go_split_ands; go_simp; first | done | with_reducible rfl)⟩) (by assumption) ?_; (try simp only [Act.put, List.setIfInBounds_toArray, List.set_cons_zero, List.set_cons_succ])
        refine wpAnyH_take (i := 15) (oi := ⟨some 121, _, _, _, _, _⟩) (v := ?_) rfl (by kernel_rfl) (by kernel_rfl) (by kernel_rfl) (fun _ _ _ h => h) (Or.inl ⟨by kernel_rfl, fun U hU => by (dsimp only at hU; go_split_ands; go_simp; first | done | with_reducible rfl)⟩) (by assumption) ?_; (try simp only [Act.put, List.setIfInBounds_toArray, List.set_cons_zero, List.set_cons_succ])
        refine wpAnyH_take (i := 16) (oi := ⟨some 122, _, _, _, _, _⟩) (v := ?_) rfl (by kernel_rfl) (by kernel_rfl) (by kernel_rfl) (fun _ _ _ h => h) (Or.inl ⟨by kernel_rfl, fun U hU => by (dsimp only at hU; go_split_ands; go_simp; first | done | with_reducible rfl)⟩) (by assumption) ?_; (try simp only [Act.put, List.setIfInBounds_toArray, List.set_cons_zero, List.set_cons_succ])
        refine wpAnyH_take (i := 17) (oi := ⟨some 123, _, _, _, _, _⟩) (v := ?_) rfl (by kernel_rfl) (by kernel_rfl) (by kernel_rfl) (fun _ _ _ h => h) (Or.inl ⟨by kernel_rfl, fun U hU => by (dsimp only at hU; go_split_ands; go_simp; first | done | with_reducible rfl)⟩) (by assumption) ?_; (try simp only [Act.put, List.setIfInBounds_toArray, List.set_cons_zero, List.set_cons_succ])
        refine wpAnyH_take (i := 18) (oi := ⟨some 124, _, _, _, _, _⟩) (v := ?_) rfl (by kernel_rfl) (by kernel_rfl) (by kernel_rfl) (fun _ _ _ h => h) (Or.inl ⟨by kernel_rfl, fun U hU => by (dsimp only at hU; go_split_ands; go_simp; first | done | with_reducible rfl)⟩) (by assumption) ?_; (try simp only [Act.put, List.setIfInBounds_toArray, List.set_cons_zero, List.set_cons_succ])
        refine wpAnyH_ready (rs := [14]) (by kernel_rfl) (by simp) ?_
        refine AllReadyH.cons (o := ⟨some 120, _, _, _, _, _⟩) rfl (fun K hK => ?_) AllReadyH.nil
        go_simp
        go_at_call 19; refine (lall (HBB9.out.next HBD.out).t (by have := HN5.out; have := HK9.out; omega)).mono ?_; rintro e v9 ⟨q9, c9, rfl, hl9, _, hb, _, _⟩; rw [HN6.out]; have HL9 := Lib.hid hl9; have HBD := Lib.hid (HBD.out.trans (hb.mono HBD.out.size)); have hS4 := HALL.out _ HBD.out; clear hb hl9
        refine hK.out _ _ hS4 (fun hS5 => ?_)
        try simp only [Act.put, List.setIfInBounds_toArray, List.set_cons_zero, List.set_cons_succ]
        clear hK K hS1; have hS1 := hS4; clear hS4 hS5
        refine wpAnyH_ready (rs := [19]) (by kernel_rfl) (by simp) ?_
        refine AllReadyH.cons (o := ⟨some 125, _, _, _, _, _⟩) rfl (fun K hK => ?_) AllReadyH.nil
        go_simp
        go_at_call 13; refine (rsameD_yes q9 q5 L5 n6 c9 c5 v9 HL9.out.at_ (HX9.out.next HBD.out).at_ HN6.out HMX.out).mono ?_; rintro e v8 ⟨rfl, hb⟩; have HBD := Lib.hid (HBD.out.trans (hb.mono HBD.out.size)); have hS4 := HALL.out _ HBD.out; clear hb
        refine hK.out _ _ hS4 (fun hS5 => ?_)
        try simp only [Act.put, List.setIfInBounds_toArray, List.set_cons_zero, List.set_cons_succ]
        clear hK K hS1; have hS1 := hS4; clear hS4 hS5
        refine wpAnyH_take (i := 20) (oi := ⟨some 126, _, _, _, _, _⟩) (v := ?_) rfl (by kernel_rfl) (by kernel_rfl) (by kernel_rfl) (fun _ _ _ h => h) (Or.inl ⟨by kernel_rfl, fun U hU => by (dsimp only at hU; go_split_ands; go_simp; first | done | with_reducible rfl)⟩) (by assumption) ?_; (try simp only [Act.put, List.setIfInBounds_toArray, List.set_cons_zero, List.set_cons_succ])
        refine wpAnyH_take (i := 21) (oi := ⟨some 127, _, _, _, _, _⟩) (v := ?_) rfl (by kernel_rfl) (by kernel_rfl) (by kernel_rfl) (fun _ _ _ h => h) (Or.inl ⟨by kernel_rfl, fun U hU => by (dsimp only at hU; go_split_ands; go_simp; first | done | with_reducible rfl)⟩) (by assumption) ?_; (try simp only [Act.put, List.setIfInBounds_toArray, List.set_cons_zero, List.set_cons_succ])
        refine wpAnyH_take (i := 22) (oi := ⟨some 128, _, _, _, _, _⟩) (v := ?_) rfl (by kernel_rfl) (by kernel_rfl) (by kernel_rfl) (fun _ _ _ h => h) (Or.inl ⟨by kernel_rfl, fun U hU => by (dsimp only at hU; go_split_ands; go_simp; first | done | with_reducible rfl)⟩) (by assumption) ?_; (try simp only [Act.put, List.setIfInBounds_toArray, List.set_cons_zero, List.set_cons_succ])
        refine wpAnyH_take (i := 23) (oi := ⟨some 129, _, _, _, _, _⟩) (v := ?_) rfl (by kernel_rfl) (by kernel_rfl) (by kernel_rfl) (fun _ _ _ h => h) (Or.inl ⟨by kernel_rfl, fun U hU => by (dsimp only at hU; go_split_ands; go_simp; first | done | with_reducible rfl)⟩) (by assumption) ?_; (try simp only [Act.put, List.setIfInBounds_toArray, List.set_cons_zero, List.set_cons_succ])
        refine wpAnyH_take (i := 25) (oi := ⟨some 131, _, _, _, _, _⟩) (v := ?_) rfl (by kernel_rfl) (by kernel_rfl) (by kernel_rfl) (fun _ _ _ h => h) (Or.inl ⟨by kernel_rfl, fun U hU => by (dsimp only at hU; go_split_ands; go_simp; first | done | with_reducible rfl)⟩) (by assumption) ?_; (try simp only [Act.put, List.setIfInBounds_toArray, List.set_cons_zero, List.set_cons_succ])
        refine wpAnyH_take (i := 26) (oi := ⟨some 132, _, _, _, _, _⟩) (v := ?_) rfl (by kernel_rfl) (by kernel_rfl) (by kernel_rfl) (fun _ _ _ h => h) (Or.inl ⟨by kernel_rfl, fun U hU => by (dsimp only at hU; go_split_ands; go_simp; first | done | with_reducible rfl)⟩) (by assumption) ?_; (try simp only [Act.put, List.setIfInBounds_toArray, List.set_cons_zero, List.set_cons_succ])
        refine wpAnyH_take (i := 27) (oi := ⟨some 133, _, _, _, _, _⟩) (v := ?_) rfl (by kernel_rfl) (by kernel_rfl) (by kernel_rfl) (fun _ _ _ h => h) (Or.inl ⟨by kernel_rfl, fun U hU => by (dsimp only at hU; go_split_ands; go_simp; first | done | with_reducible rfl)⟩) (by assumption) ?_; (try simp only [Act.put, List.setIfInBounds_toArray, List.set_cons_zero, List.set_cons_succ])
        refine wpAnyH_take (i := 28) (oi := ⟨some 134, _, _, _, _, _⟩) (v := ?_) rfl (by kernel_rfl) (by kernel_rfl) (by kernel_rfl) (fun _ _ _ h => h) (Or.inl ⟨by kernel_rfl, fun U hU => by (dsimp only at hU; go_split_ands; go_simp; first | done | with_reducible rfl)⟩) (by assumption) ?_; (try simp only [Act.put, List.setIfInBounds_toArray, List.set_cons_zero, List.set_cons_succ])
        refine wpAnyH_take (i := 29) (oi := ⟨some 135, _, _, _, _, _⟩) (v := ?_) rfl (by kernel_rfl) (by kernel_rfl) (by kernel_rfl) (fun _ _ _ h => h) (Or.inl ⟨by kernel_rfl, fun U hU => by (dsimp only at hU; go_split_ands; go_simp; first | done | with_reducible rfl)⟩) (by assumption) ?_; (try simp only [Act.put, List.setIfInBounds_toArray, List.set_cons_zero, List.set_cons_succ])
        refine wpAnyH_ready (rs := [24]) (by kernel_rfl) (by simp) ?_
        refine AllReadyH.cons (o := ⟨some 130, _, _, _, _, _⟩) rfl (fun K hK => ?_) AllReadyH.nil
        go_simp
        go_at_call 20; refine (tblen_any v8 g b n5 L5 (HBB9.out.next HBD.out).t.tab).mono ?_; rintro e v7 ⟨rfl, rfl⟩; rw [HN6.out]; have hS4 := HALL.out _ HBD.out
        refine hK.out _ _ hS4 (fun hS5 => ?_)
        try simp only [Act.put, List.setIfInBounds_toArray, List.set_cons_zero, List.set_cons_succ]
        clear hK K hS1; have hS1 := hS4; clear hS4 hS5
        refine wpAnyH_take (i := 30) (oi := ⟨some 136, _, _, _, _, _⟩) (v := ?_) rfl (by kernel_rfl) (by kernel_rfl) (by kernel_rfl) (fun _ _ _ h => h) (Or.inl ⟨by kernel_rfl, fun U hU => by (dsimp only at hU; go_split_ands; go_simp; first | done | with_reducible rfl)⟩) (by assumption) ?_; (try simp only [Act.put, List.setIfInBounds_toArray, List.set_cons_zero, List.set_cons_succ])
        refine wpAnyH_take (i := 31) (oi := ⟨some 137, _, _, _, _, _⟩) (v := ?_) rfl (by kernel_rfl) (by kernel_rfl) (by kernel_rfl) (fun _ _ _ h => h) (Or.inl ⟨by kernel_rfl, fun U hU => by (dsimp only at hU; go_split_ands; go_simp; first | done | with_reducible rfl)⟩) (by assumption) ?_; (try simp only [Act.put, List.setIfInBounds_toArray, List.set_cons_zero, List.set_cons_succ])
        refine wpAnyH_done (by kernel_rfl) ?_ _
        go_wp2_with fail
        go_roundw
        case rel => exact ⟨k + 1, by omega, by have := HK9.out; omega, by go_num, n5, L5, HN5.out, HBB9.out.next HBD.out⟩
        case measure => simp [intOf]; omega
    · have HS := Lib.hid (show Calls Try.prog 14 #[.pointer (some ⟨g, 0, none⟩), .int .i64 nw] U.drew _ from bbexp (HTU.out.next (Below.refl _ _).drew) nw HN9.out (by have := HLN.out; omega))
      have hOBD := HOB.out.next (Below.refl U.heap.size U).drew
      have HOBD := Lib.hid hOBD
      obtain ⟨L5, hL5⟩ : ∃ R, leftD nw L = R := ⟨_, rfl⟩
      obtain ⟨Lo, hLo⟩ : ∃ R, overD nw L = R := ⟨_, rfl⟩
      obtain ⟨z7, hz7⟩ : ∃ R, Lo.length = R := ⟨_, rfl⟩
      have HZ7 := Lib.hid hz7
      have HZM := Lib.hid (show z7 ≤ maxLen from by rw [← hz7, ← hLo]; exact Nat.le_trans (List.length_filter_le _ _) (by have := HLN.out; unfold maxLen; omega))
      obtain ⟨n5, hn5⟩ : ∃ n5, nn = n5 := ⟨_, rfl⟩
      have HN5 := Lib.hid (show n5 ≤ k + 1 from hn5 ▸ Nat.le_succ_of_le HNN.out)
      rw [hL5, hLo, hn5, hz7] at HS
      have hS : U.drew.cell? ⟨P, 6, none⟩ = some (.int .i64 nw) := by
        obtain ⟨o0, o1, o2, o3, o4, o5, o6⟩ := oq_boxes hOBD.blk
        exact o6
      clear hL5 hLo hz7 hn5 hOBD
      go_wp2_with fail
      rw [HU.out, HPE.out]
      go_wp2_with fail
      go_region_held_law (fun W => W.cell? ⟨P, 6, none⟩ = some (.int .i64 nw)) (with_reducible assumption) (first
        | (go_at_call 14; refine HS.out.mono ?_; rintro e u1 ⟨q1, c1, rfl, hT1, hN⟩; have HNX := Lib.hid hN; have hOB1 := HOBD.out.turn1 hT1; have hS1 : u1.cell? ⟨P, 6, none⟩ = some (.int .i64 nw) := (by
            obtain ⟨o0, o1, o2, o3, o4, o5, o6⟩ := oq_boxes hOB1.blk
            exact o6); clear hN)
        | (go_at_call 15; refine HNX.out.mono ?_; rintro e u2 ⟨q2, c2, rfl, hd1, hd2, hBB, hT2⟩; have hOB2 := HOBD.out.turn hT2; have HB2 := Lib.hid hBB; have HO2 := Lib.hid hOB2; have HSM := Lib.hid (rsameD_yes q1 q2 Lo z7 c1 c2 u2 hd1 hd2 HZ7.out HZM.out); have hS2 : u2.cell? ⟨P, 6, none⟩ = some (.int .i64 nw) := (by
            obtain ⟨o0, o1, o2, o3, o4, o5, o6⟩ := oq_boxes hOB2.blk
            exact o6); clear hBB hd1 hd2)
        | (go_at_call 13; refine HSM.out.mono ?_; rintro e u3 ⟨rfl, hb3⟩; have HB := Lib.hid (HB2.out.next hb3); have HO := Lib.hid (HO2.out.next hb3); have hS3 : u3.cell? ⟨P, 6, none⟩ = some (.int .i64 nw) := (by
            obtain ⟨o0, o1, o2, o3, o4, o5, o6⟩ := oq_boxes HO.out.blk
            exact o6); clear hb3))
      all_goals
        obtain ⟨o0, o1, o2, o3, o4, o5, o6⟩ := oq_boxes HO.out.blk
        have hl5 := size_le_n HB.out
        obtain ⟨q5, c5, hx5⟩ := HB.out.x
        have HX5 := Lib.hid hx5
        obtain ⟨⟨y0, ⟨y1, y2⟩, y3, y4⟩, hy⟩ : ∃ y, (lookD L5 ⟨x1, x2⟩).getD Dt.zero = y := ⟨_, rfl⟩
        obtain ⟨is, his⟩ : ∃ o, (lookD L5 ⟨x1, x2⟩).isSome = o := ⟨_, rfl⟩
        have hG := tbget_any u3 g b n5 L5 HB.out.t.tab ⟨x1, x2⟩ HPF.out
        rw [hy, his] at hG
        have HG := Lib.hid (show Calls Try.prog 17 #[.pointer (some ⟨g, 0, none⟩), .agg #[.int .u32 x1, .int .i64 x2]] u3 fun e w' => e = .returned (.tuple #[.agg #[.int .i64 y0, .int .u32 y1, .int .i64 y2, .int .i64 y3, .int .i64 y4], .bool is]) ∧ Below u3.heap.size u3 w' from hG)
        have HG2 := Lib.hid (fun (Z : World) (hZ : Below u3.heap.size u3 Z) => show Calls Try.prog 18 #[.pointer (some ⟨r, 0, none⟩), .agg #[.int .u32 x1, .int .i64 x2]] Z fun e w' => e = .returned (.tuple #[.agg #[.int .i64 y0, .int .u32 y1, .int .i64 y2, .int .i64 y3, .int .i64 y4], .bool is]) ∧ Below Z.heap.size Z w' from by
          have := rgetD_any Z r q5 c5 L5 (hx5.next hZ) ⟨x1, x2⟩
          rw [hy, his] at this
          exact this)
        clear hG hy his hx5 hl5
        go_wp2_with fail
        refine HG.out.mono ?_
        rintro e U6 ⟨rfl, hb⟩
        have hbn := newB U6 (.cells #[.int .i64 y0, .int .u32 y1, .int .i64 y2, .int .i64 y3, .int .i64 y4] 36)
        have hY := Blk.new U6 36 [.int .i64 y0, .int .u32 y1, .int .i64 y2, .int .i64 y3, .int .i64 y4]
        obtain ⟨U7, hU7⟩ : ∃ U7, U6.alloc (.cells #[.int .i64 y0, .int .u32 y1, .int .i64 y2, .int .i64 y3, .int .i64 y4] 36) = U7 := ⟨_, rfl⟩
        obtain ⟨A, hA⟩ : ∃ A, U6.heap.size = A := ⟨_, rfl⟩
        rw [hU7] at hbn hY
        rw [hA] at hY
        have HU7 := Lib.hid hU7
        have HAE := Lib.hid hA
        have HB7 := Lib.hid (hb.trans (hbn.mono hb.size))
        have HY := Lib.hid hY
        have HG2 := Lib.hid (HG2.out U7 HB7.out)
        clear o0 o1 o2 o3 o4 o5 o6
        obtain ⟨o0, o1, o2, o3, o4, o5, o6⟩ := oq_boxes (HO.out.next HB7.out).blk
        rw [← hU7] at o0 o1 o2 o3 o4 o5 o6
        clear hU7 hA hbn hY hb
        go_wp2_with fail
        rw [HU7.out, HAE.out]
        refine HG2.out.mono ?_
        rintro e U8 ⟨rfl, hb⟩
        have hbn := newB U8 (.cells #[.int .i64 y0, .int .u32 y1, .int .i64 y2, .int .i64 y3, .int .i64 y4] 36)
        have hZ := Blk.new U8 36 [.int .i64 y0, .int .u32 y1, .int .i64 y2, .int .i64 y3, .int .i64 y4]
        obtain ⟨U9, hU9⟩ : ∃ U9, U8.alloc (.cells #[.int .i64 y0, .int .u32 y1, .int .i64 y2, .int .i64 y3, .int .i64 y4] 36) = U9 := ⟨_, rfl⟩
        obtain ⟨C, hC⟩ : ∃ C, U8.heap.size = C := ⟨_, rfl⟩
        rw [hU9] at hbn hZ
        rw [hC] at hZ
        have HU9 := Lib.hid hU9
        have HCE := Lib.hid hC
        have HB89 := Lib.hid (hb.trans (hbn.mono hb.size))
        have HB9 := Lib.hid (HB7.out.trans (HB89.out.mono HB7.out.size))
        have HY9 := Lib.hid (HY.out.next HB89.out)
        have HZ9 := Lib.hid hZ
        have HBB9 := Lib.hid (HB.out.next HB9.out)
        have HX9 := Lib.hid (HX5.out.next HB9.out)
        obtain ⟨n6, hn6⟩ : ∃ n6, L5.length = n6 := ⟨_, rfl⟩
        have HN6 := Lib.hid hn6
        have HALL := Lib.hid (fun (Z : World) (hZ : Below U9.heap.size U9 Z) => show (Z.cell? ⟨A, 0, none⟩ = some (.int .i64 y0) ∧ Z.cell? ⟨A, 1, none⟩ = some (.int .u32 y1) ∧ Z.cell? ⟨A, 2, none⟩ = some (.int .i64 y2) ∧ Z.cell? ⟨A, 3, none⟩ = some (.int .i64 y3) ∧ Z.cell? ⟨A, 4, none⟩ = some (.int .i64 y4)) ∧ (Z.cell? ⟨C, 0, none⟩ = some (.int .i64 y0) ∧ Z.cell? ⟨C, 1, none⟩ = some (.int .u32 y1) ∧ Z.cell? ⟨C, 2, none⟩ = some (.int .i64 y2) ∧ Z.cell? ⟨C, 3, none⟩ = some (.int .i64 y3) ∧ Z.cell? ⟨C, 4, none⟩ = some (.int .i64 y4)) ∧ Z.cell? ⟨r, 0, none⟩ = some (.slice q5 n6 c5) from ⟨dt_boxes (HY9.out.next hZ), dt_boxes (HZ9.out.next hZ), (HX9.out.next hZ).at0 hn6⟩)
        have hgd := dt_eqGuard
        have hqd : ∀ u, (binOp .neq 36 (.agg #[.int .i64 y0, .int .u32 y1, .int .i64 y2, .int .i64 y3, .int .i64 y4]) (.agg #[.int .i64 y0, .int .u32 y1, .int .i64 y2, .int .i64 y3, .int .i64 y4])).run Try.prog u = .ok (.bool false) u := fun u => by
          have := dt_neq ⟨y0, ⟨y1, y2⟩, y3, y4⟩ ⟨y0, ⟨y1, y2⟩, y3, y4⟩ u
          rw [(eqD_iff _ _).2 rfl] at this
          exact this
        have hbb : (is != is) = false := by cases is <;> rfl
        have hnn6 : ((n6 : Int) != (n6 : Int)) = false := by simp
        have HMX := Lib.hid (show n6 ≤ maxLen from by have := HX9.out.le; have := HX9.out.max; omega)
        have HBD := Lib.hid (show Below U9.heap.size U9 U9.drew from (Below.refl _ _).drew)
        clear hU9 hC hbn hZ hb hn6 o0 o1 o2 o3 o4 o5 o6
        go_wp2_with fail
        rw [HU9.out, HCE.out]
        have hS := HALL.out _ HBD.out
        refine wp_region_held_drew (S := fun w' => (w'.cell? ⟨A, 0, none⟩ = some (.int .i64 y0) ∧ w'.cell? ⟨A, 1, none⟩ = some (.int .u32 y1) ∧ w'.cell? ⟨A, 2, none⟩ = some (.int .i64 y2) ∧ w'.cell? ⟨A, 3, none⟩ = some (.int .i64 y3) ∧ w'.cell? ⟨A, 4, none⟩ = some (.int .i64 y4)) ∧ (w'.cell? ⟨C, 0, none⟩ = some (.int .i64 y0) ∧ w'.cell? ⟨C, 1, none⟩ = some (.int .u32 y1) ∧ w'.cell? ⟨C, 2, none⟩ = some (.int .i64 y2) ∧ w'.cell? ⟨C, 3, none⟩ = some (.int .i64 y3) ∧ w'.cell? ⟨C, 4, none⟩ = some (.int .i64 y4)) ∧ w'.cell? ⟨r, 0, none⟩ = some (.slice q5 n6 c5)) (by kernel_rfl) hS ?_
        intro hS1
        refine wpAnyH_take (i := 0) (oi := ⟨some 106, _, _, _, _, _⟩) (v := ?_) rfl (by kernel_rfl) (by kernel_rfl) (by kernel_rfl) (fun _ _ _ h => h) (Or.inl ⟨by kernel_rfl, fun U hU => by (dsimp only at hU; go_split_ands; go_simp; first | done | with_reducible rfl)⟩) (by assumption) ?_; (try simp only [Act.put, List.setIfInBounds_toArray, List.set_cons_zero, List.set_cons_succ])
        refine wpAnyH_take (i := 1) (oi := ⟨some 107, _, _, _, _, _⟩) (v := ?_) rfl (by kernel_rfl) (by kernel_rfl) (by kernel_rfl) (fun _ _ _ h => h) (Or.inl ⟨by kernel_rfl, fun U hU => by (dsimp only at hU; go_split_ands; go_simp; first | done | with_reducible rfl)⟩) (by assumption) ?_; (try simp only [Act.put, List.setIfInBounds_toArray, List.set_cons_zero, List.set_cons_succ])
        refine wpAnyH_take (i := 2) (oi := ⟨some 108, _, _, _, _, _⟩) (v := ?_) rfl (by kernel_rfl) (by kernel_rfl) (by kernel_rfl) (fun _ _ _ h => h) (Or.inl ⟨by kernel_rfl, fun U hU => by (dsimp only at hU; go_split_ands; go_simp; first | done | with_reducible rfl)⟩) (by assumption) ?_; (try simp only [Act.put, List.setIfInBounds_toArray, List.set_cons_zero, List.set_cons_succ])
        refine wpAnyH_take (i := 3) (oi := ⟨some 109, _, _, _, _, _⟩) (v := ?_) rfl (by kernel_rfl) (by kernel_rfl) (by kernel_rfl) (fun _ _ _ h => h) (Or.inl ⟨by kernel_rfl, fun U hU => by (dsimp only at hU; go_split_ands; go_simp; first | done | with_reducible rfl)⟩) (by assumption) ?_; (try simp only [Act.put, List.setIfInBounds_toArray, List.set_cons_zero, List.set_cons_succ])
        refine wpAnyH_take (i := 4) (oi := ⟨some 110, _, _, _, _, _⟩) (v := ?_) rfl (by kernel_rfl) (by kernel_rfl) (by kernel_rfl) (fun _ _ _ h => h) (Or.inl ⟨by kernel_rfl, fun U hU => by (dsimp only at hU; go_split_ands; go_simp; first | done | with_reducible rfl)⟩) (by assumption) ?_; (try simp only [Act.put, List.setIfInBounds_toArray, List.set_cons_zero, List.set_cons_succ])
        refine wpAnyH_take (i := 5) (oi := ⟨some 111, _, _, _, _, _⟩) (v := ?_) rfl (by kernel_rfl) (by kernel_rfl) (by kernel_rfl) (fun _ _ _ h => h) (Or.inl ⟨by kernel_rfl, fun U hU => by (dsimp only at hU; go_split_ands; go_simp; first | done | with_reducible rfl)⟩) (by assumption) ?_; (try simp only [Act.put, List.setIfInBounds_toArray, List.set_cons_zero, List.set_cons_succ])
        refine wpAnyH_take (i := 6) (oi := ⟨some 112, _, _, _, _, _⟩) (v := ?_) rfl (by kernel_rfl) (by kernel_rfl) (by kernel_rfl) (fun _ _ _ h => h) (Or.inl ⟨by kernel_rfl, fun U hU => by (dsimp only at hU; go_split_ands; go_simp; first | done | with_reducible rfl)⟩) (by assumption) ?_; (try simp only [Act.put, List.setIfInBounds_toArray, List.set_cons_zero, List.set_cons_succ])
        refine wpAnyH_take (i := 7) (oi := ⟨some 113, _, _, _, _, _⟩) (v := ?_) rfl (by kernel_rfl) (by kernel_rfl) (by kernel_rfl) (fun _ _ _ h => h) (Or.inl ⟨by kernel_rfl, fun U hU => by (dsimp only at hU; go_split_ands; go_simp; first | done | with_reducible rfl)⟩) (by assumption) ?_; (try simp only [Act.put, List.setIfInBounds_toArray, List.set_cons_zero, List.set_cons_succ])
        refine wpAnyH_take (i := 8) (oi := ⟨some 114, _, _, _, _, _⟩) (v := ?_) rfl (by kernel_rfl) (by kernel_rfl) (by kernel_rfl) (fun _ _ _ h => h) (Or.inl ⟨by kernel_rfl, fun U hU => by (dsimp only at hU; go_split_ands; go_simp; first | done | with_reducible rfl)⟩) (by assumption) ?_; (try simp only [Act.put, List.setIfInBounds_toArray, List.set_cons_zero, List.set_cons_succ])
        refine wpAnyH_take (i := 9) (oi := ⟨some 115, _, _, _, _, _⟩) (v := ?_) rfl (by kernel_rfl) (by kernel_rfl) (by kernel_rfl) (fun _ _ _ h => h) (Or.inl ⟨by kernel_rfl, fun U hU => by (dsimp only at hU; go_split_ands; go_simp; first | done | with_reducible rfl)⟩) (by assumption) ?_; (try simp only [Act.put, List.setIfInBounds_toArray, List.set_cons_zero, List.set_cons_succ])
        refine wpAnyH_take (i := 10) (oi := ⟨some 116, _, _, _, _, _⟩) (v := ?_) rfl (by kernel_rfl) (by kernel_rfl) (by kernel_rfl) (fun _ _ _ h => h) (Or.inl ⟨by kernel_rfl, fun U hU => by (dsimp only at hU; go_split_ands; go_simp; first | done | with_reducible rfl)⟩) (by assumption) ?_; (try simp only [Act.put, List.setIfInBounds_toArray, List.set_cons_zero, List.set_cons_succ])
        refine wpAnyH_take (i := 11) (oi := ⟨some 117, _, _, _, _, _⟩) (v := ?_) rfl (by kernel_rfl) (by kernel_rfl) (by kernel_rfl) (fun _ _ _ h => h) (Or.inl ⟨by kernel_rfl, fun U hU => by (dsimp only at hU; go_split_ands; go_simp; first | done | with_reducible rfl)⟩) (by assumption) ?_; (try simp only [Act.put, List.setIfInBounds_toArray, List.set_cons_zero, List.set_cons_succ])
        refine wpAnyH_take (i := 12) (oi := ⟨some 118, _, _, _, _, _⟩) (v := ?_) rfl (by kernel_rfl) (by kernel_rfl) (by kernel_rfl) (fun _ _ _ h => h) (Or.inl ⟨by kernel_rfl, fun U hU => by (dsimp only at hU; go_split_ands; go_simp; first | done | with_reducible rfl)⟩) (by assumption) ?_; (try simp only [Act.put, List.setIfInBounds_toArray, List.set_cons_zero, List.set_cons_succ])
        refine wpAnyH_take (i := 13) (oi := ⟨some 119, _, _, _, _, _⟩) (v := ?_) rfl (by kernel_rfl) (by kernel_rfl) (by kernel_rfl) (fun _ _ _ h => h) (Or.inl ⟨by kernel_rfl, fun U hU => by (dsimp only at hU; go_split_ands; go_simp; first | done | with_reducible rfl)⟩) (by assumption) ?_; (try simp only [Act.put, List.setIfInBounds_toArray, List.set_cons_zero, List.set_cons_succ])
        refine wpAnyH_take (i := 15) (oi := ⟨some 121, _, _, _, _, _⟩) (v := ?_) rfl (by kernel_rfl) (by kernel_rfl) (by kernel_rfl) (fun _ _ _ h => h) (Or.inl ⟨by kernel_rfl, fun U hU => by (dsimp only at hU; go_split_ands; go_simp; first | done | with_reducible rfl)⟩) (by assumption) ?_; (try simp only [Act.put, List.setIfInBounds_toArray, List.set_cons_zero, List.set_cons_succ])
        refine wpAnyH_take (i := 16) (oi := ⟨some 122, _, _, _, _, _⟩) (v := ?_) rfl (by kernel_rfl) (by kernel_rfl) (by kernel_rfl) (fun _ _ _ h => h) (Or.inl ⟨by kernel_rfl, fun U hU => by (dsimp only at hU; go_split_ands; go_simp; first | done | with_reducible rfl)⟩) (by assumption) ?_; (try simp only [Act.put, List.setIfInBounds_toArray, List.set_cons_zero, List.set_cons_succ])
        refine wpAnyH_take (i := 17) (oi := ⟨some 123, _, _, _, _, _⟩) (v := ?_) rfl (by kernel_rfl) (by kernel_rfl) (by kernel_rfl) (fun _ _ _ h => h) (Or.inl ⟨by kernel_rfl, fun U hU => by (dsimp only at hU; go_split_ands; go_simp; first | done | with_reducible rfl)⟩) (by assumption) ?_; (try simp only [Act.put, List.setIfInBounds_toArray, List.set_cons_zero, List.set_cons_succ])
        refine wpAnyH_take (i := 18) (oi := ⟨some 124, _, _, _, _, _⟩) (v := ?_) rfl (by kernel_rfl) (by kernel_rfl) (by kernel_rfl) (fun _ _ _ h => h) (Or.inl ⟨by kernel_rfl, fun U hU => by (dsimp only at hU; go_split_ands; go_simp; first | done | with_reducible rfl)⟩) (by assumption) ?_; (try simp only [Act.put, List.setIfInBounds_toArray, List.set_cons_zero, List.set_cons_succ])
        refine wpAnyH_ready (rs := [14]) (by kernel_rfl) (by simp) ?_
        refine AllReadyH.cons (o := ⟨some 120, _, _, _, _, _⟩) rfl (fun K hK => ?_) AllReadyH.nil
        go_simp
        go_at_call 19; refine (lall (HBB9.out.next HBD.out).t (by have := HN5.out; have := HK9.out; omega)).mono ?_; rintro e v9 ⟨q9, c9, rfl, hl9, _, hb, _, _⟩; rw [HN6.out]; have HL9 := Lib.hid hl9; have HBD := Lib.hid (HBD.out.trans (hb.mono HBD.out.size)); have hS4 := HALL.out _ HBD.out; clear hb hl9
        refine hK.out _ _ hS4 (fun hS5 => ?_)
        try simp only [Act.put, List.setIfInBounds_toArray, List.set_cons_zero, List.set_cons_succ]
        clear hK K hS1; have hS1 := hS4; clear hS4 hS5
        refine wpAnyH_ready (rs := [19]) (by kernel_rfl) (by simp) ?_
        refine AllReadyH.cons (o := ⟨some 125, _, _, _, _, _⟩) rfl (fun K hK => ?_) AllReadyH.nil
        go_simp
        go_at_call 13; refine (rsameD_yes q9 q5 L5 n6 c9 c5 v9 HL9.out.at_ (HX9.out.next HBD.out).at_ HN6.out HMX.out).mono ?_; rintro e v8 ⟨rfl, hb⟩; have HBD := Lib.hid (HBD.out.trans (hb.mono HBD.out.size)); have hS4 := HALL.out _ HBD.out; clear hb
        refine hK.out _ _ hS4 (fun hS5 => ?_)
        try simp only [Act.put, List.setIfInBounds_toArray, List.set_cons_zero, List.set_cons_succ]
        clear hK K hS1; have hS1 := hS4; clear hS4 hS5
        refine wpAnyH_take (i := 20) (oi := ⟨some 126, _, _, _, _, _⟩) (v := ?_) rfl (by kernel_rfl) (by kernel_rfl) (by kernel_rfl) (fun _ _ _ h => h) (Or.inl ⟨by kernel_rfl, fun U hU => by (dsimp only at hU; go_split_ands; go_simp; first | done | with_reducible rfl)⟩) (by assumption) ?_; (try simp only [Act.put, List.setIfInBounds_toArray, List.set_cons_zero, List.set_cons_succ])
        refine wpAnyH_take (i := 21) (oi := ⟨some 127, _, _, _, _, _⟩) (v := ?_) rfl (by kernel_rfl) (by kernel_rfl) (by kernel_rfl) (fun _ _ _ h => h) (Or.inl ⟨by kernel_rfl, fun U hU => by (dsimp only at hU; go_split_ands; go_simp; first | done | with_reducible rfl)⟩) (by assumption) ?_; (try simp only [Act.put, List.setIfInBounds_toArray, List.set_cons_zero, List.set_cons_succ])
        refine wpAnyH_take (i := 22) (oi := ⟨some 128, _, _, _, _, _⟩) (v := ?_) rfl (by kernel_rfl) (by kernel_rfl) (by kernel_rfl) (fun _ _ _ h => h) (Or.inl ⟨by kernel_rfl, fun U hU => by (dsimp only at hU; go_split_ands; go_simp; first | done | with_reducible rfl)⟩) (by assumption) ?_; (try simp only [Act.put, List.setIfInBounds_toArray, List.set_cons_zero, List.set_cons_succ])
        refine wpAnyH_take (i := 23) (oi := ⟨some 129, _, _, _, _, _⟩) (v := ?_) rfl (by kernel_rfl) (by kernel_rfl) (by kernel_rfl) (fun _ _ _ h => h) (Or.inl ⟨by kernel_rfl, fun U hU => by (dsimp only at hU; go_split_ands; go_simp; first | done | with_reducible rfl)⟩) (by assumption) ?_; (try simp only [Act.put, List.setIfInBounds_toArray, List.set_cons_zero, List.set_cons_succ])
        refine wpAnyH_take (i := 25) (oi := ⟨some 131, _, _, _, _, _⟩) (v := ?_) rfl (by kernel_rfl) (by kernel_rfl) (by kernel_rfl) (fun _ _ _ h => h) (Or.inl ⟨by kernel_rfl, fun U hU => by (dsimp only at hU; go_split_ands; go_simp; first | done | with_reducible rfl)⟩) (by assumption) ?_; (try simp only [Act.put, List.setIfInBounds_toArray, List.set_cons_zero, List.set_cons_succ])
        refine wpAnyH_take (i := 26) (oi := ⟨some 132, _, _, _, _, _⟩) (v := ?_) rfl (by kernel_rfl) (by kernel_rfl) (by kernel_rfl) (fun _ _ _ h => h) (Or.inl ⟨by kernel_rfl, fun U hU => by (dsimp only at hU; go_split_ands; go_simp; first | done | with_reducible rfl)⟩) (by assumption) ?_; (try simp only [Act.put, List.setIfInBounds_toArray, List.set_cons_zero, List.set_cons_succ])
        refine wpAnyH_take (i := 27) (oi := ⟨some 133, _, _, _, _, _⟩) (v := ?_) rfl (by kernel_rfl) (by kernel_rfl) (by kernel_rfl) (fun _ _ _ h => h) (Or.inl ⟨by kernel_rfl, fun U hU => by (dsimp only at hU; go_split_ands; go_simp; first | done | with_reducible rfl)⟩) (by assumption) ?_; (try simp only [Act.put, List.setIfInBounds_toArray, List.set_cons_zero, List.set_cons_succ])
        refine wpAnyH_take (i := 28) (oi := ⟨some 134, _, _, _, _, _⟩) (v := ?_) rfl (by kernel_rfl) (by kernel_rfl) (by kernel_rfl) (fun _ _ _ h => h) (Or.inl ⟨by kernel_rfl, fun U hU => by (dsimp only at hU; go_split_ands; go_simp; first | done | with_reducible rfl)⟩) (by assumption) ?_; (try simp only [Act.put, List.setIfInBounds_toArray, List.set_cons_zero, List.set_cons_succ])
        refine wpAnyH_take (i := 29) (oi := ⟨some 135, _, _, _, _, _⟩) (v := ?_) rfl (by kernel_rfl) (by kernel_rfl) (by kernel_rfl) (fun _ _ _ h => h) (Or.inl ⟨by kernel_rfl, fun U hU => by (dsimp only at hU; go_split_ands; go_simp; first | done | with_reducible rfl)⟩) (by assumption) ?_; (try simp only [Act.put, List.setIfInBounds_toArray, List.set_cons_zero, List.set_cons_succ])
        refine wpAnyH_ready (rs := [24]) (by kernel_rfl) (by simp) ?_
        refine AllReadyH.cons (o := ⟨some 130, _, _, _, _, _⟩) rfl (fun K hK => ?_) AllReadyH.nil
        go_simp
        go_at_call 20; refine (tblen_any v8 g b n5 L5 (HBB9.out.next HBD.out).t.tab).mono ?_; rintro e v7 ⟨rfl, rfl⟩; rw [HN6.out]; have hS4 := HALL.out _ HBD.out
        refine hK.out _ _ hS4 (fun hS5 => ?_)
        try simp only [Act.put, List.setIfInBounds_toArray, List.set_cons_zero, List.set_cons_succ]
        clear hK K hS1; have hS1 := hS4; clear hS4 hS5
        refine wpAnyH_take (i := 30) (oi := ⟨some 136, _, _, _, _, _⟩) (v := ?_) rfl (by kernel_rfl) (by kernel_rfl) (by kernel_rfl) (fun _ _ _ h => h) (Or.inl ⟨by kernel_rfl, fun U hU => by (dsimp only at hU; go_split_ands; go_simp; first | done | with_reducible rfl)⟩) (by assumption) ?_; (try simp only [Act.put, List.setIfInBounds_toArray, List.set_cons_zero, List.set_cons_succ])
        refine wpAnyH_take (i := 31) (oi := ⟨some 137, _, _, _, _, _⟩) (v := ?_) rfl (by kernel_rfl) (by kernel_rfl) (by kernel_rfl) (fun _ _ _ h => h) (Or.inl ⟨by kernel_rfl, fun U hU => by (dsimp only at hU; go_split_ands; go_simp; first | done | with_reducible rfl)⟩) (by assumption) ?_; (try simp only [Act.put, List.setIfInBounds_toArray, List.set_cons_zero, List.set_cons_succ])
        refine wpAnyH_done (by kernel_rfl) ?_ _
        go_wp2_with fail
        go_roundw
        case rel => exact ⟨k + 1, by omega, by have := HK9.out; omega, by go_num, n5, L5, HN5.out, HBB9.out.next HBD.out⟩
        case measure => simp [intOf]; omega
    · obtain ⟨q8, c8, hx⟩ := HTU.out.x
      have HAP := Lib.hid HTU.out.apart
      obtain ⟨n7, hn7⟩ : ∃ n7, L.length = n7 := ⟨_, rfl⟩
      have X0 := hx.at0 hn7
      have F0 := hx.blk.f 0
      rw [← HU.out] at X0 F0
      have HXX := Lib.hid hx
      have HN7 := Lib.hid hn7
      clear hx hn7 o0 o1 o2 o3 o4 o5 o6
      go_wp2_with fail
      rw [HU.out, HPE.out]
      obtain ⟨Us, hUs⟩ : ∃ Z, U.setCell ⟨r, 0, none⟩ (.slice none 0 0) = Z := ⟨_, rfl⟩
      have hs : Turns (fun k => k = r) U Us := hUs ▸ Turns.setCell (S := fun k => k = r) (Turns.refl _ U) (p := ⟨r, 0, none⟩) (.inl rfl) _
      have hBs : Blk Us r RTf [.slice none 0 0] := hUs ▸ HXX.out.blk.set 0 (.slice none 0 0)
      have HUS := Lib.hid hUs
      have HTS := Lib.hid (tb_turn HTU.out.t hs HAP.out.1 HAP.out.2 HTU.out.rlo)
      have HOS := Lib.hid (HOB.out.turn (hs.mono fun k h => .inr h))
      have HDS := Lib.hid (HXX.out.at_.turns hs fun r0 off e => HXX.out.ne r0 off e)
      have HBS := Lib.hid hBs
      have HRLO := Lib.hid HTU.out.rlo
      clear hUs hs hBs X0 F0
      rw [HUS.out]
      refine (lclear HTS.out HN9.out).mono ?_
      rintro e u1 ⟨q1, c1, rfl, hl1, ht1, hT1, hle1, hmx1⟩
      obtain ⟨es, cl, hes⟩ := HTS.out.tab.map.heap
      have HR1 := Lib.hid (HBS.out.of_same (hT1.block r HBS.out.lt HAP.out.2))
      have HD1 := Lib.hid (show DtsAt u1 q8 L from ⟨HDS.out.ok, HDS.out.cells.imp id fun ⟨g0, off, hp, hc⟩ => ⟨g0, off, hp, fun i hi j v hv => by
        have h1 := hc i hi j v hv
        exact cell_same h1 (hT1.block g0 (World.block_lt_of_cell? _ _ h1) (fun e => cell_notMap h1 hes (by rw [e])))⟩⟩)
      have HSM := Lib.hid (rsameD_yes q1 q8 L n7 c1 c8 u1 hl1.at_ HD1.out HN7.out (by have := HLN.out; have := HN7.out; unfold maxLen; omega))
      have HO1 := Lib.hid (HOS.out.turn1 hT1)
      have HB1 := Lib.hid (show BB W u1 g b 0 r [] from ⟨ht1, ⟨none, 0, HR1.out, LAt.nil _ _ _ _ _ _, Nat.le_refl _, Nat.zero_le _, SrtD.nil, fun x hx => (by cases hx), fun r off e => (by cases e)⟩, HRLO.out⟩)
      rw [HN7.out]
      clear hl1 ht1 hT1 hle1 hmx1 hes HTS HOS HDS HBS HTU HOB
      obtain ⟨n5, hn5⟩ : ∃ n5, 0 = n5 := ⟨_, rfl⟩
      obtain ⟨L5, hL5⟩ : ∃ L5 : List Dt, [] = L5 := ⟨_, rfl⟩
      rw [hn5, hL5] at HB1
      have HN5 := Lib.hid (show n5 ≤ k + 1 by omega)
      clear hn5 hL5
      go_wp2_with fail
      refine HSM.out.mono ?_
      rintro e u2 ⟨rfl, hb2⟩
      have HB := Lib.hid (HB1.out.next hb2)
      have HO := Lib.hid (HO1.out.next hb2)
      clear hb2
      obtain ⟨o0, o1, o2, o3, o4, o5, o6⟩ := oq_boxes HO.out.blk
      have hl5 := size_le_n HB.out
      obtain ⟨q5, c5, hx5⟩ := HB.out.x
      have HX5 := Lib.hid hx5
      obtain ⟨⟨y0, ⟨y1, y2⟩, y3, y4⟩, hy⟩ : ∃ y, (lookD L5 ⟨x1, x2⟩).getD Dt.zero = y := ⟨_, rfl⟩
      obtain ⟨is, his⟩ : ∃ o, (lookD L5 ⟨x1, x2⟩).isSome = o := ⟨_, rfl⟩
      have hG := tbget_any u2 g b n5 L5 HB.out.t.tab ⟨x1, x2⟩ HPF.out
      rw [hy, his] at hG
      have HG := Lib.hid (show Calls Try.prog 17 #[.pointer (some ⟨g, 0, none⟩), .agg #[.int .u32 x1, .int .i64 x2]] u2 fun e w' => e = .returned (.tuple #[.agg #[.int .i64 y0, .int .u32 y1, .int .i64 y2, .int .i64 y3, .int .i64 y4], .bool is]) ∧ Below u2.heap.size u2 w' from hG)
      have HG2 := Lib.hid (fun (Z : World) (hZ : Below u2.heap.size u2 Z) => show Calls Try.prog 18 #[.pointer (some ⟨r, 0, none⟩), .agg #[.int .u32 x1, .int .i64 x2]] Z fun e w' => e = .returned (.tuple #[.agg #[.int .i64 y0, .int .u32 y1, .int .i64 y2, .int .i64 y3, .int .i64 y4], .bool is]) ∧ Below Z.heap.size Z w' from by
        have := rgetD_any Z r q5 c5 L5 (hx5.next hZ) ⟨x1, x2⟩
        rw [hy, his] at this
        exact this)
      clear hG hy his hx5 hl5
      go_wp2_with fail
      refine HG.out.mono ?_
      rintro e U6 ⟨rfl, hb⟩
      have hbn := newB U6 (.cells #[.int .i64 y0, .int .u32 y1, .int .i64 y2, .int .i64 y3, .int .i64 y4] 36)
      have hY := Blk.new U6 36 [.int .i64 y0, .int .u32 y1, .int .i64 y2, .int .i64 y3, .int .i64 y4]
      obtain ⟨U7, hU7⟩ : ∃ U7, U6.alloc (.cells #[.int .i64 y0, .int .u32 y1, .int .i64 y2, .int .i64 y3, .int .i64 y4] 36) = U7 := ⟨_, rfl⟩
      obtain ⟨A, hA⟩ : ∃ A, U6.heap.size = A := ⟨_, rfl⟩
      rw [hU7] at hbn hY
      rw [hA] at hY
      have HU7 := Lib.hid hU7
      have HAE := Lib.hid hA
      have HB7 := Lib.hid (hb.trans (hbn.mono hb.size))
      have HY := Lib.hid hY
      have HG2 := Lib.hid (HG2.out U7 HB7.out)
      clear o0 o1 o2 o3 o4 o5 o6
      obtain ⟨o0, o1, o2, o3, o4, o5, o6⟩ := oq_boxes (HO.out.next HB7.out).blk
      rw [← hU7] at o0 o1 o2 o3 o4 o5 o6
      clear hU7 hA hbn hY hb
      go_wp2_with fail
      rw [HU7.out, HAE.out]
      refine HG2.out.mono ?_
      rintro e U8 ⟨rfl, hb⟩
      have hbn := newB U8 (.cells #[.int .i64 y0, .int .u32 y1, .int .i64 y2, .int .i64 y3, .int .i64 y4] 36)
      have hZ := Blk.new U8 36 [.int .i64 y0, .int .u32 y1, .int .i64 y2, .int .i64 y3, .int .i64 y4]
      obtain ⟨U9, hU9⟩ : ∃ U9, U8.alloc (.cells #[.int .i64 y0, .int .u32 y1, .int .i64 y2, .int .i64 y3, .int .i64 y4] 36) = U9 := ⟨_, rfl⟩
      obtain ⟨C, hC⟩ : ∃ C, U8.heap.size = C := ⟨_, rfl⟩
      rw [hU9] at hbn hZ
      rw [hC] at hZ
      have HU9 := Lib.hid hU9
      have HCE := Lib.hid hC
      have HB89 := Lib.hid (hb.trans (hbn.mono hb.size))
      have HB9 := Lib.hid (HB7.out.trans (HB89.out.mono HB7.out.size))
      have HY9 := Lib.hid (HY.out.next HB89.out)
      have HZ9 := Lib.hid hZ
      have HBB9 := Lib.hid (HB.out.next HB9.out)
      have HX9 := Lib.hid (HX5.out.next HB9.out)
      obtain ⟨n6, hn6⟩ : ∃ n6, L5.length = n6 := ⟨_, rfl⟩
      have HN6 := Lib.hid hn6
      have HALL := Lib.hid (fun (Z : World) (hZ : Below U9.heap.size U9 Z) => show (Z.cell? ⟨A, 0, none⟩ = some (.int .i64 y0) ∧ Z.cell? ⟨A, 1, none⟩ = some (.int .u32 y1) ∧ Z.cell? ⟨A, 2, none⟩ = some (.int .i64 y2) ∧ Z.cell? ⟨A, 3, none⟩ = some (.int .i64 y3) ∧ Z.cell? ⟨A, 4, none⟩ = some (.int .i64 y4)) ∧ (Z.cell? ⟨C, 0, none⟩ = some (.int .i64 y0) ∧ Z.cell? ⟨C, 1, none⟩ = some (.int .u32 y1) ∧ Z.cell? ⟨C, 2, none⟩ = some (.int .i64 y2) ∧ Z.cell? ⟨C, 3, none⟩ = some (.int .i64 y3) ∧ Z.cell? ⟨C, 4, none⟩ = some (.int .i64 y4)) ∧ Z.cell? ⟨r, 0, none⟩ = some (.slice q5 n6 c5) from ⟨dt_boxes (HY9.out.next hZ), dt_boxes (HZ9.out.next hZ), (HX9.out.next hZ).at0 hn6⟩)
      have hgd := dt_eqGuard
      have hqd : ∀ u, (binOp .neq 36 (.agg #[.int .i64 y0, .int .u32 y1, .int .i64 y2, .int .i64 y3, .int .i64 y4]) (.agg #[.int .i64 y0, .int .u32 y1, .int .i64 y2, .int .i64 y3, .int .i64 y4])).run Try.prog u = .ok (.bool false) u := fun u => by
        have := dt_neq ⟨y0, ⟨y1, y2⟩, y3, y4⟩ ⟨y0, ⟨y1, y2⟩, y3, y4⟩ u
        rw [(eqD_iff _ _).2 rfl] at this
        exact this
      have hbb : (is != is) = false := by cases is <;> rfl
      have hnn6 : ((n6 : Int) != (n6 : Int)) = false := by simp
      have HMX := Lib.hid (show n6 ≤ maxLen from by have := HX9.out.le; have := HX9.out.max; omega)
      have HBD := Lib.hid (show Below U9.heap.size U9 U9.drew from (Below.refl _ _).drew)
      clear hU9 hC hbn hZ hb hn6 o0 o1 o2 o3 o4 o5 o6
      go_wp2_with fail
      rw [HU9.out, HCE.out]
      have hS := HALL.out _ HBD.out
      refine wp_region_held_drew (S := fun w' => (w'.cell? ⟨A, 0, none⟩ = some (.int .i64 y0) ∧ w'.cell? ⟨A, 1, none⟩ = some (.int .u32 y1) ∧ w'.cell? ⟨A, 2, none⟩ = some (.int .i64 y2) ∧ w'.cell? ⟨A, 3, none⟩ = some (.int .i64 y3) ∧ w'.cell? ⟨A, 4, none⟩ = some (.int .i64 y4)) ∧ (w'.cell? ⟨C, 0, none⟩ = some (.int .i64 y0) ∧ w'.cell? ⟨C, 1, none⟩ = some (.int .u32 y1) ∧ w'.cell? ⟨C, 2, none⟩ = some (.int .i64 y2) ∧ w'.cell? ⟨C, 3, none⟩ = some (.int .i64 y3) ∧ w'.cell? ⟨C, 4, none⟩ = some (.int .i64 y4)) ∧ w'.cell? ⟨r, 0, none⟩ = some (.slice q5 n6 c5)) (by kernel_rfl) hS ?_
      intro hS1
      refine wpAnyH_take (i := 0) (oi := ⟨some 106, _, _, _, _, _⟩) (v := ?_) rfl (by kernel_rfl) (by kernel_rfl) (by kernel_rfl) (fun _ _ _ h => h) (Or.inl ⟨by kernel_rfl, fun U hU => by (dsimp only at hU; go_split_ands; go_simp; first | done | with_reducible rfl)⟩) (by assumption) ?_; (try simp only [Act.put, List.setIfInBounds_toArray, List.set_cons_zero, List.set_cons_succ])
      refine wpAnyH_take (i := 1) (oi := ⟨some 107, _, _, _, _, _⟩) (v := ?_) rfl (by kernel_rfl) (by kernel_rfl) (by kernel_rfl) (fun _ _ _ h => h) (Or.inl ⟨by kernel_rfl, fun U hU => by (dsimp only at hU; go_split_ands; go_simp; first | done | with_reducible rfl)⟩) (by assumption) ?_; (try simp only [Act.put, List.setIfInBounds_toArray, List.set_cons_zero, List.set_cons_succ])
      refine wpAnyH_take (i := 2) (oi := ⟨some 108, _, _, _, _, _⟩) (v := ?_) rfl (by kernel_rfl) (by kernel_rfl) (by kernel_rfl) (fun _ _ _ h => h) (Or.inl ⟨by kernel_rfl, fun U hU => by (dsimp only at hU; go_split_ands; go_simp; first | done | with_reducible rfl)⟩) (by assumption) ?_; (try simp only [Act.put, List.setIfInBounds_toArray, List.set_cons_zero, List.set_cons_succ])
      refine wpAnyH_take (i := 3) (oi := ⟨some 109, _, _, _, _, _⟩) (v := ?_) rfl (by kernel_rfl) (by kernel_rfl) (by kernel_rfl) (fun _ _ _ h => h) (Or.inl ⟨by kernel_rfl, fun U hU => by (dsimp only at hU; go_split_ands; go_simp; first | done | with_reducible rfl)⟩) (by assumption) ?_; (try simp only [Act.put, List.setIfInBounds_toArray, List.set_cons_zero, List.set_cons_succ])
      refine wpAnyH_take (i := 4) (oi := ⟨some 110, _, _, _, _, _⟩) (v := ?_) rfl (by kernel_rfl) (by kernel_rfl) (by kernel_rfl) (fun _ _ _ h => h) (Or.inl ⟨by kernel_rfl, fun U hU => by (dsimp only at hU; go_split_ands; go_simp; first | done | with_reducible rfl)⟩) (by assumption) ?_; (try simp only [Act.put, List.setIfInBounds_toArray, List.set_cons_zero, List.set_cons_succ])
      refine wpAnyH_take (i := 5) (oi := ⟨some 111, _, _, _, _, _⟩) (v := ?_) rfl (by kernel_rfl) (by kernel_rfl) (by kernel_rfl) (fun _ _ _ h => h) (Or.inl ⟨by kernel_rfl, fun U hU => by (dsimp only at hU; go_split_ands; go_simp; first | done | with_reducible rfl)⟩) (by assumption) ?_; (try simp only [Act.put, List.setIfInBounds_toArray, List.set_cons_zero, List.set_cons_succ])
      refine wpAnyH_take (i := 6) (oi := ⟨some 112, _, _, _, _, _⟩) (v := ?_) rfl (by kernel_rfl) (by kernel_rfl) (by kernel_rfl) (fun _ _ _ h => h) (Or.inl ⟨by kernel_rfl, fun U hU => by (dsimp only at hU; go_split_ands; go_simp; first | done | with_reducible rfl)⟩) (by assumption) ?_; (try simp only [Act.put, List.setIfInBounds_toArray, List.set_cons_zero, List.set_cons_succ])
      refine wpAnyH_take (i := 7) (oi := ⟨some 113, _, _, _, _, _⟩) (v := ?_) rfl (by kernel_rfl) (by kernel_rfl) (by kernel_rfl) (fun _ _ _ h => h) (Or.inl ⟨by kernel_rfl, fun U hU => by (dsimp only at hU; go_split_ands; go_simp; first | done | with_reducible rfl)⟩) (by assumption) ?_; (try simp only [Act.put, List.setIfInBounds_toArray, List.set_cons_zero, List.set_cons_succ])
      refine wpAnyH_take (i := 8) (oi := ⟨some 114, _, _, _, _, _⟩) (v := ?_) rfl (by kernel_rfl) (by kernel_rfl) (by kernel_rfl) (fun _ _ _ h => h) (Or.inl ⟨by kernel_rfl, fun U hU => by (dsimp only at hU; go_split_ands; go_simp; first | done | with_reducible rfl)⟩) (by assumption) ?_; (try simp only [Act.put, List.setIfInBounds_toArray, List.set_cons_zero, List.set_cons_succ])
      refine wpAnyH_take (i := 9) (oi := ⟨some 115, _, _, _, _, _⟩) (v := ?_) rfl (by kernel_rfl) (by kernel_rfl) (by kernel_rfl) (fun _ _ _ h => h) (Or.inl ⟨by kernel_rfl, fun U hU => by (dsimp only at hU; go_split_ands; go_simp; first | done | with_reducible rfl)⟩) (by assumption) ?_; (try simp only [Act.put, List.setIfInBounds_toArray, List.set_cons_zero, List.set_cons_succ])
      refine wpAnyH_take (i := 10) (oi := ⟨some 116, _, _, _, _, _⟩) (v := ?_) rfl (by kernel_rfl) (by kernel_rfl) (by kernel_rfl) (fun _ _ _ h => h) (Or.inl ⟨by kernel_rfl, fun U hU => by (dsimp only at hU; go_split_ands; go_simp; first | done | with_reducible rfl)⟩) (by assumption) ?_; (try simp only [Act.put, List.setIfInBounds_toArray, List.set_cons_zero, List.set_cons_succ])
      refine wpAnyH_take (i := 11) (oi := ⟨some 117, _, _, _, _, _⟩) (v := ?_) rfl (by kernel_rfl) (by kernel_rfl) (by kernel_rfl) (fun _ _ _ h => h) (Or.inl ⟨by kernel_rfl, fun U hU => by (dsimp only at hU; go_split_ands; go_simp; first | done | with_reducible rfl)⟩) (by assumption) ?_; (try simp only [Act.put, List.setIfInBounds_toArray, List.set_cons_zero, List.set_cons_succ])
      refine wpAnyH_take (i := 12) (oi := ⟨some 118, _, _, _, _, _⟩) (v := ?_) rfl (by kernel_rfl) (by kernel_rfl) (by kernel_rfl) (fun _ _ _ h => h) (Or.inl ⟨by kernel_rfl, fun U hU => by (dsimp only at hU; go_split_ands; go_simp; first | done | with_reducible rfl)⟩) (by assumption) ?_; (try simp only [Act.put, List.setIfInBounds_toArray, List.set_cons_zero, List.set_cons_succ])
      refine wpAnyH_take (i := 13) (oi := ⟨some 119, _, _, _, _, _⟩) (v := ?_) rfl (by kernel_rfl) (by kernel_rfl) (by kernel_rfl) (fun _ _ _ h => h) (Or.inl ⟨by kernel_rfl, fun U hU => by (dsimp only at hU; go_split_ands; go_simp; first | done | with_reducible rfl)⟩) (by assumption) ?_; (try simp only [Act.put, List.setIfInBounds_toArray, List.set_cons_zero, List.set_cons_succ])
      refine wpAnyH_take (i := 15) (oi := ⟨some 121, _, _, _, _, _⟩) (v := ?_) rfl (by kernel_rfl) (by kernel_rfl) (by kernel_rfl) (fun _ _ _ h => h) (Or.inl ⟨by kernel_rfl, fun U hU => by (dsimp only at hU; go_split_ands; go_simp; first | done | with_reducible rfl)⟩) (by assumption) ?_; (try simp only [Act.put, List.setIfInBounds_toArray, List.set_cons_zero, List.set_cons_succ])
      refine wpAnyH_take (i := 16) (oi := ⟨some 122, _, _, _, _, _⟩) (v := ?_) rfl (by kernel_rfl) (by kernel_rfl) (by kernel_rfl) (fun _ _ _ h => h) (Or.inl ⟨by kernel_rfl, fun U hU => by (dsimp only at hU; go_split_ands; go_simp; first | done | with_reducible rfl)⟩) (by assumption) ?_; (try simp only [Act.put, List.setIfInBounds_toArray, List.set_cons_zero, List.set_cons_succ])
      refine wpAnyH_take (i := 17) (oi := ⟨some 123, _, _, _, _, _⟩) (v := ?_) rfl (by kernel_rfl) (by kernel_rfl) (by kernel_rfl) (fun _ _ _ h => h) (Or.inl ⟨by kernel_rfl, fun U hU => by (dsimp only at hU; go_split_ands; go_simp; first | done | with_reducible rfl)⟩) (by assumption) ?_; (try simp only [Act.put, List.setIfInBounds_toArray, List.set_cons_zero, List.set_cons_succ])
      refine wpAnyH_take (i := 18) (oi := ⟨some 124, _, _, _, _, _⟩) (v := ?_) rfl (by kernel_rfl) (by kernel_rfl) (by kernel_rfl) (fun _ _ _ h => h) (Or.inl ⟨by kernel_rfl, fun U hU => by (dsimp only at hU; go_split_ands; go_simp; first | done | with_reducible rfl)⟩) (by assumption) ?_; (try simp only [Act.put, List.setIfInBounds_toArray, List.set_cons_zero, List.set_cons_succ])
      refine wpAnyH_ready (rs := [14]) (by kernel_rfl) (by simp) ?_
      refine AllReadyH.cons (o := ⟨some 120, _, _, _, _, _⟩) rfl (fun K hK => ?_) AllReadyH.nil
      go_simp
      go_at_call 19; refine (lall (HBB9.out.next HBD.out).t (by have := HN5.out; have := HK9.out; omega)).mono ?_; rintro e v9 ⟨q9, c9, rfl, hl9, _, hb, _, _⟩; rw [HN6.out]; have HL9 := Lib.hid hl9; have HBD := Lib.hid (HBD.out.trans (hb.mono HBD.out.size)); have hS4 := HALL.out _ HBD.out; clear hb hl9
      refine hK.out _ _ hS4 (fun hS5 => ?_)
      try simp only [Act.put, List.setIfInBounds_toArray, List.set_cons_zero, List.set_cons_succ]
      clear hK K hS1; have hS1 := hS4; clear hS4 hS5
      refine wpAnyH_ready (rs := [19]) (by kernel_rfl) (by simp) ?_
      refine AllReadyH.cons (o := ⟨some 125, _, _, _, _, _⟩) rfl (fun K hK => ?_) AllReadyH.nil
      go_simp
      go_at_call 13; refine (rsameD_yes q9 q5 L5 n6 c9 c5 v9 HL9.out.at_ (HX9.out.next HBD.out).at_ HN6.out HMX.out).mono ?_; rintro e v8 ⟨rfl, hb⟩; have HBD := Lib.hid (HBD.out.trans (hb.mono HBD.out.size)); have hS4 := HALL.out _ HBD.out; clear hb
      refine hK.out _ _ hS4 (fun hS5 => ?_)
      try simp only [Act.put, List.setIfInBounds_toArray, List.set_cons_zero, List.set_cons_succ]
      clear hK K hS1; have hS1 := hS4; clear hS4 hS5
      refine wpAnyH_take (i := 20) (oi := ⟨some 126, _, _, _, _, _⟩) (v := ?_) rfl (by kernel_rfl) (by kernel_rfl) (by kernel_rfl) (fun _ _ _ h => h) (Or.inl ⟨by kernel_rfl, fun U hU => by (dsimp only at hU; go_split_ands; go_simp; first | done | with_reducible rfl)⟩) (by assumption) ?_; (try simp only [Act.put, List.setIfInBounds_toArray, List.set_cons_zero, List.set_cons_succ])
      refine wpAnyH_take (i := 21) (oi := ⟨some 127, _, _, _, _, _⟩) (v := ?_) rfl (by kernel_rfl) (by kernel_rfl) (by kernel_rfl) (fun _ _ _ h => h) (Or.inl ⟨by kernel_rfl, fun U hU => by (dsimp only at hU; go_split_ands; go_simp; first | done | with_reducible rfl)⟩) (by assumption) ?_; (try simp only [Act.put, List.setIfInBounds_toArray, List.set_cons_zero, List.set_cons_succ])
      refine wpAnyH_take (i := 22) (oi := ⟨some 128, _, _, _, _, _⟩) (v := ?_) rfl (by kernel_rfl) (by kernel_rfl) (by kernel_rfl) (fun _ _ _ h => h) (Or.inl ⟨by kernel_rfl, fun U hU => by (dsimp only at hU; go_split_ands; go_simp; first | done | with_reducible rfl)⟩) (by assumption) ?_; (try simp only [Act.put, List.setIfInBounds_toArray, List.set_cons_zero, List.set_cons_succ])
      refine wpAnyH_take (i := 23) (oi := ⟨some 129, _, _, _, _, _⟩) (v := ?_) rfl (by kernel_rfl) (by kernel_rfl) (by kernel_rfl) (fun _ _ _ h => h) (Or.inl ⟨by kernel_rfl, fun U hU => by (dsimp only at hU; go_split_ands; go_simp; first | done | with_reducible rfl)⟩) (by assumption) ?_; (try simp only [Act.put, List.setIfInBounds_toArray, List.set_cons_zero, List.set_cons_succ])
      refine wpAnyH_take (i := 25) (oi := ⟨some 131, _, _, _, _, _⟩) (v := ?_) rfl (by kernel_rfl) (by kernel_rfl) (by kernel_rfl) (fun _ _ _ h => h) (Or.inl ⟨by kernel_rfl, fun U hU => by (dsimp only at hU; go_split_ands; go_simp; first | done | with_reducible rfl)⟩) (by assumption) ?_; (try simp only [Act.put, List.setIfInBounds_toArray, List.set_cons_zero, List.set_cons_succ])
      refine wpAnyH_take (i := 26) (oi := ⟨some 132, _, _, _, _, _⟩) (v := ?_) rfl (by kernel_rfl) (by kernel_rfl) (by kernel_rfl) (fun _ _ _ h => h) (Or.inl ⟨by kernel_rfl, fun U hU => by (dsimp only at hU; go_split_ands; go_simp; first | done | with_reducible rfl)⟩) (by assumption) ?_; (try simp only [Act.put, List.setIfInBounds_toArray, List.set_cons_zero, List.set_cons_succ])
      refine wpAnyH_take (i := 27) (oi := ⟨some 133, _, _, _, _, _⟩) (v := ?_) rfl (by kernel_rfl) (by kernel_rfl) (by kernel_rfl) (fun _ _ _ h => h) (Or.inl ⟨by kernel_rfl, fun U hU => by (dsimp only at hU; go_split_ands; go_simp; first | done | with_reducible rfl)⟩) (by assumption) ?_; (try simp only [Act.put, List.setIfInBounds_toArray, List.set_cons_zero, List.set_cons_succ])
      refine wpAnyH_take (i := 28) (oi := ⟨some 134, _, _, _, _, _⟩) (v := ?_) rfl (by kernel_rfl) (by kernel_rfl) (by kernel_rfl) (fun _ _ _ h => h) (Or.inl ⟨by kernel_rfl, fun U hU => by (dsimp only at hU; go_split_ands; go_simp; first | done | with_reducible rfl)⟩) (by assumption) ?_; (try simp only [Act.put, List.setIfInBounds_toArray, List.set_cons_zero, List.set_cons_succ])
      refine wpAnyH_take (i := 29) (oi := ⟨some 135, _, _, _, _, _⟩) (v := ?_) rfl (by kernel_rfl) (by kernel_rfl) (by kernel_rfl) (fun _ _ _ h => h) (Or.inl ⟨by kernel_rfl, fun U hU => by (dsimp only at hU; go_split_ands; go_simp; first | done | with_reducible rfl)⟩) (by assumption) ?_; (try simp only [Act.put, List.setIfInBounds_toArray, List.set_cons_zero, List.set_cons_succ])
      refine wpAnyH_ready (rs := [24]) (by kernel_rfl) (by simp) ?_
      refine AllReadyH.cons (o := ⟨some 130, _, _, _, _, _⟩) rfl (fun K hK => ?_) AllReadyH.nil
      go_simp
      go_at_call 20; refine (tblen_any v8 g b n5 L5 (HBB9.out.next HBD.out).t.tab).mono ?_; rintro e v7 ⟨rfl, rfl⟩; rw [HN6.out]; have hS4 := HALL.out _ HBD.out
      refine hK.out _ _ hS4 (fun hS5 => ?_)
      try simp only [Act.put, List.setIfInBounds_toArray, List.set_cons_zero, List.set_cons_succ]
      clear hK K hS1; have hS1 := hS4; clear hS4 hS5
      refine wpAnyH_take (i := 30) (oi := ⟨some 136, _, _, _, _, _⟩) (v := ?_) rfl (by kernel_rfl) (by kernel_rfl) (by kernel_rfl) (fun _ _ _ h => h) (Or.inl ⟨by kernel_rfl, fun U hU => by (dsimp only at hU; go_split_ands; go_simp; first | done | with_reducible rfl)⟩) (by assumption) ?_; (try simp only [Act.put, List.setIfInBounds_toArray, List.set_cons_zero, List.set_cons_succ])
      refine wpAnyH_take (i := 31) (oi := ⟨some 137, _, _, _, _, _⟩) (v := ?_) rfl (by kernel_rfl) (by kernel_rfl) (by kernel_rfl) (fun _ _ _ h => h) (Or.inl ⟨by kernel_rfl, fun U hU => by (dsimp only at hU; go_split_ands; go_simp; first | done | with_reducible rfl)⟩) (by assumption) ?_; (try simp only [Act.put, List.setIfInBounds_toArray, List.set_cons_zero, List.set_cons_succ])
      refine wpAnyH_done (by kernel_rfl) ?_ _
      go_wp2_with fail
      go_roundw
      case rel => exact ⟨k + 1, by omega, by have := HK9.out; omega, by go_num, n5, L5, HN5.out, HBB9.out.next HBD.out⟩
      case measure => simp [intOf]; omega
    · obtain ⟨L5, hL5⟩ : ∃ L5, L = L5 := ⟨_, rfl⟩
      obtain ⟨n5, hn5⟩ : ∃ n5, nn = n5 := ⟨_, rfl⟩
      have HB := Lib.hid (show BB W U g b n5 r L5 from hL5 ▸ hn5 ▸ HTU.out)
      have HO := HOB
      have HN5 := Lib.hid (show n5 ≤ k + 1 from hn5 ▸ Nat.le_succ_of_le HNN.out)
      clear hL5 hn5 HTU HOB
      go_wp2_with fail
      rw [HU.out, HPE.out]
      obtain ⟨o0, o1, o2, o3, o4, o5, o6⟩ := oq_boxes HO.out.blk
      have hl5 := size_le_n HB.out
      obtain ⟨q5, c5, hx5⟩ := HB.out.x
      have HX5 := Lib.hid hx5
      obtain ⟨⟨y0, ⟨y1, y2⟩, y3, y4⟩, hy⟩ : ∃ y, (lookD L5 ⟨x1, x2⟩).getD Dt.zero = y := ⟨_, rfl⟩
      obtain ⟨is, his⟩ : ∃ o, (lookD L5 ⟨x1, x2⟩).isSome = o := ⟨_, rfl⟩
      have hG := tbget_any U g b n5 L5 HB.out.t.tab ⟨x1, x2⟩ HPF.out
      rw [hy, his] at hG
      have HG := Lib.hid (show Calls Try.prog 17 #[.pointer (some ⟨g, 0, none⟩), .agg #[.int .u32 x1, .int .i64 x2]] U fun e w' => e = .returned (.tuple #[.agg #[.int .i64 y0, .int .u32 y1, .int .i64 y2, .int .i64 y3, .int .i64 y4], .bool is]) ∧ Below U.heap.size U w' from hG)
      have HG2 := Lib.hid (fun (Z : World) (hZ : Below U.heap.size U Z) => show Calls Try.prog 18 #[.pointer (some ⟨r, 0, none⟩), .agg #[.int .u32 x1, .int .i64 x2]] Z fun e w' => e = .returned (.tuple #[.agg #[.int .i64 y0, .int .u32 y1, .int .i64 y2, .int .i64 y3, .int .i64 y4], .bool is]) ∧ Below Z.heap.size Z w' from by
        have := rgetD_any Z r q5 c5 L5 (hx5.next hZ) ⟨x1, x2⟩
        rw [hy, his] at this
        exact this)
      clear hG hy his hx5 hl5
      go_wp2_with fail
      refine HG.out.mono ?_
      rintro e U6 ⟨rfl, hb⟩
      have hbn := newB U6 (.cells #[.int .i64 y0, .int .u32 y1, .int .i64 y2, .int .i64 y3, .int .i64 y4] 36)
      have hY := Blk.new U6 36 [.int .i64 y0, .int .u32 y1, .int .i64 y2, .int .i64 y3, .int .i64 y4]
      obtain ⟨U7, hU7⟩ : ∃ U7, U6.alloc (.cells #[.int .i64 y0, .int .u32 y1, .int .i64 y2, .int .i64 y3, .int .i64 y4] 36) = U7 := ⟨_, rfl⟩
      obtain ⟨A, hA⟩ : ∃ A, U6.heap.size = A := ⟨_, rfl⟩
      rw [hU7] at hbn hY
      rw [hA] at hY
      have HU7 := Lib.hid hU7
      have HAE := Lib.hid hA
      have HB7 := Lib.hid (hb.trans (hbn.mono hb.size))
      have HY := Lib.hid hY
      have HG2 := Lib.hid (HG2.out U7 HB7.out)
      clear o0 o1 o2 o3 o4 o5 o6
      obtain ⟨o0, o1, o2, o3, o4, o5, o6⟩ := oq_boxes (HO.out.next HB7.out).blk
      rw [← hU7] at o0 o1 o2 o3 o4 o5 o6
      clear hU7 hA hbn hY hb
      go_wp2_with fail
      rw [HU7.out, HAE.out]
      refine HG2.out.mono ?_
      rintro e U8 ⟨rfl, hb⟩
      have hbn := newB U8 (.cells #[.int .i64 y0, .int .u32 y1, .int .i64 y2, .int .i64 y3, .int .i64 y4] 36)
      have hZ := Blk.new U8 36 [.int .i64 y0, .int .u32 y1, .int .i64 y2, .int .i64 y3, .int .i64 y4]
      obtain ⟨U9, hU9⟩ : ∃ U9, U8.alloc (.cells #[.int .i64 y0, .int .u32 y1, .int .i64 y2, .int .i64 y3, .int .i64 y4] 36) = U9 := ⟨_, rfl⟩
      obtain ⟨C, hC⟩ : ∃ C, U8.heap.size = C := ⟨_, rfl⟩
      rw [hU9] at hbn hZ
      rw [hC] at hZ
      have HU9 := Lib.hid hU9
      have HCE := Lib.hid hC
      have HB89 := Lib.hid (hb.trans (hbn.mono hb.size))
      have HB9 := Lib.hid (HB7.out.trans (HB89.out.mono HB7.out.size))
      have HY9 := Lib.hid (HY.out.next HB89.out)
      have HZ9 := Lib.hid hZ
      have HBB9 := Lib.hid (HB.out.next HB9.out)
      have HX9 := Lib.hid (HX5.out.next HB9.out)
      obtain ⟨n6, hn6⟩ : ∃ n6, L5.length = n6 := ⟨_, rfl⟩
      have HN6 := Lib.hid hn6
      have HALL := Lib.hid (fun (Z : World) (hZ : Below U9.heap.size U9 Z) => show (Z.cell? ⟨A, 0, none⟩ = some (.int .i64 y0) ∧ Z.cell? ⟨A, 1, none⟩ = some (.int .u32 y1) ∧ Z.cell? ⟨A, 2, none⟩ = some (.int .i64 y2) ∧ Z.cell? ⟨A, 3, none⟩ = some (.int .i64 y3) ∧ Z.cell? ⟨A, 4, none⟩ = some (.int .i64 y4)) ∧ (Z.cell? ⟨C, 0, none⟩ = some (.int .i64 y0) ∧ Z.cell? ⟨C, 1, none⟩ = some (.int .u32 y1) ∧ Z.cell? ⟨C, 2, none⟩ = some (.int .i64 y2) ∧ Z.cell? ⟨C, 3, none⟩ = some (.int .i64 y3) ∧ Z.cell? ⟨C, 4, none⟩ = some (.int .i64 y4)) ∧ Z.cell? ⟨r, 0, none⟩ = some (.slice q5 n6 c5) from ⟨dt_boxes (HY9.out.next hZ), dt_boxes (HZ9.out.next hZ), (HX9.out.next hZ).at0 hn6⟩)
      have hgd := dt_eqGuard
      have hqd : ∀ u, (binOp .neq 36 (.agg #[.int .i64 y0, .int .u32 y1, .int .i64 y2, .int .i64 y3, .int .i64 y4]) (.agg #[.int .i64 y0, .int .u32 y1, .int .i64 y2, .int .i64 y3, .int .i64 y4])).run Try.prog u = .ok (.bool false) u := fun u => by
        have := dt_neq ⟨y0, ⟨y1, y2⟩, y3, y4⟩ ⟨y0, ⟨y1, y2⟩, y3, y4⟩ u
        rw [(eqD_iff _ _).2 rfl] at this
        exact this
      have hbb : (is != is) = false := by cases is <;> rfl
      have hnn6 : ((n6 : Int) != (n6 : Int)) = false := by simp
      have HMX := Lib.hid (show n6 ≤ maxLen from by have := HX9.out.le; have := HX9.out.max; omega)
      have HBD := Lib.hid (show Below U9.heap.size U9 U9.drew from (Below.refl _ _).drew)
      clear hU9 hC hbn hZ hb hn6 o0 o1 o2 o3 o4 o5 o6
      go_wp2_with fail
      rw [HU9.out, HCE.out]
      have hS := HALL.out _ HBD.out
      refine wp_region_held_drew (S := fun w' => (w'.cell? ⟨A, 0, none⟩ = some (.int .i64 y0) ∧ w'.cell? ⟨A, 1, none⟩ = some (.int .u32 y1) ∧ w'.cell? ⟨A, 2, none⟩ = some (.int .i64 y2) ∧ w'.cell? ⟨A, 3, none⟩ = some (.int .i64 y3) ∧ w'.cell? ⟨A, 4, none⟩ = some (.int .i64 y4)) ∧ (w'.cell? ⟨C, 0, none⟩ = some (.int .i64 y0) ∧ w'.cell? ⟨C, 1, none⟩ = some (.int .u32 y1) ∧ w'.cell? ⟨C, 2, none⟩ = some (.int .i64 y2) ∧ w'.cell? ⟨C, 3, none⟩ = some (.int .i64 y3) ∧ w'.cell? ⟨C, 4, none⟩ = some (.int .i64 y4)) ∧ w'.cell? ⟨r, 0, none⟩ = some (.slice q5 n6 c5)) (by kernel_rfl) hS ?_
      intro hS1
      refine wpAnyH_take (i := 0) (oi := ⟨some 106, _, _, _, _, _⟩) (v := ?_) rfl (by kernel_rfl) (by kernel_rfl) (by kernel_rfl) (fun _ _ _ h => h) (Or.inl ⟨by kernel_rfl, fun U hU => by (dsimp only at hU; go_split_ands; go_simp; first | done | with_reducible rfl)⟩) (by assumption) ?_; (try simp only [Act.put, List.setIfInBounds_toArray, List.set_cons_zero, List.set_cons_succ])
      refine wpAnyH_take (i := 1) (oi := ⟨some 107, _, _, _, _, _⟩) (v := ?_) rfl (by kernel_rfl) (by kernel_rfl) (by kernel_rfl) (fun _ _ _ h => h) (Or.inl ⟨by kernel_rfl, fun U hU => by (dsimp only at hU; go_split_ands; go_simp; first | done | with_reducible rfl)⟩) (by assumption) ?_; (try simp only [Act.put, List.setIfInBounds_toArray, List.set_cons_zero, List.set_cons_succ])
      refine wpAnyH_take (i := 2) (oi := ⟨some 108, _, _, _, _, _⟩) (v := ?_) rfl (by kernel_rfl) (by kernel_rfl) (by kernel_rfl) (fun _ _ _ h => h) (Or.inl ⟨by kernel_rfl, fun U hU => by (dsimp only at hU; go_split_ands; go_simp; first | done | with_reducible rfl)⟩) (by assumption) ?_; (try simp only [Act.put, List.setIfInBounds_toArray, List.set_cons_zero, List.set_cons_succ])
      refine wpAnyH_take (i := 3) (oi := ⟨some 109, _, _, _, _, _⟩) (v := ?_) rfl (by kernel_rfl) (by kernel_rfl) (by kernel_rfl) (fun _ _ _ h => h) (Or.inl ⟨by kernel_rfl, fun U hU => by (dsimp only at hU; go_split_ands; go_simp; first | done | with_reducible rfl)⟩) (by assumption) ?_; (try simp only [Act.put, List.setIfInBounds_toArray, List.set_cons_zero, List.set_cons_succ])
      refine wpAnyH_take (i := 4) (oi := ⟨some 110, _, _, _, _, _⟩) (v := ?_) rfl (by kernel_rfl) (by kernel_rfl) (by kernel_rfl) (fun _ _ _ h => h) (Or.inl ⟨by kernel_rfl, fun U hU => by (dsimp only at hU; go_split_ands; go_simp; first | done | with_reducible rfl)⟩) (by assumption) ?_; (try simp only [Act.put, List.setIfInBounds_toArray, List.set_cons_zero, List.set_cons_succ])
      refine wpAnyH_take (i := 5) (oi := ⟨some 111, _, _, _, _, _⟩) (v := ?_) rfl (by kernel_rfl) (by kernel_rfl) (by kernel_rfl) (fun _ _ _ h => h) (Or.inl ⟨by kernel_rfl, fun U hU => by (dsimp only at hU; go_split_ands; go_simp; first | done | with_reducible rfl)⟩) (by assumption) ?_; (try simp only [Act.put, List.setIfInBounds_toArray, List.set_cons_zero, List.set_cons_succ])
      refine wpAnyH_take (i := 6) (oi := ⟨some 112, _, _, _, _, _⟩) (v := ?_) rfl (by kernel_rfl) (by kernel_rfl) (by kernel_rfl) (fun _ _ _ h => h) (Or.inl ⟨by kernel_rfl, fun U hU => by (dsimp only at hU; go_split_ands; go_simp; first | done | with_reducible rfl)⟩) (by assumption) ?_; (try simp only [Act.put, List.setIfInBounds_toArray, List.set_cons_zero, List.set_cons_succ])
      refine wpAnyH_take (i := 7) (oi := ⟨some 113, _, _, _, _, _⟩) (v := ?_) rfl (by kernel_rfl) (by kernel_rfl) (by kernel_rfl) (fun _ _ _ h => h) (Or.inl ⟨by kernel_rfl, fun U hU => by (dsimp only at hU; go_split_ands; go_simp; first | done | with_reducible rfl)⟩) (by assumption) ?_; (try simp only [Act.put, List.setIfInBounds_toArray, List.set_cons_zero, List.set_cons_succ])
      refine wpAnyH_take (i := 8) (oi := ⟨some 114, _, _, _, _, _⟩) (v := ?_) rfl (by kernel_rfl) (by kernel_rfl) (by kernel_rfl) (fun _ _ _ h => h) (Or.inl ⟨by kernel_rfl, fun U hU => by (dsimp only at hU; go_split_ands; go_simp; first | done | with_reducible rfl)⟩) (by assumption) ?_; (try simp only [Act.put, List.setIfInBounds_toArray, List.set_cons_zero, List.set_cons_succ])
      refine wpAnyH_take (i := 9) (oi := ⟨some 115, _, _, _, _, _⟩) (v := ?_) rfl (by kernel_rfl) (by kernel_rfl) (by kernel_rfl) (fun _ _ _ h => h) (Or.inl ⟨by kernel_rfl, fun U hU => by (dsimp only at hU; go_split_ands; go_simp; first | done | with_reducible rfl)⟩) (by assumption) ?_; (try simp only [Act.put, List.setIfInBounds_toArray, List.set_cons_zero, List.set_cons_succ])
      refine wpAnyH_take (i := 10) (oi := ⟨some 116, _, _, _, _, _⟩) (v := ?_) rfl (by kernel_rfl) (by kernel_rfl) (by kernel_rfl) (fun _ _ _ h => h) (Or.inl ⟨by kernel_rfl, fun U hU => by (dsimp only at hU; go_split_ands; go_simp; first | done | with_reducible rfl)⟩) (by assumption) ?_; (try simp only [Act.put, List.setIfInBounds_toArray, List.set_cons_zero, List.set_cons_succ])
      refine wpAnyH_take (i := 11) (oi := ⟨some 117, _, _, _, _, _⟩) (v := ?_) rfl (by kernel_rfl) (by kernel_rfl) (by kernel_rfl) (fun _ _ _ h => h) (Or.inl ⟨by kernel_rfl, fun U hU => by (dsimp only at hU; go_split_ands; go_simp; first | done | with_reducible rfl)⟩) (by assumption) ?_; (try simp only [Act.put, List.setIfInBounds_toArray, List.set_cons_zero, List.set_cons_succ])
      refine wpAnyH_take (i := 12) (oi := ⟨some 118, _, _, _, _, _⟩) (v := ?_) rfl (by kernel_rfl) (by kernel_rfl) (by kernel_rfl) (fun _ _ _ h => h) (Or.inl ⟨by kernel_rfl, fun U hU => by (dsimp only at hU; go_split_ands; go_simp; first | done | with_reducible rfl)⟩) (by assumption) ?_; (try simp only [Act.put, List.setIfInBounds_toArray, List.set_cons_zero, List.set_cons_succ])
      refine wpAnyH_take (i := 13) (oi := ⟨some 119, _, _, _, _, _⟩) (v := ?_) rfl (by kernel_rfl) (by kernel_rfl) (by kernel_rfl) (fun _ _ _ h => h) (Or.inl ⟨by kernel_rfl, fun U hU => by (dsimp only at hU; go_split_ands; go_simp; first | done | with_reducible rfl)⟩) (by assumption) ?_; (try simp only [Act.put, List.setIfInBounds_toArray, List.set_cons_zero, List.set_cons_succ])
      refine wpAnyH_take (i := 15) (oi := ⟨some 121, _, _, _, _, _⟩) (v := ?_) rfl (by kernel_rfl) (by kernel_rfl) (by kernel_rfl) (fun _ _ _ h => h) (Or.inl ⟨by kernel_rfl, fun U hU => by (dsimp only at hU; go_split_ands; go_simp; first | done | with_reducible rfl)⟩) (by assumption) ?_; (try simp only [Act.put, List.setIfInBounds_toArray, List.set_cons_zero, List.set_cons_succ])
      refine wpAnyH_take (i := 16) (oi := ⟨some 122, _, _, _, _, _⟩) (v := ?_) rfl (by kernel_rfl) (by kernel_rfl) (by kernel_rfl) (fun _ _ _ h => h) (Or.inl ⟨by kernel_rfl, fun U hU => by (dsimp only at hU; go_split_ands; go_simp; first | done | with_reducible rfl)⟩) (by assumption) ?_; (try simp only [Act.put, List.setIfInBounds_toArray, List.set_cons_zero, List.set_cons_succ])
      refine wpAnyH_take (i := 17) (oi := ⟨some 123, _, _, _, _, _⟩) (v := ?_) rfl (by kernel_rfl) (by kernel_rfl) (by kernel_rfl) (fun _ _ _ h => h) (Or.inl ⟨by kernel_rfl, fun U hU => by (dsimp only at hU; go_split_ands; go_simp; first | done | with_reducible rfl)⟩) (by assumption) ?_; (try simp only [Act.put, List.setIfInBounds_toArray, List.set_cons_zero, List.set_cons_succ])
      refine wpAnyH_take (i := 18) (oi := ⟨some 124, _, _, _, _, _⟩) (v := ?_) rfl (by kernel_rfl) (by kernel_rfl) (by kernel_rfl) (fun _ _ _ h => h) (Or.inl ⟨by kernel_rfl, fun U hU => by (dsimp only at hU; go_split_ands; go_simp; first | done | with_reducible rfl)⟩) (by assumption) ?_; (try simp only [Act.put, List.setIfInBounds_toArray, List.set_cons_zero, List.set_cons_succ])
      refine wpAnyH_ready (rs := [14]) (by kernel_rfl) (by simp) ?_
      refine AllReadyH.cons (o := ⟨some 120, _, _, _, _, _⟩) rfl (fun K hK => ?_) AllReadyH.nil
      go_simp
      go_at_call 19; refine (lall (HBB9.out.next HBD.out).t (by have := HN5.out; have := HK9.out; omega)).mono ?_; rintro e v9 ⟨q9, c9, rfl, hl9, _, hb, _, _⟩; rw [HN6.out]; have HL9 := Lib.hid hl9; have HBD := Lib.hid (HBD.out.trans (hb.mono HBD.out.size)); have hS4 := HALL.out _ HBD.out; clear hb hl9
      refine hK.out _ _ hS4 (fun hS5 => ?_)
      try simp only [Act.put, List.setIfInBounds_toArray, List.set_cons_zero, List.set_cons_succ]
      clear hK K hS1; have hS1 := hS4; clear hS4 hS5
      refine wpAnyH_ready (rs := [19]) (by kernel_rfl) (by simp) ?_
      refine AllReadyH.cons (o := ⟨some 125, _, _, _, _, _⟩) rfl (fun K hK => ?_) AllReadyH.nil
      go_simp
      go_at_call 13; refine (rsameD_yes q9 q5 L5 n6 c9 c5 v9 HL9.out.at_ (HX9.out.next HBD.out).at_ HN6.out HMX.out).mono ?_; rintro e v8 ⟨rfl, hb⟩; have HBD := Lib.hid (HBD.out.trans (hb.mono HBD.out.size)); have hS4 := HALL.out _ HBD.out; clear hb
      refine hK.out _ _ hS4 (fun hS5 => ?_)
      try simp only [Act.put, List.setIfInBounds_toArray, List.set_cons_zero, List.set_cons_succ]
      clear hK K hS1; have hS1 := hS4; clear hS4 hS5
      refine wpAnyH_take (i := 20) (oi := ⟨some 126, _, _, _, _, _⟩) (v := ?_) rfl (by kernel_rfl) (by kernel_rfl) (by kernel_rfl) (fun _ _ _ h => h) (Or.inl ⟨by kernel_rfl, fun U hU => by (dsimp only at hU; go_split_ands; go_simp; first | done | with_reducible rfl)⟩) (by assumption) ?_; (try simp only [Act.put, List.setIfInBounds_toArray, List.set_cons_zero, List.set_cons_succ])
      refine wpAnyH_take (i := 21) (oi := ⟨some 127, _, _, _, _, _⟩) (v := ?_) rfl (by kernel_rfl) (by kernel_rfl) (by kernel_rfl) (fun _ _ _ h => h) (Or.inl ⟨by kernel_rfl, fun U hU => by (dsimp only at hU; go_split_ands; go_simp; first | done | with_reducible rfl)⟩) (by assumption) ?_; (try simp only [Act.put, List.setIfInBounds_toArray, List.set_cons_zero, List.set_cons_succ])
      refine wpAnyH_take (i := 22) (oi := ⟨some 128, _, _, _, _, _⟩) (v := ?_) rfl (by kernel_rfl) (by kernel_rfl) (by kernel_rfl) (fun _ _ _ h => h) (Or.inl ⟨by kernel_rfl, fun U hU => by (dsimp only at hU; go_split_ands; go_simp; first | done | with_reducible rfl)⟩) (by assumption) ?_; (try simp only [Act.put, List.setIfInBounds_toArray, List.set_cons_zero, List.set_cons_succ])
      refine wpAnyH_take (i := 23) (oi := ⟨some 129, _, _, _, _, _⟩) (v := ?_) rfl (by kernel_rfl) (by kernel_rfl) (by kernel_rfl) (fun _ _ _ h => h) (Or.inl ⟨by kernel_rfl, fun U hU => by (dsimp only at hU; go_split_ands; go_simp; first | done | with_reducible rfl)⟩) (by assumption) ?_; (try simp only [Act.put, List.setIfInBounds_toArray, List.set_cons_zero, List.set_cons_succ])
      refine wpAnyH_take (i := 25) (oi := ⟨some 131, _, _, _, _, _⟩) (v := ?_) rfl (by kernel_rfl) (by kernel_rfl) (by kernel_rfl) (fun _ _ _ h => h) (Or.inl ⟨by kernel_rfl, fun U hU => by (dsimp only at hU; go_split_ands; go_simp; first | done | with_reducible rfl)⟩) (by assumption) ?_; (try simp only [Act.put, List.setIfInBounds_toArray, List.set_cons_zero, List.set_cons_succ])
      refine wpAnyH_take (i := 26) (oi := ⟨some 132, _, _, _, _, _⟩) (v := ?_) rfl (by kernel_rfl) (by kernel_rfl) (by kernel_rfl) (fun _ _ _ h => h) (Or.inl ⟨by kernel_rfl, fun U hU => by (dsimp only at hU; go_split_ands; go_simp; first | done | with_reducible rfl)⟩) (by assumption) ?_; (try simp only [Act.put, List.setIfInBounds_toArray, List.set_cons_zero, List.set_cons_succ])
      refine wpAnyH_take (i := 27) (oi := ⟨some 133, _, _, _, _, _⟩) (v := ?_) rfl (by kernel_rfl) (by kernel_rfl) (by kernel_rfl) (fun _ _ _ h => h) (Or.inl ⟨by kernel_rfl, fun U hU => by (dsimp only at hU; go_split_ands; go_simp; first | done | with_reducible rfl)⟩) (by assumption) ?_; (try simp only [Act.put, List.setIfInBounds_toArray, List.set_cons_zero, List.set_cons_succ])
      refine wpAnyH_take (i := 28) (oi := ⟨some 134, _, _, _, _, _⟩) (v := ?_) rfl (by kernel_rfl) (by kernel_rfl) (by kernel_rfl) (fun _ _ _ h => h) (Or.inl ⟨by kernel_rfl, fun U hU => by (dsimp only at hU; go_split_ands; go_simp; first | done | with_reducible rfl)⟩) (by assumption) ?_; (try simp only [Act.put, List.setIfInBounds_toArray, List.set_cons_zero, List.set_cons_succ])
      refine wpAnyH_take (i := 29) (oi := ⟨some 135, _, _, _, _, _⟩) (v := ?_) rfl (by kernel_rfl) (by kernel_rfl) (by kernel_rfl) (fun _ _ _ h => h) (Or.inl ⟨by kernel_rfl, fun U hU => by (dsimp only at hU; go_split_ands; go_simp; first | done | with_reducible rfl)⟩) (by assumption) ?_; (try simp only [Act.put, List.setIfInBounds_toArray, List.set_cons_zero, List.set_cons_succ])
      refine wpAnyH_ready (rs := [24]) (by kernel_rfl) (by simp) ?_
      refine AllReadyH.cons (o := ⟨some 130, _, _, _, _, _⟩) rfl (fun K hK => ?_) AllReadyH.nil
      go_simp
      go_at_call 20; refine (tblen_any v8 g b n5 L5 (HBB9.out.next HBD.out).t.tab).mono ?_; rintro e v7 ⟨rfl, rfl⟩; rw [HN6.out]; have hS4 := HALL.out _ HBD.out
      refine hK.out _ _ hS4 (fun hS5 => ?_)
      try simp only [Act.put, List.setIfInBounds_toArray, List.set_cons_zero, List.set_cons_succ]
      clear hK K hS1; have hS1 := hS4; clear hS4 hS5
      refine wpAnyH_take (i := 30) (oi := ⟨some 136, _, _, _, _, _⟩) (v := ?_) rfl (by kernel_rfl) (by kernel_rfl) (by kernel_rfl) (fun _ _ _ h => h) (Or.inl ⟨by kernel_rfl, fun U hU => by (dsimp only at hU; go_split_ands; go_simp; first | done | with_reducible rfl)⟩) (by assumption) ?_; (try simp only [Act.put, List.setIfInBounds_toArray, List.set_cons_zero, List.set_cons_succ])
      refine wpAnyH_take (i := 31) (oi := ⟨some 137, _, _, _, _, _⟩) (v := ?_) rfl (by kernel_rfl) (by kernel_rfl) (by kernel_rfl) (fun _ _ _ h => h) (Or.inl ⟨by kernel_rfl, fun U hU => by (dsimp only at hU; go_split_ands; go_simp; first | done | with_reducible rfl)⟩) (by assumption) ?_; (try simp only [Act.put, List.setIfInBounds_toArray, List.set_cons_zero, List.set_cons_succ])
      refine wpAnyH_done (by kernel_rfl) ?_ _
      go_wp2_with fail
      go_roundw
      case rel => exact ⟨k + 1, by omega, by have := HK9.out; omega, by go_num, n5, L5, HN5.out, HBB9.out.next HBD.out⟩
      case measure => simp [intOf]; omega
end Go.Proofs.Ytjimnlpmmhcdjaa
