/- best: lives. -/
import Derived.Test.YtljbebeaahcjaaaBD
import Derived.Deep.RegionLaw
namespace Go.Proofs.Ytljbebeaahcjaaa
open Go.RowKit Go.Maps Go.Sort Go.Shelf
set_option linter.unusedVariables false
set_option linter.unusedSimpArgs false
set_option maxRecDepth 100000
theorem rv_at {w : World} {g : Nat} {L : List Rv} (h : Blk w g 35 (cellsL rvC L)) (hok : ∀ x ∈ L, InRv x) : LAt rvC InRv Rv.zero 10 w (some ⟨g, 0, none⟩) L := by
  refine ⟨hok, .inr ⟨g, 0, rfl, fun i hi j v hv => ?_⟩⟩
  have hj : j < 10 := (List.getElem?_eq_some_iff.1 hv).1
  rw [show 0 + i * 10 + j = i * 10 + j by omega]
  refine h.cellAt ?_
  rw [cellsL_get rowRv L i hi j hj]
  exact hv
theorem rv_cell {w : World} {r k : Nat} {O : List Rv} {n : Nat} (h : LAt rvC InRv Rv.zero 10 w (some ⟨r, 0, none⟩) O) (hn : O.length = n) (hk : k < n) : w.cell? ⟨r, k * 10, none⟩ = some (.int .i64 (O.getD k Rv.zero).r) := by
  obtain ⟨b, off, e, hc⟩ := h.cell hn hk
  simp only [Option.some.injEq, Addr.mk.injEq, and_true] at e
  obtain ⟨rfl, rfl⟩ := e
  have := hc 0 _ rfl
  rw [show 0 + k * 10 + 0 = k * 10 by omega] at this
  exact this
theorem in7 : InI 7 := rfl
theorem in8 : InI 8 := rfl
theorem four_ok (a0 b0 a1 b1 a2 b2 a3 b3 : Nat) : ∀ x ∈ four a0 b0 a1 b1 a2 b2 a3 b3, InRv x := by
  intro x hx
  simp only [four, List.mem_cons, List.not_mem_nil, or_false] at hx
  rcases hx with rfl | rfl | rfl | rfl <;> exact ⟨rfl, rfl, rfl, rfl, rfl⟩
theorem four_looks {w : World} {g a0 b0 a1 b1 a2 b2 a3 b3 : Nat} (h : Blk w g 35 (cellsL rvC (four a0 b0 a1 b1 a2 b2 a3 b3))) (h0 : AoAt w (mkX 7 a0 b0 5 100)) (h1 : AoAt w (mkX 7 a1 b1 9 (-1))) (h2 : AoAt w (mkX 8 a2 b2 50 100)) (h3 : AoAt w (mkX 7 a3 b3 0 90)) : Looks w (some ⟨g, 0, none⟩) (four a0 b0 a1 b1 a2 b2 a3 b3) 4 where
  at_ := ⟨rv_at h (four_ok _ _ _ _ _ _ _ _), by
    intro x hx
    simp only [four, List.mem_cons, List.not_mem_nil, or_false] at hx
    rcases hx with rfl | rfl | rfl | rfl
    · exact h0
    · exact h1
    · exact h2
    · exact h3⟩
  len := rfl
  small := by omega
  lens := by
    intro x hx
    simp only [four, List.mem_cons, List.not_mem_nil, or_false] at hx
    rcases hx with rfl | rfl | rfl | rfl <;> (show 1 ≤ 1000000; omega)
set_option maxHeartbeats 8000000 in
theorem lives15_any (w : World) : Calls Try.prog 7 #[] w fun e w' => e = .returned (.bool true) ∧ Below w.heap.size w w' := by
  go_enter Try.func7, Try.ntmps7
  go_wp2_with fail
  refine (route_any _ 3 100 5 7 in7).mono ?_
  rintro e W0 ⟨a0, b0, rfl, h0, hb0⟩
  go_wp2_with fail
  refine (route_any _ 2 (-1) 9 7 in7).mono ?_
  rintro e W1 ⟨a1, b1, rfl, h1, hb1⟩
  go_wp2_with fail
  refine (route_any _ 4 100 50 8 in8).mono ?_
  rintro e W2 ⟨a2, b2, rfl, h2, hb2⟩
  go_wp2_with fail
  refine (route_any _ 1 90 0 7 in7).mono ?_
  rintro e W3 ⟨a3, b3, rfl, h3, hb3⟩
  go_wp2_with fail
  have hB := Blk.new W3 35 (cellsL rvC (four a0 b0 a1 b1 a2 b2 a3 b3))
  have hbx := newB W3 (.cells (cellsL rvC (four a0 b0 a1 b1 a2 b2 a3 b3)).toArray 35)
  generalize hX : W3.alloc _ = X
  have hX : W3.alloc (.cells (cellsL rvC (four a0 b0 a1 b1 a2 b2 a3 b3)).toArray 35) = X := hX
  rw [hX] at hB hbx
  have HB := Lib.hid ((hb0.trans (hb1.mono hb0.size)).trans (hb2.mono (hb0.trans (hb1.mono hb0.size)).size))
  have HB := Lib.hid (HB.out.trans (hb3.mono HB.out.size))
  have HB := Lib.hid (HB.out.trans (hbx.mono HB.out.size))
  have HL := Lib.hid (four_looks hB (h0.below (hb1.trans ((hb2.trans ((hb3.trans (hbx.mono hb3.size)).mono hb2.size)).mono hb1.size))) (h1.below (hb2.trans ((hb3.trans (hbx.mono hb3.size)).mono hb2.size))) (h2.below (hb3.trans (hbx.mono hb3.size))) (h3.below hbx))
  have HBK := Lib.hid hB
  obtain ⟨g, hg⟩ : ∃ g, W3.heap.size = g := ⟨_, rfl⟩
  rw [hg] at HL HBK ⊢
  clear hB hbx hX h0 h1 h2 h3 hb0 hb1 hb2 hb3 hg
  have HC := Lib.hid ((bestG_any X (some ⟨g, 0, none⟩) (four a0 b0 a1 b1 a2 b2 a3 b3) 4 4 HL.out (by omega)).mono (R' := fun e w' => e = .returned (.tuple #[.int .i64 0, .bool true]) ∧ Below X.heap.size X w') fun e w' ⟨i, he, ⟨t, ht⟩, hb⟩ => by
    rw [four_best] at ht
    simp only [List.cons.injEq] at ht
    obtain ⟨rfl, _⟩ := ht
    exact ⟨he, hb⟩)
  refine HC.out.mono ?_
  rintro e W4 ⟨rfl, hb4⟩
  have HB4 := Lib.hid hb4
  clear hb4 HC
  go_wp2_with fail
  refine (best_none _).mono ?_
  rintro e W5 ⟨rfl, hb5⟩
  have HB5 := Lib.hid (HB4.out.trans (hb5.mono HB4.out.size))
  clear hb5 HB4
  go_wp2_with fail
  refine (rank_any W5 (some ⟨g, 0, none⟩) (four a0 b0 a1 b1 a2 b2 a3 b3) 4 4 (HL.out.below HB5.out)).mono ?_
  rintro e W6 ⟨B, hR, hT⟩
  obtain rfl := four_rank hR
  obtain ⟨r, c6, O6, rfl, hr6, hO6, hc6, hC6, hb6⟩ := hT
  have HB6 := Lib.hid (HB5.out.trans (hb6.mono HB5.out.size))
  go_wp2_with fail
  refine (leftR_any W6 (some ⟨g, 0, none⟩) (four a0 b0 a1 b1 a2 b2 a3 b3) 4 4 (HL.out.below HB6.out) (by omega)).mono ?_
  rintro e W7 ⟨m, c7, O7, rfl, hr7, hO7, hc7, hC7, hb7⟩
  rw [four_left]
  have HB7 := Lib.hid (HB6.out.trans (hb7.mono HB6.out.size))
  have HO := hO6.below hb7
  have r1 : W7.cell? ⟨r, 10, none⟩ = some (.int .i64 2) := by rw [rv_cell (k := 1) HO hC6.len (by decide), (hC6.like 1 (by decide)).r]; rfl
  have r2 : W7.cell? ⟨r, 20, none⟩ = some (.int .i64 4) := by rw [rv_cell (k := 2) HO hC6.len (by decide), (hC6.like 2 (by decide)).r]; rfl
  have r3 : W7.cell? ⟨r, 30, none⟩ = some (.int .i64 1) := by rw [rv_cell (k := 3) HO hC6.len (by decide), (hC6.like 3 (by decide)).r]; rfl
  have HG := HBK.out.next HB7.out
  have g0 : W7.cell? ⟨g, 14, none⟩ = some (.int .i64 0) := HG.cell 14 (by show 14 < 40; decide)
  have g1 : W7.cell? ⟨g, 15, none⟩ = some (.slice (some ⟨b1, 0, none⟩) 1 1) := HG.cell 15 (by show 15 < 40; decide)
  have g2 : W7.cell? ⟨g, 16, none⟩ = some (.int .u32 1) := HG.cell 16 (by show 16 < 40; decide)
  have g3 : W7.cell? ⟨g, 17, none⟩ = some (.int .i64 9) := HG.cell 17 (by show 17 < 40; decide)
  have g4 : W7.cell? ⟨g, 18, none⟩ = some (.int .i64 (-1)) := HG.cell 18 (by show 18 < 40; decide)
  have g5 : W7.cell? ⟨g, 19, none⟩ = some (.slice none 0 0) := HG.cell 19 (by show 19 < 40; decide)
  have HP := Lib.hid (show Calls Try.prog 14 #[.agg #[.int .i64 0, .slice (some ⟨b1, 0, none⟩) 1 1, .int .u32 1, .int .i64 9, .int .i64 (-1), .slice none 0 0]] W7 fun e w' => e = .returned (.int .i64 100) ∧ Below W7.heap.size W7 w' from pref_any W7 (mkX 7 a1 b1 9 (-1)))
  have HW7 := Lib.hid (HB.out.trans (HB7.out.mono HB.out.size))
  clear HO HG hR hO6 hO7 hC6 hC7 HL HBK hb6 hb7
  go_wp2_with (go_at_call 14; refine HP.out.mono ?_; rintro e W8 ⟨rfl, hb8⟩)
  go_ret
  exact ⟨rfl, HW7.out.trans (hb8.mono HW7.out.size)⟩
end Go.Proofs.Ytljbebeaahcjaaa
