/- best: Left; the best one of none. -/
import Derived.Test.YtljbebeaahcjaaaBA
namespace Go.Proofs.Ytljbebeaahcjaaa
open Go.RowKit Go.Maps Go.Sort Go.Shelf
set_option linter.unusedVariables false
set_option linter.unusedSimpArgs false
set_option maxRecDepth 100000
set_option maxHeartbeats 4000000 in
theorem leftR_any (w : World) (p : Option Addr) (l : List Rv) (n c : Nat) (h : Looks w p l n) (h0 : 0 < n) :
    Calls Try.prog 13 #[.slice p n c] w fun e w' => ThoseR w w' l (leftV l n) e := by
  have HL := Lib.hid (leftG_any w p l n c h h0)
  have H := Lib.hid h
  have hsm := h.small
  have HLEN := Lib.hid h.len
  clear h
  go_enter Try.func13, Try.ntmps13
  go_wp2_with (go_at_call 15; refine HL.out.mono ?_; rintro e u ⟨g, v, rfl, hg, hb, m, rfl, hm, hm0, hmn, hB, hA, hT⟩; have HTH := Lib.hid ((those_any u p l n c (H.out.below hb).at_ HLEN.out hsm (some ⟨g, 0, none⟩) (leftV l n) m n (hA.at (plc_in hB hsm)) hm (by omega) hB)); have HBu := Lib.hid hb; have HM := Lib.hid hm; clear hT hA hB hb hm)
  refine HTH.out.mono ?_
  intro e u3 hT
  have hT := hT.of HBu.out
  obtain ⟨R9, c9, O9, rfl, hrest⟩ := hT
  rw [HM.out] at hrest ⊢
  have HTT := Lib.hid (show ThoseR w u3 l (leftV l n) (.returned (.slice (some ⟨R9, 0, none⟩) m c9)) from ⟨R9, c9, O9, by rw [HM.out], by rw [HM.out]; exact hrest⟩)
  go_wp2_with fail
  go_ret
  exact HTT.out
set_option maxHeartbeats 4000000 in
theorem least_none (w : World) (p q : Option Addr) (n c c' k : Nat) :
    Calls Try.prog 17 #[.slice p n c, .slice q 0 c', .func (.func k) #[] #[]] w fun e w' => e = .returned (.slice none 0 0) ∧ Below w.heap.size w w' := by
  have hst := fun (u : World) (a : Addr) (f : Nat) (m : Mode) => run_store Try.prog u a (.func (.func f) #[] #[]) m rfl
  go_enter Try.func17, Try.ntmps17
  go_wp2_with fail
  go_ret
  exact ⟨rfl, two_below w _ _⟩
set_option maxHeartbeats 4000000 in
theorem del_none (w : World) (ca cb : Nat) :
    Calls Try.prog 31 #[.slice none 0 0, .func (.func 47) #[] #[.pointer (some ⟨ca, 0, none⟩), .pointer (some ⟨cb, 0, none⟩)]] w fun e w' => e = .returned (.slice none 0 0) ∧ Below w.heap.size w w' := by
  have HI := Lib.hid (show Calls Try.prog 48 #[.slice none 0 0, .func (.func 47) #[] #[.pointer (some ⟨ca, 0, none⟩), .pointer (some ⟨cb, 0, none⟩)]] w fun e w' => e = .returned (.int .i64 (-1)) ∧ Below w.heap.size w w' from
    (idxM_any w none [] 0 0 (LAt.nil _ _ _ _ _ _) rfl (by omega) (fun _ => false) ca cb fun u hu x hx => absurd hx (by simp)).mono fun e u h => by
      obtain ⟨i, rfl, hb, ⟨rfl, _⟩ | ⟨k, _, hk, _⟩⟩ := h
      · exact ⟨rfl, hb⟩
      · omega)
  go_enter Try.func31, Try.ntmps31
  go_wp2_with (go_at_call 48; refine HI.out.mono ?_; rintro e u ⟨rfl, hb⟩)
  go_ret
  exact ⟨rfl, hb⟩
set_option maxHeartbeats 4000000 in
theorem leastMed_none (w : World) (p : Option Addr) (n c : Nat)  :
    Calls Try.prog 28 #[.slice p n c, .slice none 0 0] w fun e w' => e = .returned (.slice none 0 0) ∧ Below w.heap.size w w' := by
  have hmm := @run_makeMap Try.prog
  go_enter Try.func28, Try.ntmps28
  go_wp2_with fail
  go_loopw [15] (fun iv wr => iv = .int .i64 0 ∧ Below w.heap.size w wr) (fun _ _ => 0)
  case atStart => exact ⟨rfl, ((newB w _).alloc (newB w _).size _).alloc ((newB w _).alloc (newB w _).size _).size _⟩
  case round =>
    obtain ⟨rfl, hb⟩ := hrel
    go_wp2_with (go_at_call 31; refine (del_none _ _ _).mono ?_; rintro e u ⟨rfl, hu⟩)
    go_ret
    exact ⟨rfl, hb.trans (hu.mono hb.size)⟩
set_option maxHeartbeats 4000000 in
theorem left_none (w : World) :
    Calls Try.prog 15 #[.slice none 0 0] w fun e w' => e = .returned (.slice none 0 0) ∧ Below w.heap.size w w' := by
  have hmk : ∀ w, (Instr.makeSlice 31 (.int .i64 0) (.int .i64 0)).run Try.prog w = .ok (.slice (some ⟨w.heap.size, 0, none⟩) 0 0) (w.alloc (.cells (madeCells #[.int .i64 0] 0) 3)) := run_makeI 0 (by omega)
  have hx0 := run_idx0
  have hx1 := run_idx1
  have hx2 := run_idx2
  have hb0 := newB w (.cells (madeCells #[.int .i64 0] 0) 3)
  go_enter Try.func15, Try.ntmps15
  go_wp2_with fail
  go_loopw [12] (fun iv wr => iv = .int .i64 0 ∧ Below w.heap.size w wr) (fun _ _ => 0)
  case atStart => exact ⟨rfl, hb0⟩
  case round =>
    obtain ⟨rfl, hb⟩ := hrel
    go_wp2_with (go_at_call 27; refine (ahead_any _).mono ?_; rintro e u ⟨rfl, hu⟩)
    have HB := Lib.hid (hb.trans (hu.mono hb.size))
    clear hb hu
    go_loopw [3, 21] (fun sv iv wr => (∃ c, sv = .slice (some ⟨w.heap.size, 0, none⟩) 0 c ∨ sv = .slice none 0 c) ∧ (iv = .int .i64 0 ∨ iv = .int .i64 1 ∨ iv = .int .i64 2 ∨ (iv = .int .i64 3 ∧ sv = .slice none 0 0)) ∧ Hid (Below w.heap.size w wr)) (fun _ iv _ => 3 - (intOf iv).toNat)
    case atStart => exact ⟨⟨0, .inl rfl⟩, .inl rfl, HB⟩
    case round =>
      obtain ⟨⟨c, hs⟩, hi, HB2⟩ := hrel
      rcases hi with rfl | rfl | rfl | ⟨rfl, rfl⟩
      · rcases hs with rfl | rfl
        all_goals
          go_wp2_with (go_at_call 17; refine (least_none _ _ _ _ _ _ _).mono ?_; rintro e u ⟨rfl, hu⟩)
          go_roundw
          case rel => exact ⟨⟨0, .inr rfl⟩, .inr (.inl rfl), Lib.hid (HB2.out.trans (hu.mono HB2.out.size))⟩
          case measure => simp [intOf]
      · rcases hs with rfl | rfl
        all_goals
          go_wp2_with (go_at_call 17; refine (least_none _ _ _ _ _ _ _).mono ?_; rintro e u ⟨rfl, hu⟩)
          go_roundw
          case rel => exact ⟨⟨0, .inr rfl⟩, .inr (.inr (.inl rfl)), Lib.hid (HB2.out.trans (hu.mono HB2.out.size))⟩
          case measure => simp [intOf]
      · rcases hs with rfl | rfl
        all_goals
          go_wp2_with (go_at_call 17; refine (least_none _ _ _ _ _ _ _).mono ?_; rintro e u ⟨rfl, hu⟩)
          go_roundw
          case rel => exact ⟨⟨0, .inr rfl⟩, .inr (.inr (.inr ⟨rfl, rfl⟩)), Lib.hid (HB2.out.trans (hu.mono HB2.out.size))⟩
          case measure => simp [intOf]
      · go_wp2_with (go_at_call 28; refine (leastMed_none _ _ _ _).mono ?_; rintro e u ⟨rfl, hu⟩)
        go_ret
        exact ⟨rfl, HB2.out.trans (hu.mono HB2.out.size)⟩
set_option maxHeartbeats 4000000 in
theorem best_none (w : World) :
    Calls Try.prog 8 #[.slice none 0 0] w fun e w' => e = .returned (.tuple #[.int .i64 0, .bool false]) ∧ Below w.heap.size w w' := by
  have hx0 := run_idxB0
  have hx1 := run_idxB1
  go_enter Try.func8, Try.ntmps8
  go_wp2_with (first | (go_at_call 15; refine (left_none _).mono ?_; rintro e u ⟨rfl, hu⟩) | (go_at_call 16; refine (behind_any _).mono ?_; rintro e u2 ⟨rfl, hu2⟩))
  have HB := Lib.hid (hu.trans (hu2.mono hu.size))
  clear hu hu2
  go_loopw [4, 10] (fun sv iv wr => sv = .slice none 0 0 ∧ (iv = .int .i64 0 ∨ iv = .int .i64 1 ∨ iv = .int .i64 2) ∧ Hid (Below w.heap.size w wr)) (fun _ iv _ => 2 - (intOf iv).toNat)
  case atStart => exact ⟨rfl, .inl rfl, HB⟩
  case round =>
    obtain ⟨rfl, hi, HB2⟩ := hrel
    rcases hi with rfl | rfl | rfl
    · go_wp2_with (go_at_call 17; refine (least_none _ _ _ _ _ _ _).mono ?_; rintro e u ⟨rfl, hu⟩)
      go_roundw
      case rel => exact ⟨rfl, .inr (.inl rfl), Lib.hid (HB2.out.trans (hu.mono HB2.out.size))⟩
      case measure => simp [intOf]
    · go_wp2_with (go_at_call 17; refine (least_none _ _ _ _ _ _ _).mono ?_; rintro e u ⟨rfl, hu⟩)
      go_roundw
      case rel => exact ⟨rfl, .inr (.inr rfl), Lib.hid (HB2.out.trans (hu.mono HB2.out.size))⟩
      case measure => simp [intOf]
    · go_wp2_with fail
      ((try simp only [Exit.inBlock, Exit.then]); refine bodyPost_ret (v := .tuple #[.int .i64 0, .bool false]) (by simp [results, Try.results8, go_sem]) rfl ⟨rfl, HB2.out⟩)
end Go.Proofs.Ytljbebeaahcjaaa
