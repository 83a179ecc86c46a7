/- ref05: Check, whole. -/
import Derived.Test.YtpeagakpmjnelaaDoorAG
namespace Go.Proofs.YtpeagakpmjnelaaDoor.Ax
open Go.RowKit
set_option maxRecDepth 100000

theorem sizeQ (four : Bool) (w : World) :
    Calls Tryd.prog 47 #[.bool four] w fun e w' => e = .returned (.int .i64 (if four then 4 else 2)) ∧ w' = w := (size_any four w).mono fun _ _ h => ⟨h.1, h.2.symm⟩
theorem fitsQ (x : Int) (four : Bool) (w : World) :
    Calls Tryd.prog 46 #[.int .i64 x, .int .i64 (if four then 4 else 2)] w fun e w' => e = .returned (.bool (!oddB 0 (mostA four) x)) ∧ w' = w := (fitsF_any x four w).mono fun _ _ h => ⟨h.1, h.2.symm⟩
set_option maxHeartbeats 4000000 in
set_option maxRecDepth 100000 in
theorem rcheck_tail (a : At) (l : Loc) (four : Bool) (w : World) (ha : AtAt w a l) (h : ¬(a.origin < 0 ∨ 2 < a.origin ∨ a.next = 0 ∨ a.med < -1 ∨ 4294967295 < a.med ∨ a.pref < -1 ∨ 4294967295 < a.pref ∨ 8 < a.path.length ∨ 32 < a.comms.length)) :
    Calls Tryd.prog 22 #[.agg (atL a l).toArray, .bool four] w fun e w' => e = .returned (.bool (okA a four)) ∧ Below w.heap.size w w' := by
  have HB := Lib.hid (new_below w (.cells (atL a l).toArray 27))
  have HA := Lib.hid ha
  have HR := Lib.hid (okA_tail a four h)
  obtain ⟨r, hr⟩ : ∃ r, okA a four = r := ⟨_, rfl⟩
  rw [hr] at HR ⊢
  obtain ⟨origin, path, next, med, pref, comms⟩ := a
  obtain ⟨pp, pn, pc, cp, cn, cc⟩ := l
  have HN := Lib.hid (show path.length = pn from ha.pn)
  have HC := Lib.hid (show comms.length = cn from ha.cn)
  have hn : path.length = pn := ha.pn
  have hc : comms.length = cn := ha.cn
  have S0 := BoxSt.new ha
  obtain ⟨W, hW⟩ : ∃ W, w.alloc (.cells #[.int .i64 origin, .slice pp pn pc, .int .u32 next, .int .i64 med, .int .i64 pref, .slice cp cn cc] 27) = W := ⟨_, rfl⟩
  rw [show (atL ⟨origin, path, next, med, pref, comms⟩ ⟨pp, pn, pc, cp, cn, cc⟩).toArray = #[.int .i64 origin, .slice pp pn pc, .int .u32 next, .int .i64 med, .int .i64 pref, .slice cp cn cc] from rfl] at S0 HB
  rw [hW] at S0 HB
  have HS := Lib.hid S0
  have HW := Lib.hid hW
  simp only [atL] at *
  simp only [hn, hc] at h
  have h0 : ¬origin < 0 := by omega
  have h1 : ¬2 < origin := by omega
  have h2 : (next == 0) = false := by simp only [beq_eq_false_iff_ne, ne_eq]; omega
  have h3 : ¬med < -1 := by omega
  have h4 : ¬4294967295 < med := by omega
  have h5 : ¬pref < -1 := by omega
  have h6 : ¬4294967295 < pref := by omega
  have h7 : ¬8 < pn := by omega
  have h8 : ¬32 < cn := by omega
  have t7 : decide ((8 : Int) < (pn : Int)) = false := by simp; omega
  have t8 : decide ((32 : Int) < (cn : Int)) = false := by simp; omega
  clear h ha hn hc S0 hW hr
  go_enter Tryd.func22, Tryd.ntmps22
  go_wp2
  rw [HW.out]
  clear h0 h1 h2 h3 h4 h5 h6 t7 t8
  go_loopw [5] (fun i wr => ∃ k : Nat, k ≤ pn ∧ i = .int .i64 k ∧ (path.take k).any (segOdd (mostA four)) = false ∧ Below W.heap.size W wr) (fun i _ => pn - (intOf i).toNat)
  case atStart => exact ⟨0, Nat.zero_le _, rfl, rfl, Below.refl _ _⟩
  case round =>
    obtain ⟨k, hk, rfl, hs0, hbl⟩ := hrel
    have HBL := Lib.hid hbl
    have S1 := Lib.hid (HS.out.next hbl)
    have HF := Lib.hid hs0
    have s1 := S1.out.kb.cell 1 (by simp [atL])
    have s5 := S1.out.kb.cell 5 (by simp [atL])
    simp only [atL, List.getD_cons_zero, List.getD_cons_succ] at s1 s5
    clear hbl hs0
    by_cases hlt : k < pn
    · obtain ⟨b, off, rfl, c0, q1, m, cq, c1, hm1, hm3, hm4, hq1⟩ := seg_cell S1.out.ad.path HN.out hlt
      obtain ⟨s, hs⟩ : ∃ s, path.getD k Seg.none = s := ⟨_, rfl⟩
      rw [hs] at c0 hm1 hq1
      have HBAD := Lib.hid (fun hb : segOdd (mostA four) s = true => show false = r from by
        rw [HR.out, any_take _ Seg.none path k (by rw [HN.out]; exact hlt) HF.out (by rw [hs]; exact hb)]; rfl)
      have HOK := Lib.hid (fun hb : segOdd (mostA four) s = false => any_step _ Seg.none path k (by rw [HN.out]; exact hlt) HF.out (by rw [hs]; exact hb))
      obtain ⟨set, nums⟩ := s
      simp only at c0 hm1 hq1
      have HM := Lib.hid hm1
      have HQ := Lib.hid hq1
      unfold maxLen at hm4
      clear hs hm1 hq1 c0 s5
      by_cases hm0 : m < 1
      · have HRR := Lib.hid (HBAD.out (by simp only [segOdd, HM.out]; rw [show m = 0 by omega]; rfl))
        go_wp2
        go_ret
        exact ⟨ret_bool HRR.out, S1.out.bel⟩
      · by_cases hm64 : 64 < m
        · have HRR := Lib.hid (HBAD.out (by simp only [segOdd, HM.out]; rw [decide_eq_true hm64]; simp))
          go_wp2
          go_ret
          exact ⟨ret_bool HRR.out, S1.out.bel⟩
        · have HSO := Lib.hid (show segOdd (mostA four) ⟨set, nums⟩ = nums.any (oddB 0 (mostA four)) by
            simp only [segOdd, HM.out]; rw [decide_eq_false hm64, show (m == 0) = false by simp; omega]; rfl)
          go_wp2
          go_loopw [7] (fun i wi => ∃ j : Nat, j ≤ m ∧ i = .int .i64 j ∧ (nums.take j).any (oddB 0 (mostA four)) = false ∧ Below wr.heap.size wr wi) (fun i _ => m - (intOf i).toNat)
          case atStart => exact ⟨0, Nat.zero_le _, rfl, rfl, Below.refl _ _⟩
          case round =>
            obtain ⟨j, hj, rfl, hsj, hbj⟩ := hrel
            have HBJ := Lib.hid hbj
            have HFJ := Lib.hid hsj
            clear hsj hbj
            by_cases hjt : j < m
            · obtain ⟨b2, off2, rfl, d0⟩ := ints_cell (HQ.out.below HBJ.out) HM.out hjt
              obtain ⟨x, hx⟩ : ∃ x, nums.getD j 0 = x := ⟨_, rfl⟩
              rw [hx] at d0
              have HX := Lib.hid hx
              clear hx
              rcases hb : oddB 0 (mostA four) x with _ | _
              · have HFI := fun u => fitsQ x four u
                rw [hb] at HFI
                go_wp2_with fail
                go_quiet (first
                  | (go_at_call 47; with_reducible exact Calls.quiet_of_same (sizeQ four _))
                  | (go_at_call 46; with_reducible exact Calls.quiet_of_same (HFI _)))
                go_wp2_with fail
                go_roundw
                case rel => exact ⟨j + 1, by omega, by go_num, any_step _ 0 nums j (by rw [HM.out]; exact hjt) HFJ.out (by rw [HX.out]; exact hb), HBJ.out.trans (below_drewN _ _ _)⟩
                case measure => simp [intOf]; omega
              · have HFI := fun u => fitsQ x four u
                rw [hb] at HFI
                have HRR := Lib.hid (HBAD.out (by rw [HSO.out]; exact any_take _ 0 nums j (by rw [HM.out]; exact hjt) HFJ.out (by rw [HX.out]; exact hb)))
                have HBW := Lib.hid (S1.out.bel.trans (HBJ.out.mono S1.out.bel.size))
                go_wp2_with fail
                go_quiet (first
                  | (go_at_call 47; with_reducible exact Calls.quiet_of_same (sizeQ four _))
                  | (go_at_call 46; with_reducible exact Calls.quiet_of_same (HFI _)))
                go_wp2_with fail
                all_goals
                  go_ret
                  exact ⟨ret_bool HRR.out, HBW.out.trans (below_drewN _ _ _)⟩
            · obtain rfl : j = m := by omega
              have HO := Lib.hid (HOK.out (by rw [HSO.out, ← HFJ.out, List.take_of_length_le (by rw [HM.out]; exact Nat.le_refl _)]))
              go_wp2
              go_roundw
              case rel => exact ⟨k + 1, by omega, by go_num, HO.out, HBL.out.trans (HBJ.out.mono HBL.out.size)⟩
              case measure => simp [intOf]; omega
    · obtain rfl : k = pn := by omega
      have HR2 := Lib.hid (show (!(comms.any (oddB 0 4294967295))) = r by
        have h := HF.out
        rw [List.take_of_length_le (by rw [HN.out]; exact Nat.le_refl _)] at h
        rw [HR.out, h]; rfl)
      go_wp2
      go_loopw [8] (fun i wi => ∃ j : Nat, j ≤ cn ∧ i = .int .i64 j ∧ (comms.take j).any (oddB 0 4294967295) = false ∧ Below wr.heap.size wr wi) (fun i _ => cn - (intOf i).toNat)
      case atStart => exact ⟨0, Nat.zero_le _, rfl, rfl, Below.refl _ _⟩
      case round =>
        obtain ⟨j, hj, rfl, hsj, hbj⟩ := hrel
        have HBJ := Lib.hid hbj
        have HFJ := Lib.hid hsj
        have S2 := Lib.hid (S1.out.next hbj)
        clear hsj hbj s1 s5
        have s5 := S2.out.kb.cell 5 (by simp [atL])
        simp only [atL, List.getD_cons_zero, List.getD_cons_succ] at s5
        by_cases hjt : j < cn
        · obtain ⟨b2, off2, rfl, d0⟩ := ints_cell S2.out.ad.comms HC.out hjt
          obtain ⟨x, hx⟩ : ∃ x, comms.getD j 0 = x := ⟨_, rfl⟩
          rw [hx] at d0
          have HX := Lib.hid hx
          clear hx
          rcases hb : oddB 0 4294967295 x with _ | _
          · have HFI := fun u => fits4_any x u
            rw [hb] at HFI
            go_wp2_with (go_at_call 46; refine (HFI _).mono ?_; rintro e w3 ⟨rfl, rfl⟩)
            go_roundw
            case rel => exact ⟨j + 1, by omega, by go_num, any_step _ 0 comms j (by rw [HC.out]; exact hjt) HFJ.out (by rw [HX.out]; exact hb), HBJ.out⟩
            case measure => simp [intOf]; omega
          · have HFI := fun u => fits4_any x u
            rw [hb] at HFI
            have HRR := Lib.hid (show false = r by
              rw [← HR2.out, any_take _ 0 comms j (by rw [HC.out]; exact hjt) HFJ.out (by rw [HX.out]; exact hb)]; rfl)
            go_wp2_with (go_at_call 46; refine (HFI _).mono ?_; rintro e w3 ⟨rfl, rfl⟩)
            go_ret
            exact ⟨ret_bool HRR.out, S2.out.bel⟩
        · obtain rfl : j = cn := by omega
          have HRR := Lib.hid (show true = r by
            have h := HFJ.out
            rw [List.take_of_length_le (by rw [HC.out]; exact Nat.le_refl _)] at h
            rw [← HR2.out, h]; rfl)
          go_wp2
          go_ret
          exact ⟨ret_bool HRR.out, S2.out.bel⟩
theorem rcheck_any (a : At) (l : Loc) (four : Bool) (w : World) (ha : AtAt w a l) :
    Calls Tryd.prog 22 #[.agg (atL a l).toArray, .bool four] w fun e w' => e = .returned (.bool (okA a four)) ∧ Below w.heap.size w w' := by
  by_cases h : a.origin < 0 ∨ 2 < a.origin ∨ a.next = 0 ∨ a.med < -1 ∨ 4294967295 < a.med ∨ a.pref < -1 ∨ 4294967295 < a.pref ∨ 8 < a.path.length ∨ 32 < a.comms.length
  · rw [okA_head a four h]; exact rcheck_head a l four w ha h
  · exact rcheck_tail a l four w ha h
end Go.Proofs.YtpeagakpmjnelaaDoor.Ax
