/- ref05: Large, size, Fits. -/
import Derived.Test.YtpeagakpmjnelaaDoorAD
namespace Go.Proofs.YtpeagakpmjnelaaDoor.Ax
open Go.RowKit
set_option maxRecDepth 100000

def segBig (l : List Seg) : Bool := l.any fun s => decide (200 < s.nums.length)
def largeB (a : At) : Bool := decide (20 < a.path.length) || decide (100 < a.comms.length) || segBig a.path
theorem segBig_snoc (l : List Seg) (k : Nat) (h : k < l.length) : segBig (l.take (k + 1)) = (segBig (l.take k) || decide (200 < (l.getD k Seg.none).nums.length)) := by
  unfold segBig
  rw [List.take_succ_eq_append_getElem h, List.any_append]
  congr 1
  simp [List.getD, List.getElem?_eq_getElem h]
theorem segBig_take (l : List Seg) (k : Nat) (h : segBig (l.take k) = true) : segBig l = true := by
  unfold segBig at *
  rw [List.any_eq_true] at *
  obtain ⟨s, hs, hb⟩ := h
  exact ⟨s, List.mem_of_mem_take hs, hb⟩
set_option maxHeartbeats 1000000 in
theorem large_any (a : At) (l : Loc) (w : World) (ha : AtAt w a l) :
    Calls Tryd.prog 20 #[.agg (atL a l).toArray] w fun e w' => e = .returned (.bool (largeB a)) ∧ Below w.heap.size w w' := by
  have HB := Lib.hid (new_below w (.cells (atL a l).toArray 27))
  have HA := Lib.hid ha
  obtain ⟨origin, path, next, med, pref, comms⟩ := a
  obtain ⟨pp, pn, pc, cp, cn, cc⟩ := l
  have HN := Lib.hid (show path.length = pn from ha.pn)
  have HC := Lib.hid (show comms.length = cn from ha.cn)
  have hm : pn ≤ maxLen := Nat.le_trans ha.pc ha.pm
  have hm2 : cn ≤ maxLen := Nat.le_trans ha.cc ha.cm
  unfold maxLen at hm hm2
  have HR := Lib.hid (show largeB ⟨origin, path, next, med, pref, comms⟩ = (decide (20 < pn) || decide (100 < cn) || segBig path) by unfold largeB; rw [HN.out, HC.out])
  obtain ⟨r, hr⟩ : ∃ r, largeB ⟨origin, path, next, med, pref, comms⟩ = r := ⟨_, rfl⟩
  rw [hr] at HR ⊢
  simp only [atL] at *
  clear ha hr
  by_cases hp : 20 < pn
  · have HR2 := Lib.hid (show true = r by rw [HR.out]; simp [hp])
    clear HR
    go_enter Tryd.func20, Tryd.ntmps20
    go_wp2
    go_ret
    exact ⟨ret_bool HR2.out, HB.out⟩
  · by_cases hc : 100 < cn
    · have HR2 := Lib.hid (show true = r by rw [HR.out]; simp [hc])
      clear HR
      go_enter Tryd.func20, Tryd.ntmps20
      go_wp2
      go_ret
      exact ⟨ret_bool HR2.out, HB.out⟩
    · have HR2 := Lib.hid (show segBig path = r by rw [HR.out]; simp [hc, hp])
      clear HR
      go_enter Tryd.func20, Tryd.ntmps20
      go_wp2
      go_loopw [3] (fun i wr => ∃ k : Nat, k ≤ pn ∧ i = .int .i64 k ∧ segBig (path.take k) = false ∧ Below (w.alloc (.cells #[.int .i64 origin, .slice pp pn pc, .int .u32 next, .int .i64 med, .int .i64 pref, .slice cp cn cc] 27)).heap.size (w.alloc (.cells #[.int .i64 origin, .slice pp pn pc, .int .u32 next, .int .i64 med, .int .i64 pref, .slice cp cn cc] 27)) wr) (fun i _ => pn - (intOf i).toNat)
      case atStart => exact ⟨0, Nat.zero_le _, rfl, rfl, Below.refl _ _⟩
      case round =>
        obtain ⟨k, hk, rfl, hs0, hbl⟩ := hrel
        have HBL := Lib.hid hbl
        have HW := Lib.hid (HB.out.trans (hbl.mono HB.out.size))
        have S0 := (BoxSt.new HA.out).kb.next hbl
        have s1 := S0.cell 1 (by simp [atL])
        simp only [atL, List.getD_cons_zero, List.getD_cons_succ] at s1
        have HS := Lib.hid hs0
        clear S0 hs0
        by_cases hlt : k < pn
        · obtain ⟨b, off, rfl, c0, q1, m, cq, c1, hm1, hm3, hm4, hq1⟩ := seg_cell (HA.out.path.below HW.out) HN.out hlt
          have hsn := segBig_snoc path k (by rw [HN.out]; exact hlt)
          rw [HS.out, hm1, Bool.false_or] at hsn
          have HSN := Lib.hid hsn
          unfold maxLen at hm4
          clear hbl hm1 hq1 hsn c0
          by_cases hbig : 200 < m
          · go_wp2
            go_ret
            refine ⟨ret_bool ?_, HW.out⟩
            rw [← HR2.out]
            exact (segBig_take _ _ (by rw [HSN.out]; simp [hbig])).symm
          · go_wp2
            go_roundw
            case rel => exact ⟨k + 1, by omega, by go_num, by rw [HSN.out]; simp [hbig], HBL.out⟩
            case measure => simp [intOf]; omega
        · obtain rfl : k = pn := by omega
          clear hbl
          go_wp2
          go_ret
          refine ⟨ret_bool ?_, HW.out⟩
          rw [← HR2.out, ← HS.out, List.take_of_length_le (by rw [HN.out]; exact Nat.le_refl _)]
theorem size_any (four : Bool) (w : World) :
    Calls Tryd.prog 47 #[.bool four] w fun e w' => e = .returned (.int .i64 (if four then 4 else 2)) ∧ w = w' := by
  cases four
  all_goals
    go_enter Tryd.func47, Tryd.ntmps47
    go_wp2
    go_ret
    exact ⟨rfl, rfl⟩
end Go.Proofs.YtpeagakpmjnelaaDoor.Ax
