/- attr: Same of what is the same; Length, First. -/
import Derived.Test.YtpeagakpmjnelaaDoorAC
import Derived.LoopN
namespace Go.Proofs.YtpeagakpmjnelaaDoor.Ax
open Go.RowKit
set_option maxRecDepth 100000

theorem same_seg (s : Seg) (q1 q2 : Option Addr) (m c1 c2 : Nat) (w : World) (h1 : IntsAt w q1 s.nums) (h2 : IntsAt w q2 s.nums) (hm : s.nums.length = m) (hc : m ≤ maxLen) :
    Calls Tryd.prog 74 #[.agg #[.bool s.set, .slice q1 m c1], .agg #[.bool s.set, .slice q2 m c2]] w fun e w' => e = .returned (.bool true) ∧ Below w.heap.size w w' := by
  have hb := two_below w (.cells #[.bool s.set, .slice q1 m c1] 88) (.cells #[.bool s.set, .slice q2 m c2] 88)
  have HE := Lib.hid (ints_equal q1 q2 s.nums s.nums m m c1 c2 _ (h1.below hb) (h2.below hb) hm hm hc)
  rw [beq_self_eq_true] at HE
  have HB := Lib.hid hb
  obtain ⟨set, nums⟩ := s
  simp only at *
  clear h1 h2 hm hb
  cases set
  all_goals
    go_enter Tryd.func74, Tryd.ntmps74
    go_wp2_with fail
    refine HE.out.mono ?_; rintro e w1 ⟨rfl, hb⟩
    have HB1 := Lib.hid (HB.out.trans (hb.mono HB.out.size))
    clear hb
    go_wp2_with fail
    go_ret
    exact ⟨rfl, HB1.out⟩
theorem seg_cell {w : World} {p : Option Addr} {l : List Seg} {n k : Nat} (h : SegsAt w p l) (hn : l.length = n) (hk : k < n) : ∃ b off, p = some ⟨b, off, none⟩ ∧ SegAt w b (off + k * 2) (l.getD k Seg.none) := by
  rcases h with h | ⟨b, off, hp, hc⟩
  · rw [h] at hn; simp at hn; omega
  · exact ⟨b, off, hp, hc k (by omega)⟩
set_option maxRecDepth 100000 in
set_option maxHeartbeats 2000000 in
theorem segs_same (p q : Option Addr) (l : List Seg) (n c d : Nat) (w : World) (h1 : SegsAt w p l) (h2 : SegsAt w q l) (hn : l.length = n) (hm : n ≤ maxLen) :
    Calls Tryd.prog 76 #[.slice p n c, .slice q n d, .func (.func 74) #[] #[]] w fun e w' => e = .returned (.bool true) ∧ Below w.heap.size w w' := by
  unfold maxLen at hm
  have H1 := Lib.hid h1
  have H2 := Lib.hid h2
  have HN := Lib.hid hn
  have t1 : ((n : Int) != (n : Int)) = false := by simp
  clear h1 h2 hn
  go_enter Tryd.func76, Tryd.ntmps76
  go_wp2
  clear t1
  go_loopw [17] (fun i wr => ∃ k : Nat, k ≤ n ∧ i = .int .i64 k ∧ Below w.heap.size w wr) (fun i _ => n - (intOf i).toNat)
  case atStart => exact ⟨0, Nat.zero_le _, rfl, Below.refl _ _⟩
  case round =>
    obtain ⟨k, hk, rfl, hbl⟩ := hrel
    have HBL := Lib.hid hbl
    by_cases hlt : k < n
    · obtain ⟨b, off, rfl, c0, q1, m, cq, c1, hm1, hm2, hm3, hq1⟩ := seg_cell (H1.out.below hbl) HN.out hlt
      obtain ⟨b2, off2, rfl, d0, q2, m', cq2, d1, hm1', hm2', hm3', hq2⟩ := seg_cell (H2.out.below hbl) HN.out hlt
      obtain rfl : m = m' := by omega
      obtain ⟨s, hs⟩ : ∃ s, l.getD k Seg.none = s := ⟨_, rfl⟩
      rw [hs] at c0 d0 hm1 hm1' hq1 hq2
      obtain ⟨set, nums⟩ := s
      simp only at c0 c1 d0 d1 hm1 hm1' hq1 hq2
      have hb3 := two_below wr (.cells #[.bool set, .slice q1 m cq] 88) (.cells #[.bool set, .slice q2 m cq2] 88)
      have HSM := Lib.hid (same_seg ⟨set, nums⟩ q1 q2 m cq cq2 _ (hq1.below hb3) (hq2.below hb3) hm1 (by omega))
      have HB3 := Lib.hid (hbl.trans (hb3.mono hbl.size))
      have e0 : (wr.alloc (.cells #[.bool set, .slice q1 m cq] 88)).cell? ⟨b2, off2 + k * 2, none⟩ = some (.bool set) := kept (new_below _ _) d0
      have e1 : (wr.alloc (.cells #[.bool set, .slice q1 m cq] 88)).cell? ⟨b2, off2 + k * 2 + 1, none⟩ = some (.slice q2 m cq2) := kept (new_below _ _) d1
      simp only at HSM
      clear hbl hs hm1 hm1' hm2 hm2' hm3 hm3' hq1 hq2 hb3
      go_wp2_with (go_at_call 74; refine HSM.out.mono ?_; rintro e w3 ⟨rfl, hb4⟩)
      go_roundw
      case rel => exact ⟨k + 1, by omega, by go_num, HB3.out.trans (hb4.mono HB3.out.size)⟩
      case measure => simp [intOf]; omega
    · obtain rfl : k = n := by omega
      clear hbl
      go_wp2
      go_ret
      exact ⟨rfl, HBL.out⟩
set_option maxHeartbeats 1000000 in
theorem sameA_yes (a : At) (l m : Loc) (w : World) (h1 : AtAt w a l) (h2 : AtAt w a m) :
    Calls Tryd.prog 54 #[.agg (atL a l).toArray, .agg (atL a m).toArray] w fun e w' => e = .returned (.bool true) ∧ Below w.heap.size w w' := by
  obtain ⟨W, hW⟩ : ∃ W, (w.alloc (.cells (atL a l).toArray 27)).alloc (.cells (atL a m).toArray 27) = W := ⟨_, rfl⟩
  have hb : Below w.heap.size w W := by rw [← hW]; exact two_below _ _ _
  have K1 := Lib.hid (show Blk W w.heap.size 27 (atL a l) by rw [← hW]; exact (Blk.new w 27 (atL a l)).alloc _)
  have K2 := Lib.hid (show Blk W (w.heap.size + 1) 27 (atL a m) by rw [← hW, ← sz_alloc w (.cells (atL a l).toArray 27)]; exact Blk.new _ 27 (atL a m))
  have hpl : m.pn = l.pn ∧ m.cn = l.cn := ⟨by rw [← h1.pn, ← h2.pn], by rw [← h1.cn, ← h2.cn]⟩
  have HS := Lib.hid (segs_same l.pp m.pp a.path l.pn l.pc m.pc W (h1.path.below hb) (h2.path.below hb) h1.pn (Nat.le_trans h1.pc h1.pm))
  have HI := fun (u : World) (hu : Below W.heap.size W u) => Lib.hid (ints_equal l.cp m.cp a.comms a.comms l.cn l.cn l.cc m.cc u ((h1.comms.below hb).below hu) ((h2.comms.below hb).below hu) h1.cn h1.cn (Nat.le_trans h1.cc h1.cm))
  rw [beq_self_eq_true] at HI
  have HB := Lib.hid hb
  have HW := Lib.hid hW
  obtain ⟨origin, path, next, med, pref, comms⟩ := a
  obtain ⟨pp, pn, pc, cp, cn, cc⟩ := l
  obtain ⟨qp, qn, qc, dp, dn, dc⟩ := m
  simp only at hpl
  obtain ⟨rfl, rfl⟩ := hpl
  simp only [atL] at *
  clear h1 h2 hW hb
  have ka0 := K1.out.cell 0 (by simp)
  have ka1 := K1.out.cell 1 (by simp)
  have ka2 := K1.out.cell 2 (by simp)
  have ka3 := K1.out.cell 3 (by simp)
  have ka4 := K1.out.cell 4 (by simp)
  have ka5 := K1.out.cell 5 (by simp)
  have kb0 := K2.out.cell 0 (by simp)
  have kb1 := K2.out.cell 1 (by simp)
  have kb2 := K2.out.cell 2 (by simp)
  have kb3 := K2.out.cell 3 (by simp)
  have kb4 := K2.out.cell 4 (by simp)
  have kb5 := K2.out.cell 5 (by simp)
  rw [← HW.out] at ka0 ka1 ka2 ka3 ka4 ka5 kb0 kb1 kb2 kb3 kb4 kb5
  go_enter Tryd.func54, Tryd.ntmps54
  go_wp2_with fail
  rw [HW.out]
  refine HS.out.mono ?_; rintro e w1 ⟨rfl, hb⟩
  have HB1 := Lib.hid (HB.out.trans (hb.mono HB.out.size))
  have L1 := K1.out.next hb
  have L2 := K2.out.next hb
  have HI1 := HI w1 hb
  clear ka0 ka1 ka2 ka3 ka4 ka5 kb0 kb1 kb2 kb3 kb4 kb5
  have kc0 := L1.cell 0 (by simp)
  have kc1 := L1.cell 1 (by simp)
  have kc2 := L1.cell 2 (by simp)
  have kc3 := L1.cell 3 (by simp)
  have kc4 := L1.cell 4 (by simp)
  have kc5 := L1.cell 5 (by simp)
  have kd0 := L2.cell 0 (by simp)
  have kd1 := L2.cell 1 (by simp)
  have kd2 := L2.cell 2 (by simp)
  have kd3 := L2.cell 3 (by simp)
  have kd4 := L2.cell 4 (by simp)
  have kd5 := L2.cell 5 (by simp)
  clear hb L1 L2 HI
  go_wp2_with fail
  refine HI1.out.mono ?_; rintro e w2 ⟨rfl, hb⟩
  have HB2 := Lib.hid (HB1.out.trans (hb.mono HB1.out.size))
  clear hb kc0 kc1 kc2 kc3 kc4 kc5 kd0 kd1 kd2 kd3 kd4 kd5
  go_wp2_with fail
  go_ret
  exact ⟨rfl, HB2.out⟩

def lenS (s : Seg) : Nat := if s.set then 1 else s.nums.length
def lenV (l : List Seg) : Nat := (l.map lenS).sum
theorem lenV_snoc (l : List Seg) (k : Nat) (h : k < l.length) : lenV (l.take (k + 1)) = lenV (l.take k) + lenS (l.getD k Seg.none) := by
  unfold lenV
  rw [List.take_succ_eq_append_getElem h, List.map_append, List.sum_append]
  congr 1
  simp [List.getD, List.getElem?_eq_getElem h]
theorem lenV_take (l : List Seg) (k : Nat) : lenV (l.take k) ≤ lenV l := by
  have h : lenV l = lenV (l.take k) + lenV (l.drop k) := by
    unfold lenV
    rw [← List.sum_append, ← List.map_append, List.take_append_drop]
  omega
end Go.Proofs.YtpeagakpmjnelaaDoor.Ax
