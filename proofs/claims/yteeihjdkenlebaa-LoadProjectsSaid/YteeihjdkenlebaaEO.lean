/- ref05: Same of what is the same. -/
import Derived.Test.YteeihjdkenlebaaA0
namespace Go.Proofs.Yteeihjdkenlebaa
open Go.RowKit

set_option linter.unusedVariables false
set_option linter.unusedSimpArgs false
theorem below_drewN (B : Nat) (w : World) (n : Nat) : Below B w (w.drewN n) := ⟨rfl, rfl, rfl, Nat.le_refl _, fun _ _ => rfl⟩
theorem ints_cell {w : World} {p : Option Addr} {xs : List Int} {n k : Nat} (h : IntsAt w p xs) (hn : xs.length = n) (hk : k < n) : ∃ b off, p = some ⟨b, off, none⟩ ∧ w.cell? ⟨b, off + k, none⟩ = some (.int .i64 (xs.getD k 0)) := by
  rcases h with h | ⟨b, off, hp, hc⟩
  · rw [h] at hn; simp at hn; omega
  · exact ⟨b, off, hp, hc k (by omega)⟩
theorem seg_cell {w : World} {p : Option Addr} {l : List Seg} {n k : Nat} (h : SegsAt w p l) (hn : l.length = n) (hk : k < n) : ∃ b off, p = some ⟨b, off, none⟩ ∧ SegAt w b (off + k * 2) (l.getD k Seg.none) := by
  rcases h with h | ⟨b, off, hp, hc⟩
  · rw [h] at hn; simp at hn; omega
  · exact ⟨b, off, hp, hc k (by omega)⟩
set_option maxHeartbeats 1000000 in
theorem rints_same (p q : Option Addr) (xs : List Int) (n c d : Nat) (w : World) (hx : IntsAt w p xs) (hy : IntsAt w q xs) (hn : xs.length = n) (hm : n ≤ maxLen) :
    Calls Try.prog 51 #[.slice p n c, .slice q n d] w fun e w' => e = .returned (.bool true) ∧ ∃ m, w' = w.drewN m := by
  unfold maxLen at hm
  have HX := Lib.hid hx
  have HY := Lib.hid hy
  have HN := Lib.hid hn
  have t1 : ((n : Int) != (n : Int)) = false := by simp
  clear hx hy hn
  go_enter Try.func51, Try.ntmps51
  go_wp2
  clear t1
  go_loopw [5] (fun i wr => ∃ k : Nat, k ≤ n ∧ i = .int .i64 k ∧ ∃ m, wr = w.drewN m) (fun i _ => n - (intOf i).toNat)
  case atStart => exact ⟨0, Nat.zero_le _, rfl, 0, rfl⟩
  case round =>
    obtain ⟨k, hk, rfl, m, rfl⟩ := hrel
    by_cases hlt : k < n
    · obtain ⟨b, off, rfl, c0⟩ := ints_cell HX.out HN.out hlt
      obtain ⟨b2, off2, rfl, d0⟩ := ints_cell HY.out HN.out hlt
      obtain ⟨x, hx⟩ : ∃ x, xs.getD k 0 = x := ⟨_, rfl⟩
      rw [hx] at c0 d0
      have t2 : (x != x) = false := by simp
      clear hx
      have c1 : (w.drewN m).cell? ⟨b, off + k, none⟩ = some (.int .i64 x) := c0
      have d1 : (w.drewN m).cell? ⟨b2, off2 + k, none⟩ = some (.int .i64 x) := d0
      go_wp2_with fail
      go_quiet (fail)
      go_wp2_with fail
      go_roundw
      case rel => exact ⟨k + 1, by omega, by go_num, _, rfl⟩
      case measure => simp [intOf]; omega
    · obtain rfl : k = n := by omega
      go_wp2
      go_ret
      exact ⟨rfl, m, rfl⟩
theorem rints_q (p q : Option Addr) (xs : List Int) (n c d m : Nat) (w : World) (hx : IntsAt w p xs) (hy : IntsAt w q xs) (hn : xs.length = n) (hm : n ≤ maxLen) :
    Calls Try.prog 51 #[.slice p n c, .slice q n d] (w.drewN m) fun e w' => e = .returned (.bool true) ∧ ∃ k, w' = w.drewN k :=
  Calls.quiet_of (rints_same p q xs n c d (w.drewN m) (hx.below (below_drewN _ w m)) (hy.below (below_drewN _ w m)) hn hm)
set_option maxHeartbeats 4000000 in
set_option maxRecDepth 100000 in
theorem rsame_yes (a : At) (l m : Loc) (w : World) (h1 : AtAt w a l) (h2 : AtAt w a m) :
    Calls Try.prog 46 #[.agg (atL a l).toArray, .agg (atL a m).toArray] w fun e w' => e = .returned (.bool true) ∧ Below w.heap.size w w' := by
  obtain ⟨W, hW⟩ : ∃ W, (w.alloc (.cells (atL a l).toArray 47)).alloc (.cells (atL a m).toArray 47) = W := ⟨_, rfl⟩
  have hb : Below w.heap.size w W := by rw [← hW]; exact two_below _ _ _
  have K1 := Lib.hid (show Blk W w.heap.size 47 (atL a l) by rw [← hW]; exact (Blk.new w 47 (atL a l)).alloc _)
  have K2 := Lib.hid (show Blk W (w.heap.size + 1) 47 (atL a m) by rw [← hW, ← sz_alloc w (.cells (atL a l).toArray 47)]; exact Blk.new _ 47 (atL a m))
  have hpl : m.pn = l.pn ∧ m.cn = l.cn := ⟨by rw [← h1.pn, ← h2.pn], by rw [← h1.cn, ← h2.cn]⟩
  have HP := Lib.hid (And.intro (h1.path.below hb) (h2.path.below hb))
  have HN := Lib.hid h1.pn
  have hm : l.pn ≤ maxLen := Nat.le_trans h1.pc h1.pm
  have HI := Lib.hid (rints_same l.cp m.cp a.comms l.cn l.cc m.cc W (h1.comms.below hb) (h2.comms.below hb) h1.cn (Nat.le_trans h1.cc h1.cm))
  have HB := Lib.hid hb
  have HW := Lib.hid hW
  obtain ⟨origin, path, next, med, pref, comms⟩ := a
  obtain ⟨pp, pn, pc, cp, cn, cc⟩ := l
  obtain ⟨qp, qn, qc, dp, dn, dc⟩ := m
  simp only at hpl
  obtain ⟨rfl, rfl⟩ := hpl
  simp only [atL] at *
  unfold maxLen at hm
  clear h1 h2 hW hb
  have ka0 := K1.out.cell 0 (by simp)
  have ka1 := K1.out.cell 1 (by simp)
  have ka2 := K1.out.cell 2 (by simp)
  have ka3 := K1.out.cell 3 (by simp)
  have ka4 := K1.out.cell 4 (by simp)
  have ka5 := K1.out.cell 5 (by simp)
  have kb0 := K2.out.cell 0 (by simp)
  have kb1 := K2.out.cell 1 (by simp)
  have kb2 := K2.out.cell 2 (by simp)
  have kb3 := K2.out.cell 3 (by simp)
  have kb4 := K2.out.cell 4 (by simp)
  have kb5 := K2.out.cell 5 (by simp)
  rw [← HW.out] at ka0 ka1 ka2 ka3 ka4 ka5 kb0 kb1 kb2 kb3 kb4 kb5
  have t0 : (origin != origin) = false := by simp
  have t2 : (next != next) = false := by simp
  have t3 : (med != med) = false := by simp
  have t4 : (pref != pref) = false := by simp
  have t5 : ((qn : Int) != (qn : Int)) = false := by simp
  go_enter Try.func46, Try.ntmps46
  go_wp2_with fail
  rw [HW.out]
  refine HI.out.mono ?_; rintro e w1 ⟨rfl, dr, rfl⟩
  rw [HW.out] at ka0 ka1 ka2 ka3 ka4 ka5 kb0 kb1 kb2 kb3 kb4 kb5
  go_wp2_with fail
  clear t0 t2 t3 t4 t5 ka0 ka2 ka3 ka4 ka5 kb0 kb2 kb3 kb4 kb5
  go_loopw [5] (fun i wr => ∃ k : Nat, k ≤ qn ∧ i = .int .i64 k ∧ ∃ m, wr = W.drewN m) (fun i _ => qn - (intOf i).toNat)
  case atStart => exact ⟨0, Nat.zero_le _, rfl, dr, rfl⟩
  case round =>
    obtain ⟨k, hk, rfl, m, hwr⟩ := hrel
    have HWR := Lib.hid hwr
    have ka1' : wr.cell? ⟨w.heap.size, 1, none⟩ = some (.slice pp qn pc) := by rw [hwr]; exact ka1
    have kb1' : wr.cell? ⟨w.heap.size + 1, 1, none⟩ = some (.slice qp qn qc) := by rw [hwr]; exact kb1
    clear hwr ka1 kb1
    by_cases hlt : k < qn
    · obtain ⟨b, off, rfl, c0, q1, m1, cq, c1, hm1, hm2, hm3, hq1⟩ := seg_cell HP.out.1 HN.out hlt
      obtain ⟨b2, off2, rfl, d0, q2, m', cq2, d1, hm1', hm2', hm3', hq2⟩ := seg_cell HP.out.2 HN.out hlt
      obtain rfl : m1 = m' := by omega
      obtain ⟨s, hs⟩ : ∃ s, path.getD k Seg.none = s := ⟨_, rfl⟩
      rw [hs] at c0 d0 hm1 hm1' hq1 hq2
      obtain ⟨set, nums⟩ := s
      simp only at c0 c1 d0 d1 hm1 hm1' hq1 hq2
      have HSM := Lib.hid (fun n => rints_same q1 q2 nums m1 cq cq2 (wr.drewN n) (hq1.below (by rw [HWR.out, World.drewN_drewN]; exact below_drewN _ W _)) (hq2.below (by rw [HWR.out, World.drewN_drewN]; exact below_drewN _ W _)) hm1 (by omega))
      have t2 : (set != set) = false := by simp
      have c0' : wr.cell? ⟨b, off + k * 2, none⟩ = some (.bool set) := by rw [HWR.out]; exact c0
      have c1' : wr.cell? ⟨b, off + k * 2 + 1, none⟩ = some (.slice q1 m1 cq) := by rw [HWR.out]; exact c1
      have d0' : wr.cell? ⟨b2, off2 + k * 2, none⟩ = some (.bool set) := by rw [HWR.out]; exact d0
      have d1' : wr.cell? ⟨b2, off2 + k * 2 + 1, none⟩ = some (.slice q2 m1 cq2) := by rw [HWR.out]; exact d1
      clear c0 c1 d0 d1 hs hm1 hm1' hm2 hm2' hm3 hm3' hq1 hq2
      go_wp2_with fail
      go_quiet ((go_at_call 51; with_reducible exact Calls.quiet_of (HSM.out _)))
      go_wp2_with fail
      go_roundw
      case rel => exact ⟨k + 1, by omega, by go_num, _, by rw [HWR.out, World.drewN_drewN]⟩
      case measure => simp [intOf]; omega
    · obtain rfl : k = qn := by omega
      go_wp2
      go_ret
      exact ⟨rfl, by rw [HWR.out]; exact HB.out.trans (below_drewN _ _ _)⟩
end Go.Proofs.Yteeihjdkenlebaa
