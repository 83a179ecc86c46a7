/- attr: mayPath, Check. -/
import Derived.Test.YtpeagakpmjnelaaDoorA0
import Derived.Laws.EntriesVeiled
namespace Go.Proofs.YtpeagakpmjnelaaDoor.Ax
open Go.RowKit
set_option maxRecDepth 100000

/-- A variable that holds the function that tells what is odd. -/
def FuncAt (w : World) (h g : Nat) (hi : Int) : Prop := w.cell? ⟨h, 0, none⟩ = some (oddF g) ∧ OddAt w g 0 hi
theorem FuncAt.below {w w' : World} {h g : Nat} {hi : Int} (k : FuncAt w h g hi) (hb : Below w.heap.size w w') : FuncAt w' h g hi := ⟨kept hb k.1, k.2.below hb⟩
theorem seg_odd (h g : Nat) (hi : Int) (s : Seg) (q : Option Addr) (m c : Nat) (w : World) (hf : FuncAt w h g hi) (hq : IntsAt w q s.nums) (hm : s.nums.length = m) (hc : m ≤ c) (hcm : c ≤ maxLen) :
    Calls Tryd.prog 97 #[.agg #[.bool s.set, .slice q m c], .pointer (some ⟨h, 0, none⟩)] w fun e w' => e = .returned (.bool (segOdd hi s)) ∧ Below w.heap.size w w' := by
  have HB := Lib.hid (new_below w (.cells #[.bool s.set, .slice q m c] 88))
  have hf' := hf.below HB.out
  obtain ⟨c0, ho⟩ := hf'
  have HC := Lib.hid (ints_contains g 0 hi q s.nums m c _ (hq.below HB.out) hm (by omega) ho)
  unfold oddF at *
  obtain ⟨set, nums⟩ := s
  simp only at *
  by_cases h0 : m = 0
  · have HE := Lib.hid (show segOdd hi ⟨set, nums⟩ = true by simp [segOdd, hm, h0])
    subst h0
    clear hf hq hm ho
    go_enter Tryd.func97, Tryd.ntmps97
    go_wp2
    go_ret
    exact ⟨by rw [HE.out]; rfl, HB.out⟩
  · have t0 : (m == 0) = false := by simpa using h0
    have t0' : ((m : Int) == 0) = false := by simp; omega
    by_cases h1 : 64 < m
    · have HE := Lib.hid (show segOdd hi ⟨set, nums⟩ = true by simp [segOdd, hm, h1])
      have t1 : decide ((64 : Int) < (m : Int)) = true := by simp; omega
      clear hf hq hm ho h1 h0
      go_enter Tryd.func97, Tryd.ntmps97
      go_wp2
      go_ret
      exact ⟨by rw [HE.out]; rfl, HB.out⟩
    · have HE := Lib.hid (show segOdd hi ⟨set, nums⟩ = nums.any (oddB 0 hi) by simp only [segOdd, hm]; rw [t0, decide_eq_false h1, Bool.false_or, Bool.false_or])
      have t1 : decide ((64 : Int) < (m : Int)) = false := by simp; omega
      clear hf hq hm ho h1 h0
      go_enter Tryd.func97, Tryd.ntmps97
      go_wp2_with fail
      refine HC.out.mono ?_; rintro e w1 ⟨rfl, rfl⟩
      go_wp2_with fail
      go_ret
      exact ⟨by rw [HE.out]; rfl, HB.out⟩

theorem odd_index (h g : Nat) (hi : Int) (p : Option Addr) (l : List Seg) (n c : Nat) (w : World) (hx : SegsAt w p l) (hn : l.length = n) (hm : n ≤ maxLen) (hk0 : FuncAt w h g hi) :
    Calls Tryd.prog 105 #[.slice p n c, .func (.func 97) #[] #[.pointer (some ⟨h, 0, none⟩)]] w fun e w' => IdxTo (l.any (segOdd hi)) e ∧ Below w.heap.size w w' := by
  unfold maxLen at hm
  have HX := Lib.hid hx
  have HN := Lib.hid hn
  have HK := Lib.hid hk0
  clear hx hn hk0
  go_enter Tryd.func105, Tryd.ntmps105
  go_wp2
  go_loopw [8] (fun i wr => ∃ k : Nat, k ≤ n ∧ i = .int .i64 k ∧ (l.take k).any (segOdd hi) = false ∧ Below w.heap.size w wr) (fun i _ => n - (intOf i).toNat)
  case atStart => exact ⟨0, Nat.zero_le _, rfl, rfl, Below.refl _ _⟩
  case round =>
    obtain ⟨k, hk, rfl, hf, hbl⟩ := hrel
    have HF := Lib.hid hf
    have HBL := Lib.hid hbl
    clear hf hbl
    by_cases hlt : k < n
    · have hcell : ∃ b off, p = some ⟨b, off, none⟩ ∧ SegAt wr b (off + k * 2) (l.getD k Seg.none) := by
        rcases HX.out.below HBL.out with h | ⟨b, off, hp, hc⟩
        · have := HN.out; rw [h] at this; simp at this; omega
        · exact ⟨b, off, hp, hc k (by rw [HN.out]; exact hlt)⟩
      obtain ⟨b, off, rfl, hc⟩ := hcell
      obtain ⟨s, hs⟩ : ∃ s, l.getD k Seg.none = s := ⟨_, rfl⟩
      rw [hs] at hc
      have HSK := Lib.hid hs
      clear hs
      obtain ⟨c0, q, m, cq, c1, hm1, hm2, hm3, hq⟩ := hc
      have HC := Lib.hid (seg_odd h g hi s q m cq wr (HK.out.below HBL.out) hq hm1 hm2 hm3)
      have HM1 := Lib.hid hm1
      clear hm1 hm2 hm3 hq
      rcases hb : segOdd hi s with _ | _
      · rw [hb] at HC
        go_wp2_with (go_at_call 97; refine HC.out.mono ?_; rintro e w2 ⟨rfl, hb2⟩)
        go_roundw
        case rel => exact ⟨k + 1, by omega, by go_num, any_step _ Seg.none l k (by rw [HN.out]; exact hlt) HF.out (by rw [HSK.out]; exact hb), HBL.out.trans (hb2.mono HBL.out.size)⟩
        case measure => simp [intOf]; omega
      · rw [hb] at HC
        go_wp2_with (go_at_call 97; refine HC.out.mono ?_; rintro e w2 ⟨rfl, hb2⟩)
        go_ret
        exact ⟨⟨k, rfl, by rw [any_take _ Seg.none l k (by rw [HN.out]; exact hlt) HF.out (by rw [HSK.out]; exact hb)]; simp⟩, HBL.out.trans (hb2.mono HBL.out.size)⟩
    · obtain rfl : k = n := by omega
      go_wp2
      go_ret
      refine ⟨⟨-1, rfl, ?_⟩, HBL.out⟩
      have := HF.out
      rw [List.take_of_length_le (by rw [HN.out]; exact Nat.le_refl _)] at this
      rw [this]; rfl
theorem odd_contains (h g : Nat) (hi : Int) (p : Option Addr) (l : List Seg) (n c : Nat) (w : World) (hx : SegsAt w p l) (hn : l.length = n) (hm : n ≤ maxLen) (hk0 : FuncAt w h g hi) :
    Calls Tryd.prog 99 #[.slice p n c, .func (.func 97) #[] #[.pointer (some ⟨h, 0, none⟩)]] w fun e w' => e = .returned (.bool (l.any (segOdd hi))) ∧ Below w.heap.size w w' := by
  have HI := Lib.hid (odd_index h g hi p l n c w hx hn hm hk0)
  clear hx hn hk0 hm
  go_enter Tryd.func99, Tryd.ntmps99
  go_wp2_with fail
  refine HI.out.mono ?_; rintro e w1 ⟨⟨i, rfl, hi'⟩, hb⟩
  have HD := Lib.hid hi'
  have HB := Lib.hid hb
  clear hi' hb
  go_wp2_with fail
  go_ret
  exact ⟨ret_bool HD.out, HB.out⟩

theorem path_any (p : Option Addr) (l : List Seg) (n c : Nat) (four : Bool) (w : World) (hx : SegsAt w p l) (hn : l.length = n) (hm : n ≤ maxLen) :
    Calls Tryd.prog 88 #[.slice p n c, .bool four] w fun e w' => e = .returned (.bool (okPath l four)) ∧ Below w.heap.size w w' := by
  have HX := Lib.hid hx
  have HN := Lib.hid hn
  have HM := Lib.hid hm
  by_cases h : n ≤ 8
  · have HE := Lib.hid (show okPath l four = !(l.any (segOdd (mostA four))) by unfold okPath; rw [hn, decide_eq_true h, Bool.true_and])
    have t1 : decide ((n : Int) ≤ 8) = true := by simp; omega
    clear hx hn hm
    go_enter Tryd.func88, Tryd.ntmps88
    go_wp2_with fail
    refine (most_any four w).mono ?_; rintro e w1 ⟨rfl, rfl⟩
    go_wp2_with fail
    refine (beyond_any 0 (mostA four) w).mono ?_; rintro e w1 ⟨rfl, h1, hb⟩
    have HB := Lib.hid hb
    have HNB := Lib.hid (new_below w1 (.cells #[oddF w.heap.size] 104))
    have HV := Lib.hid (show FuncAt (w1.alloc (.cells #[oddF w.heap.size] 104)) w1.heap.size w.heap.size (mostA four) from ⟨(Blk.new w1 104 [oddF w.heap.size]).cell 0 (by simp), h1.below HNB.out⟩)
    have HC := Lib.hid (odd_contains w1.heap.size w.heap.size (mostA four) p l n c _ ((HX.out.below hb).below HNB.out) HN.out HM.out HV.out)
    unfold oddF at *
    clear h1 hb
    go_wp2_with fail
    refine HC.out.mono ?_; rintro e w2 ⟨rfl, hb⟩
    have HB2 := Lib.hid ((HB.out.trans (HNB.out.mono HB.out.size)).trans (hb.mono (Nat.le_trans HB.out.size HNB.out.size)))
    clear hb
    go_wp2_with fail
    go_ret
    exact ⟨by rw [HE.out]; rfl, HB2.out⟩
  · have HE := Lib.hid (show okPath l four = false by unfold okPath; rw [hn, decide_eq_false h, Bool.false_and])
    have t1 : decide ((n : Int) ≤ 8) = false := by simp; omega
    clear hx hn hm
    go_enter Tryd.func88, Tryd.ntmps88
    go_wp2_with fail
    refine (most_any four w).mono ?_; rintro e w1 ⟨rfl, rfl⟩
    go_wp2_with fail
    refine (beyond_any 0 (mostA four) w).mono ?_; rintro e w1 ⟨rfl, h1, hb⟩
    have HB := Lib.hid (hb.trans ((new_below w1 (.cells #[oddF w.heap.size] 104)).mono hb.size))
    unfold oddF at *
    clear h1 hb
    go_wp2_with fail
    go_ret
    exact ⟨by rw [HE.out]; rfl, HB.out⟩
end Go.Proofs.YtpeagakpmjnelaaDoor.Ax
