/- attr: Has, Same, and what they call. -/
import Derived.Test.YtcabiodgmhcdlaaDoorA2
namespace Go.Proofs.YtcabiodgmhcdlaaDoor
open Go.RowKit

theorem below_drewN (B : Nat) (w : World) (n : Nat) : Below B w (w.drewN n) := ⟨rfl, rfl, rfl, Nat.le_refl _, fun _ _ => rfl⟩
theorem ints_find (y : Int) (p : Option Addr) (xs : List Int) (n c : Nat) (w : World) (hx : IntsAt w p xs) (hn : xs.length = n) (hm : n ≤ maxLen) :
    Calls Tryd.prog 65 #[.slice p n c, .int .i64 y] w fun e w' => IdxTo (xs.any (fun x => x == y)) e ∧ w = w' := by
  unfold maxLen at hm
  have HX := Lib.hid hx
  have HN := Lib.hid hn
  clear hx hn
  go_enter Tryd.func65, Tryd.ntmps65
  go_wp2
  go_loop [8] (fun i => ∃ k : Nat, k ≤ n ∧ i = .int .i64 k ∧ (xs.take k).any (fun x => x == y) = false) (fun i => n - (intOf i).toNat)
  case atStart => exact ⟨0, Nat.zero_le _, rfl, rfl⟩
  case round =>
    obtain ⟨k, hk, rfl, hf⟩ := hrel
    have HF := Lib.hid hf
    clear hf
    by_cases hlt : k < n
    · have hcell : ∃ b off, p = some ⟨b, off, none⟩ ∧ w.cell? ⟨b, off + k, none⟩ = some (.int .i64 (xs.getD k 0)) := by
        rcases HX.out with h | ⟨b, off, hp, hc⟩
        · have := HN.out; rw [h] at this; simp at this; omega
        · exact ⟨b, off, hp, hc k (by rw [HN.out]; exact hlt)⟩
      obtain ⟨b, off, rfl, hc⟩ := hcell
      obtain ⟨x, hx⟩ : ∃ x, xs.getD k 0 = x := ⟨_, rfl⟩
      rw [hx] at hc
      have HXK := Lib.hid hx
      clear hx
      by_cases hb : y = x
      · subst hb
        go_wp2
        go_ret
        exact ⟨⟨k, rfl, by rw [any_take _ 0 xs k (by rw [HN.out]; exact hlt) HF.out (by rw [HXK.out]; simp)]; simp⟩, rfl⟩
      · have hb' : (y == x) = false := by simpa using hb
        have hb2 : (x == y) = false := by simpa using fun h => hb h.symm
        have HB2 := Lib.hid hb2
        clear hb hb2
        go_wp2
        go_round
        case rel => exact ⟨k + 1, by omega, by go_num, any_step _ 0 xs k (by rw [HN.out]; exact hlt) HF.out (by rw [HXK.out]; exact HB2.out)⟩
        case measure => simp [intOf]; omega
    · obtain rfl : k = n := by omega
      go_wp2
      go_ret
      refine ⟨⟨-1, rfl, ?_⟩, rfl⟩
      have := HF.out
      rw [List.take_of_length_le (by rw [HN.out]; exact Nat.le_refl _)] at this
      rw [this]; rfl
theorem ints_has (y : Int) (p : Option Addr) (xs : List Int) (n c : Nat) (w : World) (hx : IntsAt w p xs) (hn : xs.length = n) (hm : n ≤ maxLen) :
    Calls Tryd.prog 45 #[.slice p n c, .int .i64 y] w fun e w' => e = .returned (.bool (xs.any (fun x => x == y))) ∧ w = w' := by
  have HI := Lib.hid (ints_find y p xs n c w hx hn hm)
  clear hx hn hm
  go_enter Tryd.func45, Tryd.ntmps45
  go_wp2_with fail
  refine HI.out.mono ?_; rintro e w1 ⟨⟨i, rfl, hi'⟩, rfl⟩
  have HD := Lib.hid hi'
  clear hi'
  go_wp2_with fail
  go_ret
  exact ⟨ret_bool HD.out, rfl⟩
def segHas (y : Int) (s : Seg) : Bool := s.nums.any (fun x => x == y)
theorem seg_has (h : Nat) (y : Int) (s : Seg) (q : Option Addr) (m c : Nat) (w : World) (hf : w.cell? ⟨h, 0, none⟩ = some (.int .i64 y)) (hq : IntsAt w q s.nums) (hm : s.nums.length = m) (hc : m ≤ c) (hcm : c ≤ maxLen) :
    Calls Tryd.prog 44 #[.agg #[.bool s.set, .slice q m c], .pointer (some ⟨h, 0, none⟩)] w fun e w' => e = .returned (.bool (segHas y s)) ∧ Below w.heap.size w w' := by
  have HB := Lib.hid (new_below w (.cells #[.bool s.set, .slice q m c] 42))
  have c0 := kept HB.out hf
  have HC := Lib.hid (ints_has y q s.nums m c _ (hq.below HB.out) hm (by omega))
  obtain ⟨set, nums⟩ := s
  simp only at *
  clear hf hq hm
  go_enter Tryd.func44, Tryd.ntmps44
  go_wp2_with fail
  refine HC.out.mono ?_; rintro e w1 ⟨rfl, rfl⟩
  go_wp2_with fail
  go_ret
  exact ⟨rfl, HB.out⟩
def CellAt (w : World) (h : Nat) (y : Int) : Prop := w.cell? ⟨h, 0, none⟩ = some (.int .i64 y)
theorem CellAt.below {w w' : World} {h : Nat} {y : Int} (k : CellAt w h y) (hb : Below w.heap.size w w') : CellAt w' h y := kept hb k

theorem has_index (h : Nat) (y : Int) (p : Option Addr) (l : List Seg) (n c : Nat) (w : World) (hx : SegsAt w p l) (hn : l.length = n) (hm : n ≤ maxLen) (hk0 : CellAt w h y) :
    Calls Tryd.prog 64 #[.slice p n c, .func (.func 44) #[] #[.pointer (some ⟨h, 0, none⟩)]] w fun e w' => IdxTo (l.any (segHas y)) e ∧ Below w.heap.size w w' := by
  unfold maxLen at hm
  have HX := Lib.hid hx
  have HN := Lib.hid hn
  have HK := Lib.hid hk0
  clear hx hn hk0
  go_enter Tryd.func64, Tryd.ntmps64
  go_wp2
  go_loopw [8] (fun i wr => ∃ k : Nat, k ≤ n ∧ i = .int .i64 k ∧ (l.take k).any (segHas y) = false ∧ Below w.heap.size w wr) (fun i _ => n - (intOf i).toNat)
  case atStart => exact ⟨0, Nat.zero_le _, rfl, rfl, Below.refl _ _⟩
  case round =>
    obtain ⟨k, hk, rfl, hf, hbl⟩ := hrel
    have HF := Lib.hid hf
    have HBL := Lib.hid hbl
    clear hf hbl
    by_cases hlt : k < n
    · have hcell : ∃ b off, p = some ⟨b, off, none⟩ ∧ SegAt wr b (off + k * 2) (l.getD k Seg.none) := by
        rcases HX.out.below HBL.out with h | ⟨b, off, hp, hc⟩
        · have := HN.out; rw [h] at this; simp at this; omega
        · exact ⟨b, off, hp, hc k (by rw [HN.out]; exact hlt)⟩
      obtain ⟨b, off, rfl, hc⟩ := hcell
      obtain ⟨s, hs⟩ : ∃ s, l.getD k Seg.none = s := ⟨_, rfl⟩
      rw [hs] at hc
      have HSK := Lib.hid hs
      clear hs
      obtain ⟨c0, q, m, cq, c1, hm1, hm2, hm3, hq⟩ := hc
      have HC := Lib.hid (seg_has h y s q m cq wr (HK.out.below HBL.out) hq hm1 hm2 hm3)
      have HM1 := Lib.hid hm1
      clear hm1 hm2 hm3 hq
      rcases hb : segHas y s with _ | _
      · rw [hb] at HC
        go_wp2_with (go_at_call 44; refine HC.out.mono ?_; rintro e w2 ⟨rfl, hb2⟩)
        go_roundw
        case rel => exact ⟨k + 1, by omega, by go_num, any_step _ Seg.none l k (by rw [HN.out]; exact hlt) HF.out (by rw [HSK.out]; exact hb), HBL.out.trans (hb2.mono HBL.out.size)⟩
        case measure => simp [intOf]; omega
      · rw [hb] at HC
        go_wp2_with (go_at_call 44; refine HC.out.mono ?_; rintro e w2 ⟨rfl, hb2⟩)
        go_ret
        exact ⟨⟨k, rfl, by rw [any_take _ Seg.none l k (by rw [HN.out]; exact hlt) HF.out (by rw [HSK.out]; exact hb)]; simp⟩, HBL.out.trans (hb2.mono HBL.out.size)⟩
    · obtain rfl : k = n := by omega
      go_wp2
      go_ret
      refine ⟨⟨-1, rfl, ?_⟩, HBL.out⟩
      have := HF.out
      rw [List.take_of_length_le (by rw [HN.out]; exact Nat.le_refl _)] at this
      rw [this]; rfl
theorem has_contains (h : Nat) (y : Int) (p : Option Addr) (l : List Seg) (n c : Nat) (w : World) (hx : SegsAt w p l) (hn : l.length = n) (hm : n ≤ maxLen) (hk0 : CellAt w h y) :
    Calls Tryd.prog 43 #[.slice p n c, .func (.func 44) #[] #[.pointer (some ⟨h, 0, none⟩)]] w fun e w' => e = .returned (.bool (l.any (segHas y))) ∧ Below w.heap.size w w' := by
  have HI := Lib.hid (has_index h y p l n c w hx hn hm hk0)
  clear hx hn hk0 hm
  go_enter Tryd.func43, Tryd.ntmps43
  go_wp2_with fail
  refine HI.out.mono ?_; rintro e w1 ⟨⟨i, rfl, hi'⟩, hb⟩
  have HD := Lib.hid hi'
  have HB := Lib.hid hb
  clear hi' hb
  go_wp2_with fail
  go_ret
  exact ⟨ret_bool HD.out, HB.out⟩

def hasA (a : At) (y : Int) : Bool := a.path.any (segHas y)
theorem hasA_any (a : At) (l : Loc) (y : Int) (w : World) (ha : AtAt w a l) :
    Calls Tryd.prog 17 #[.agg (atL a l).toArray, .int .i64 y] w fun e w' => e = .returned (.bool (hasA a y)) ∧ Below w.heap.size w w' := by
  have h2 := two_below w (.cells (atL a l).toArray 26) (.cells #[.int .i64 y] 3)
  have hc : CellAt ((w.alloc (.cells (atL a l).toArray 26)).alloc (.cells #[.int .i64 y] 3)) (w.heap.size + 1) y := by
    have := (Blk.new (w.alloc (.cells (atL a l).toArray 26)) 3 [.int .i64 y]).cell 0 (by simp)
    rw [sz_alloc] at this
    exact this
  have HC := Lib.hid (has_contains (w.heap.size + 1) y l.pp a.path l.pn l.pc _ (ha.path.below h2) ha.pn (Nat.le_trans ha.pc ha.pm) hc)
  have HB := Lib.hid h2
  obtain ⟨origin, path, next, med, pref, comms⟩ := a
  obtain ⟨pp, pn, pc, cp, cn, cc⟩ := l
  simp only [atL] at *
  clear ha h2 hc
  go_enter Tryd.func17, Tryd.ntmps17
  go_wp2_with fail
  refine HC.out.mono ?_; rintro e w1 ⟨rfl, hb⟩
  have HB1 := Lib.hid (HB.out.trans (hb.mono HB.out.size))
  clear hb
  go_wp2_with fail
  go_ret
  exact ⟨rfl, HB1.out⟩

/-! Equal lists. -/
theorem take_eq_step {α : Type} (d : α) (xs ys : List α) (k : Nat) (hx : k < xs.length) (hy : k < ys.length) (h : xs.take k = ys.take k) (he : xs.getD k d = ys.getD k d) : xs.take (k + 1) = ys.take (k + 1) := by
  rw [List.take_succ_eq_append_getElem hx, List.take_succ_eq_append_getElem hy, h]
  simp [List.getD, List.getElem?_eq_getElem hx, List.getElem?_eq_getElem hy] at he
  rw [he]
theorem ints_equal (p q : Option Addr) (xs ys : List Int) (n m c d : Nat) (w : World) (hx : IntsAt w p xs) (hy : IntsAt w q ys) (hn : xs.length = n) (hm : ys.length = m) (hn2 : n ≤ maxLen) :
    Calls Tryd.prog 47 #[.slice p n c, .slice q m d] w fun e w' => e = .returned (.bool (xs == ys)) ∧ Below w.heap.size w w' := by
  unfold maxLen at hn2
  by_cases hnm : n = m
  · subst hnm
    have HX := Lib.hid hx
    have HY := Lib.hid hy
    have HN := Lib.hid hn
    have HM := Lib.hid hm
    have t1 : ((n : Int) != (n : Int)) = false := by simp
    clear hx hy hn hm
    go_enter Tryd.func47, Tryd.ntmps47
    go_wp2
    clear t1
    go_loopw [13] (fun i wr => ∃ k : Nat, k ≤ n ∧ i = .int .i64 k ∧ xs.take k = ys.take k ∧ Below w.heap.size w wr) (fun i _ => n - (intOf i).toNat)
    case atStart => exact ⟨0, Nat.zero_le _, rfl, rfl, Below.refl _ _⟩
    case round =>
      obtain ⟨k, hk, rfl, hf, hbl⟩ := hrel
      have HF := Lib.hid hf
      have HBL := Lib.hid hbl
      clear hf hbl
      by_cases hlt : k < n
      · have hcell : ∃ b off, p = some ⟨b, off, none⟩ ∧ wr.cell? ⟨b, off + k, none⟩ = some (.int .i64 (xs.getD k 0)) := by
          rcases HX.out.below HBL.out with h | ⟨b, off, hp, hc⟩
          · have := HN.out; rw [h] at this; simp at this; omega
          · exact ⟨b, off, hp, hc k (by rw [HN.out]; exact hlt)⟩
        have hcell2 : ∃ b off, q = some ⟨b, off, none⟩ ∧ wr.cell? ⟨b, off + k, none⟩ = some (.int .i64 (ys.getD k 0)) := by
          rcases HY.out.below HBL.out with h | ⟨b, off, hp, hc⟩
          · have := HM.out; rw [h] at this; simp at this; omega
          · exact ⟨b, off, hp, hc k (by rw [HM.out]; exact hlt)⟩
        obtain ⟨b, off, rfl, hc⟩ := hcell
        obtain ⟨b2, off2, rfl, hc2⟩ := hcell2
        obtain ⟨x, hx⟩ : ∃ x, xs.getD k 0 = x := ⟨_, rfl⟩
        obtain ⟨y, hy⟩ : ∃ y, ys.getD k 0 = y := ⟨_, rfl⟩
        rw [hx] at hc
        rw [hy] at hc2
        have HXK := Lib.hid hx
        have HYK := Lib.hid hy
        clear hx hy
        by_cases he : x = y
        · subst he
          have t2 : (x != x) = false := by simp
          go_wp2_with fail
          go_quiet (fail)
          go_wp2_with fail
          go_roundw
          case rel => exact ⟨k + 1, by omega, by go_num, take_eq_step 0 xs ys k (by rw [HN.out]; exact hlt) (by rw [HM.out]; exact hlt) HF.out (by rw [HXK.out, HYK.out]), HBL.out.trans (below_drewN _ _ _)⟩
          case measure => simp [intOf]; omega
        · have t2 : (x != y) = true := by simpa using he
          have HE := Lib.hid (show (xs == ys) = false from by
            rw [beq_eq_false_iff_ne]
            intro h
            exact he (by rw [← HXK.out, ← HYK.out, h]))
          clear he
          go_wp2_with fail
          go_quiet (fail)
          go_wp2_with fail
          go_ret
          exact ⟨by rw [HE.out]; rfl, HBL.out.trans (below_drewN _ _ _)⟩
      · obtain rfl : k = n := by omega
        have HE := Lib.hid (show (xs == ys) = true from by
          have h := HF.out
          rw [List.take_of_length_le (by rw [HN.out]; exact Nat.le_refl _), List.take_of_length_le (by rw [HM.out]; exact Nat.le_refl _)] at h
          rw [h]; simp)
        go_wp2
        go_ret
        exact ⟨by rw [HE.out]; rfl, HBL.out⟩
  · have HE := Lib.hid (show (xs == ys) = false from by
      rw [beq_eq_false_iff_ne]
      intro h
      exact hnm (by rw [← hn, ← hm, h]))
    have t1 : ((n : Int) != (m : Int)) = true := by rw [bne_iff_ne]; omega
    clear hx hy hn hm hnm
    go_enter Tryd.func47, Tryd.ntmps47
    go_wp2
    go_ret
    exact ⟨by rw [HE.out]; rfl, Below.refl _ _⟩
end Go.Proofs.YtcabiodgmhcdlaaDoor
