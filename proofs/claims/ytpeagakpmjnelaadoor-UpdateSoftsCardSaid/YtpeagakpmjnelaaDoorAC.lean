/- attr: Has, Same, and what they call. -/
import Derived.Test.YtpeagakpmjnelaaDoorA2
namespace Go.Proofs.YtpeagakpmjnelaaDoor.Ax
open Go.RowKit
set_option maxRecDepth 100000

theorem below_drewN (B : Nat) (w : World) (n : Nat) : Below B w (w.drewN n) := ⟨rfl, rfl, rfl, Nat.le_refl _, fun _ _ => rfl⟩
def segHas (y : Int) (s : Seg) : Bool := s.nums.any (fun x => x == y)
def CellAt (w : World) (h : Nat) (y : Int) : Prop := w.cell? ⟨h, 0, none⟩ = some (.int .i64 y)
theorem CellAt.below {w w' : World} {h : Nat} {y : Int} (k : CellAt w h y) (hb : Below w.heap.size w w') : CellAt w' h y := kept hb k

def hasA (a : At) (y : Int) : Bool := a.path.any (segHas y)
/-! Equal lists. -/
theorem take_eq_step {α : Type} (d : α) (xs ys : List α) (k : Nat) (hx : k < xs.length) (hy : k < ys.length) (h : xs.take k = ys.take k) (he : xs.getD k d = ys.getD k d) : xs.take (k + 1) = ys.take (k + 1) := by
  rw [List.take_succ_eq_append_getElem hx, List.take_succ_eq_append_getElem hy, h]
  simp [List.getD, List.getElem?_eq_getElem hx, List.getElem?_eq_getElem hy] at he
  rw [he]
theorem ints_equal (p q : Option Addr) (xs ys : List Int) (n m c d : Nat) (w : World) (hx : IntsAt w p xs) (hy : IntsAt w q ys) (hn : xs.length = n) (hm : ys.length = m) (hn2 : n ≤ maxLen) :
    Calls Tryd.prog 75 #[.slice p n c, .slice q m d] w fun e w' => e = .returned (.bool (xs == ys)) ∧ Below w.heap.size w w' := by
  unfold maxLen at hn2
  by_cases hnm : n = m
  · subst hnm
    have HX := Lib.hid hx
    have HY := Lib.hid hy
    have HN := Lib.hid hn
    have HM := Lib.hid hm
    have t1 : ((n : Int) != (n : Int)) = false := by simp
    clear hx hy hn hm
    go_enter Tryd.func75, Tryd.ntmps75
    go_wp2
    clear t1
    go_loopw [13] (fun i wr => ∃ k : Nat, k ≤ n ∧ i = .int .i64 k ∧ xs.take k = ys.take k ∧ Below w.heap.size w wr) (fun i _ => n - (intOf i).toNat)
    case atStart => exact ⟨0, Nat.zero_le _, rfl, rfl, Below.refl _ _⟩
    case round =>
      obtain ⟨k, hk, rfl, hf, hbl⟩ := hrel
      have HF := Lib.hid hf
      have HBL := Lib.hid hbl
      clear hf hbl
      by_cases hlt : k < n
      · have hcell : ∃ b off, p = some ⟨b, off, none⟩ ∧ wr.cell? ⟨b, off + k, none⟩ = some (.int .i64 (xs.getD k 0)) := by
          rcases HX.out.below HBL.out with h | ⟨b, off, hp, hc⟩
          · have := HN.out; rw [h] at this; simp at this; omega
          · exact ⟨b, off, hp, hc k (by rw [HN.out]; exact hlt)⟩
        have hcell2 : ∃ b off, q = some ⟨b, off, none⟩ ∧ wr.cell? ⟨b, off + k, none⟩ = some (.int .i64 (ys.getD k 0)) := by
          rcases HY.out.below HBL.out with h | ⟨b, off, hp, hc⟩
          · have := HM.out; rw [h] at this; simp at this; omega
          · exact ⟨b, off, hp, hc k (by rw [HM.out]; exact hlt)⟩
        obtain ⟨b, off, rfl, hc⟩ := hcell
        obtain ⟨b2, off2, rfl, hc2⟩ := hcell2
        obtain ⟨x, hx⟩ : ∃ x, xs.getD k 0 = x := ⟨_, rfl⟩
        obtain ⟨y, hy⟩ : ∃ y, ys.getD k 0 = y := ⟨_, rfl⟩
        rw [hx] at hc
        rw [hy] at hc2
        have HXK := Lib.hid hx
        have HYK := Lib.hid hy
        clear hx hy
        by_cases he : x = y
        · subst he
          have t2 : (x != x) = false := by simp
          go_wp2_with fail
          go_quiet (fail)
          go_wp2_with fail
          go_roundw
          case rel => exact ⟨k + 1, by omega, by go_num, take_eq_step 0 xs ys k (by rw [HN.out]; exact hlt) (by rw [HM.out]; exact hlt) HF.out (by rw [HXK.out, HYK.out]), HBL.out.trans (below_drewN _ _ _)⟩
          case measure => simp [intOf]; omega
        · have t2 : (x != y) = true := by simpa using he
          have HE := Lib.hid (show (xs == ys) = false from by
            rw [beq_eq_false_iff_ne]
            intro h
            exact he (by rw [← HXK.out, ← HYK.out, h]))
          clear he
          go_wp2_with fail
          go_quiet (fail)
          go_wp2_with fail
          go_ret
          exact ⟨by rw [HE.out]; rfl, HBL.out.trans (below_drewN _ _ _)⟩
      · obtain rfl : k = n := by omega
        have HE := Lib.hid (show (xs == ys) = true from by
          have h := HF.out
          rw [List.take_of_length_le (by rw [HN.out]; exact Nat.le_refl _), List.take_of_length_le (by rw [HM.out]; exact Nat.le_refl _)] at h
          rw [h]; simp)
        go_wp2
        go_ret
        exact ⟨by rw [HE.out]; rfl, HBL.out⟩
  · have HE := Lib.hid (show (xs == ys) = false from by
      rw [beq_eq_false_iff_ne]
      intro h
      exact hnm (by rw [← hn, ← hm, h]))
    have t1 : ((n : Int) != (m : Int)) = true := by rw [bne_iff_ne]; omega
    clear hx hy hn hm hnm
    go_enter Tryd.func75, Tryd.ntmps75
    go_wp2
    go_ret
    exact ⟨by rw [HE.out]; rfl, Below.refl _ _⟩
end Go.Proofs.YtpeagakpmjnelaaDoor.Ax
