/- The document's own reader. -/
import Derived.Test.YtcabiodgmhcdlaaDoorAH
import Derived.Test.YtcabiodgmhcdlaaDoorKH
namespace Go.Proofs.YtcabiodgmhcdlaaDoor
open Go.RowKit

/-- The document's reader: its bytes that are left, and whether it is bad. -/
def RSt (w : World) (g : Nat) (xs : List Int) (bad : Bool) : Prop := ∃ p cap, Blk w g 69 [.slice p xs.length cap, .bool bad] ∧ BytesAt w p xs ∧ xs.length ≤ cap ∧ cap ≤ maxLen ∧ (∀ b, p.map (·.block) = some b → b < g)
theorem bytes_far {w w' : World} {p : Option Addr} {xs : List Int} {row : Option Nat} (h : BytesAt w p xs) (hg : w.grownBy w' row) (hne : ∀ b, p.map (·.block) = some b → some b ≠ row) : BytesAt w' p xs := by
  obtain ⟨hx, h⟩ := h
  refine ⟨hx, ?_⟩
  rcases h with h | ⟨b, off, rfl, hc⟩
  · exact .inl h
  · exact .inr ⟨b, off, rfl, fun i hi => hg.cell (hc i hi) (hne b rfl)⟩

theorem rleft_any (w : World) (g : Nat) (xs : List Int) (bad : Bool) (h : RSt w g xs bad) :
    Calls Tryd.prog 38 #[.pointer (some ⟨g, 0, none⟩)] w fun e w' => e = .returned (.int .i64 (if bad then 0 else xs.length)) ∧ w = w' := by
  obtain ⟨p, cap, hb, _, _, _, _⟩ := h
  have c0 := hb.cell 0 (by simp)
  have c1 := hb.cell 1 (by simp)
  clear hb
  generalize xs.length = n at *
  cases bad
  · go_enter Tryd.func38, Tryd.ntmps38
    go_wp2
    go_ret
    exact ⟨rfl, rfl⟩
  · go_enter Tryd.func38, Tryd.ntmps38
    go_wp2
    go_ret
    exact ⟨rfl, rfl⟩

theorem rst_bad {w : World} {g : Nat} {xs : List Int} {bad : Bool} (h : RSt w g xs bad) : RSt (w.setCell ⟨g, 1, none⟩ (.bool true)) g xs true := by
  obtain ⟨p, cap, hb, hy, hl, hm, hne⟩ := h
  exact ⟨p, cap, hb.set 1 _, bytes_far hy (gb_set w ⟨g, 1, none⟩ (.bool true)) (fun b hb' e => by have := hne b hb'; have : b = g := Option.some.inj e; omega), hl, hm, hne⟩

theorem rbytes_no (w : World) (g : Nat) (xs : List Int) (bad : Bool) (n : Int) (h : RSt w g xs bad) (hn : bad = true ∨ n < 0 ∨ (xs.length : Int) < n) :
    Calls Tryd.prog 40 #[.pointer (some ⟨g, 0, none⟩), .int .i64 n] w fun e w' => e = .returned (.slice none 0 0) ∧ RSt w' g xs true ∧ w.grownBy w' (some g) := by
  have HB := Lib.hid (rst_bad h)
  obtain ⟨p, cap, hb, _, _, _, _⟩ := h
  have c0 := hb.cell 0 (by simp)
  have c1 := hb.cell 1 (by simp)
  have f1 := hb.f 1
  clear hb
  generalize xs.length = L at *
  cases bad
  · rcases hn with h | h | h
    · cases h
    · go_enter Tryd.func40, Tryd.ntmps40
      go_wp2
      go_ret
      exact ⟨rfl, HB.out, gb_set w ⟨g, 1, none⟩ (.bool true)⟩
    · have t0 : decide (n < 0) = false := by simp; omega
      have t1 : decide ((L : Int) < n) = true := by simpa using h
      go_enter Tryd.func40, Tryd.ntmps40
      go_wp2
      go_ret
      exact ⟨rfl, HB.out, gb_set w ⟨g, 1, none⟩ (.bool true)⟩
  · clear hn
    go_enter Tryd.func40, Tryd.ntmps40
    go_wp2
    go_ret
    exact ⟨rfl, HB.out, gb_set w ⟨g, 1, none⟩ (.bool true)⟩

set_option maxHeartbeats 1000000 in
theorem rbytes_yes (w : World) (g : Nat) (xs : List Int) (n : Nat) (h : RSt w g xs false) (hn : n ≤ xs.length) (hx : xs.length ≤ 1099511627776) :
    Calls Tryd.prog 40 #[.pointer (some ⟨g, 0, none⟩), .int .i64 n] w fun e w' => (∃ p cap, e = .returned (.slice p n cap) ∧ Own w' w.heap.size p cap (xs.take n)) ∧ RSt w' g (xs.drop n) false ∧ w.grownBy w' (some g) := by
  obtain ⟨p, cap, hb, hy, hl, hm, hne⟩ := h
  have c0' := hb.cell 0 (by simp)
  have c1 := hb.cell 1 (by simp)
  obtain ⟨L, hL⟩ : ∃ L, xs.length = L := ⟨_, rfl⟩
  have c0 : w.cell? ⟨g, 0, none⟩ = some (.slice p L cap) := by rw [← hL]; exact c0'
  have HL := Lib.hid hL
  rw [hL] at hn hl hx
  have E1 := fun w => run_cut_h w p L cap n n rfl (by omega)
  have E2 := fun w => run_cut_l w p L cap n n rfl hn
  have HC := Lib.hid (show BytesAt w (cutP p cap 0) (xs.take n) by
    have := hy.cut cap 0 n (Nat.zero_le _) (by omega) (by omega)
    simpa using this)
  have HD := Lib.hid (hy.cutl cap n (by omega) (by omega))
  have HNE := Lib.hid (show ∀ b, (cutP p cap n).map (·.block) = some b → b < g by rw [cutP_block]; exact hne)
  have HTL := Lib.hid (show (xs.take n).length = n by simp; omega)
  have HDL := Lib.hid (show (xs.drop n).length = L - n by simp; omega)
  obtain ⟨p1, hp1⟩ : ∃ p1, cutP p cap 0 = p1 := ⟨_, rfl⟩
  obtain ⟨p2, hp2⟩ : ∃ p2, cutP p cap n = p2 := ⟨_, rfl⟩
  rw [hp1] at E1 HC
  rw [hp2] at E2 HD HNE
  have HB := Lib.hid hb
  have OL := Lib.hid (Own.lit w w.heap.size [] (fun i hi => by simp at hi) (by simp) (Nat.le_refl _))
  have HCA := Lib.hid (HC.out.alloc (.cells #[] 5))
  have HAL := Lib.hid ((Below.refl w.heap.size w).alloc (Nat.le_refl _) (.cells #[] 5))
  have hglt : g < w.heap.size := hb.lt
  have a0 := kept HAL.out c0
  have t0 : decide ((n : Int) < 0) = false := by simp
  have t1 : decide (L < n) = false := by simp; omega
  have hmx : cap ≤ 9223372036854775807 := by unfold maxLen at hm; omega
  clear hb hy hne c0' hL hp1 hp2
  go_enter Tryd.func40, Tryd.ntmps40
  go_wp2_with (refine wpList_appo (o := ⟨some 33, _, _, _, _, _⟩) (by rfl) (.tmp 26) (.tmp 32) (by rfl) w.heap.size (some ⟨w.heap.size, 0, none⟩) 0 [] OL.out 0 (by rfl) (by rfl) p1 n cap (xs.take n) HCA.out HTL.out (by rfl) n (by omega) (by omega) (by simp) ?_; intro p3 c3 w3 hO3 hB3 hG3; have HW3 := Lib.hid (HAL.out.trans hB3.out); have b0 := kept HW3.out c0; have HB3 := Lib.hid (HB.out.next HW3.out); have g0 := HB3.out.f 0)
  go_ret
  have hB := HW3.out
  refine ⟨⟨p3, c3, rfl, ?_⟩, ⟨p2, cap - n, ?_, ?_, ?_, ?_, HNE.out⟩, ?_⟩
  · have := hO3.out.setBelow (a := ⟨g, 0, none⟩) hglt (.slice p2 (L - n) (cap - n))
    simpa using this
  · rw [HDL.out]
    exact HB3.out.set 0 _
  · exact bytes_far (HD.out.below hB) (gb_set w3 ⟨g, 0, none⟩ (.slice p2 (L - n) (cap - n))) (fun b hb' e => by have := HNE.out b hb'; have : b = g := Option.some.inj e; omega)
  · rw [HDL.out]; omega
  · unfold maxLen at *; omega
  · exact gb_trans (gb_below hB) (gb_set w3 ⟨g, 0, none⟩ (.slice p2 (L - n) (cap - n)))

/-- The document's reader stands as num's does. -/
def RRel (w : World) (g : Nat) (s : Option (List Int)) : Prop := ∃ xs, RSt w g xs s.isNone ∧ ∀ ys, s = some ys → xs = ys
theorem okTake_some (xs : List Int) (n : Int) : okTake (some xs) n = (decide (0 ≤ n) && decide (n ≤ xs.length)) := by
  unfold okTake; rfl
theorem rbytes_any (w : World) (g : Nat) (s : Option (List Int)) (n : Int) (h : RRel w g s) (hx : ∀ xs, s = some xs → xs.length ≤ 1099511627776) :
    Calls Tryd.prog 40 #[.pointer (some ⟨g, 0, none⟩), .int .i64 n] w fun e w' => (∃ p cap, e = .returned (.slice p (outV s n).length cap) ∧ Own w' w.heap.size p cap (outV s n)) ∧ RRel w' g (nextV s n) ∧ w.grownBy w' (some g) := by
  obtain ⟨xs, hs, he⟩ := h
  rcases hk : okTake s n with _ | _
  · have hn : s.isNone = true ∨ n < 0 ∨ (xs.length : Int) < n := by
      rcases s with _ | ys
      · exact .inl rfl
      · right
        obtain rfl := he ys rfl
        rw [okTake_some] at hk
        simp at hk
        by_cases h0 : n < 0
        · exact .inl h0
        · exact .inr (hk (by omega))
    refine (rbytes_no w g xs _ n hs hn).mono fun e w' ⟨h1, h2, h3⟩ => ⟨⟨none, 0, ?_, ?_⟩, ⟨xs, ?_, ?_⟩, h3⟩
    · rw [h1]; simp [outV, hk]
    · simp only [outV, hk]; exact Own.nil _ _
    · simpa [nextV, hk] using h2
    · intro ys hy; simp [nextV, hk] at hy
  · rcases s with _ | ys
    · simp [okTake] at hk
    · obtain rfl := he ys rfl
      have hk2 := hk
      rw [okTake_some] at hk2
      simp at hk2
      obtain ⟨N, rfl⟩ := Int.eq_ofNat_of_zero_le hk2.1
      have hN : N ≤ xs.length := by omega
      have ho : outV (some xs) (N : Int) = xs.take N := by simp [outV, hk]
      have hnx : nextV (some xs) (N : Int) = some (xs.drop N) := by simp [nextV, hk]
      rw [ho, hnx]
      refine (rbytes_yes w g xs N hs hN (hx xs rfl)).mono fun e w' ⟨⟨p, cap, h1, h1'⟩, h2, h3⟩ => ⟨⟨p, cap, ?_, h1'⟩, ⟨xs.drop N, h2, fun ys hy => by simpa using hy⟩, h3⟩
      rw [h1]; simp; omega
theorem rnum_any (w : World) (g : Nat) (s : Option (List Int)) (wide : Int) (h : RRel w g s) (hx : ∀ xs, s = some xs → xs.length ≤ 1099511627776) :
    Calls Tryd.prog 39 #[.pointer (some ⟨g, 0, none⟩), .int .i64 wide] w fun e w' => e = .returned (.int .i64 (numV s wide)) ∧ RRel w' g (numNext s wide) ∧ w.grownBy w' (some g) := by
  rcases hw : wideB wide with _ | _
  · obtain ⟨xs, hs, he⟩ := h
    have HB := Lib.hid (rst_bad hs)
    obtain ⟨p, cap, hb, _, _, _, _⟩ := hs
    have c1 := hb.cell 1 (by simp)
    have f1 := hb.f 1
    have hv : numV s wide = 0 := by simp [numV, hw]
    have hn : numNext s wide = none := by simp [numNext, hw]
    rw [hv, hn]
    have hww := wideB_no hw
    clear hb hw hv hn he
    rcases hww with h | h
    · go_enter Tryd.func39, Tryd.ntmps39
      go_wp2
      go_ret
      exact ⟨rfl, ⟨xs, HB.out, fun ys hy => by cases hy⟩, gb_set w ⟨g, 1, none⟩ (.bool true)⟩
    · have t0 : decide (wide < 1) = false := by simp; omega
      go_enter Tryd.func39, Tryd.ntmps39
      go_wp2
      go_ret
      exact ⟨rfl, ⟨xs, HB.out, fun ys hy => by cases hy⟩, gb_set w ⟨g, 1, none⟩ (.bool true)⟩
  · have ⟨w1, w4⟩ := wideB_yes hw
    have hol : (outV s wide).length ≤ 4 := by
      rcases hk : okTake s wide with _ | _
      · simp [outV, hk]
      · have := outV_len hk; omega
    have hv : numV s wide = getV (outV s wide) := by
      unfold numV
      rw [hw]
      rcases hk : okTake s wide with _ | _
      · simp [outV, hk, getV]
      · simp
    have hn : numNext s wide = nextV s wide := by simp [numNext, hw]
    rw [hv, hn]
    have HB := Lib.hid (rbytes_any w g s wide h hx)
    obtain ⟨O, hO⟩ : ∃ O, outV s wide = O := ⟨_, rfl⟩
    obtain ⟨X, hX⟩ : ∃ X, nextV s wide = X := ⟨_, rfl⟩
    rw [hO] at hol HB ⊢
    rw [hX] at HB ⊢
    clear hw hv hn hO hX h hx
    go_enter Tryd.func39, Tryd.ntmps39
    go_wp2_with fail
    refine HB.out.mono ?_; rintro e w2 ⟨⟨p, cap, rfl, hy⟩, hr, hg⟩
    have HR := Lib.hid hr
    have HG := Lib.hid hg
    have HGET := Lib.hid (rget_any p O cap w2 hol hy.bytes)
    clear hr hg hy
    go_wp2_with fail
    refine HGET.out.mono ?_; rintro e w' ⟨rfl, rfl⟩
    go_wp2_with fail
    go_ret
    exact ⟨rfl, HR.out, HG.out⟩
theorem RRel.lt {w : World} {g : Nat} {s : Option (List Int)} (h : RRel w g s) : g < w.heap.size := by
  obtain ⟨xs, ⟨p, cap, hb, _⟩, _⟩ := h
  exact hb.lt
theorem RRel.below {w w' : World} {g : Nat} {s : Option (List Int)} (h : RRel w g s) (hb : Below w.heap.size w w') : RRel w' g s := by
  obtain ⟨xs, ⟨p, cap, hrow, hy, hl, hm, hne'⟩, he⟩ := h
  exact ⟨xs, ⟨p, cap, hrow.next hb, hy.below hb, hl, hm, hne'⟩, he⟩
theorem RRel.above {w w' : World} {g : Nat} {s : Option (List Int)} {row : Option Nat} (h : RRel w g s) (hg : w.grownBy w' row) (hr : ∀ r, row = some r → g < r) : RRel w' g s := by
  have hlt := h.lt
  obtain ⟨xs, ⟨p, cap, hrow, hy, hl, hm, hne'⟩, he⟩ := h
  refine ⟨xs, ⟨p, cap, hrow.of_same (hg.block g hlt (fun e => by have := hr g e.symm; omega)), bytes_far hy hg (fun b hb e => ?_), hl, hm, hne'⟩, he⟩
  have := hne' b hb
  have := hr b e.symm
  omega
end Go.Proofs.YtcabiodgmhcdlaaDoor
