/- The document's own reader. / The document's flags of a type, and its communities. / The document's communities. / The document's path, in numbers: the same segments. -/
import Derived.Test.YtpeagakpmjnelaaDoorAH
import Derived.Test.YtpeagakpmjnelaaDoorByA
import Derived.Test.YtpeagakpmjnelaaDoorAB
namespace Go.Proofs.YtpeagakpmjnelaaDoor.Ax
open Go.RowKit
set_option maxRecDepth 100000

/-- The document's reader: its bytes that are left, and whether it is bad. -/
def RSt (w : World) (g : Nat) (xs : List Int) (bad : Bool) : Prop := ∃ p cap, Blk w g 83 [.slice p xs.length cap, .bool bad] ∧ BytesAt w p xs ∧ xs.length ≤ cap ∧ cap ≤ maxLen ∧ (∀ b, p.map (·.block) = some b → b < g)
theorem bytes_far {w w' : World} {p : Option Addr} {xs : List Int} {row : Option Nat} (h : BytesAt w p xs) (hg : w.grownBy w' row) (hne : ∀ b, p.map (·.block) = some b → some b ≠ row) : BytesAt w' p xs := by
  obtain ⟨hx, h⟩ := h
  refine ⟨hx, ?_⟩
  rcases h with h | ⟨b, off, rfl, hc⟩
  · exact .inl h
  · exact .inr ⟨b, off, rfl, fun i hi => hg.cell (hc i hi) (hne b rfl)⟩

theorem rleft_any (w : World) (g : Nat) (xs : List Int) (bad : Bool) (h : RSt w g xs bad) :
    Calls Tryd.prog 39 #[.pointer (some ⟨g, 0, none⟩)] w fun e w' => e = .returned (.int .i64 (if bad then 0 else xs.length)) ∧ w = w' := by
  obtain ⟨p, cap, hb, _, _, _, _⟩ := h
  have c0 := hb.cell 0 (by simp)
  have c1 := hb.cell 1 (by simp)
  clear hb
  generalize xs.length = n at *
  cases bad
  · go_enter Tryd.func39, Tryd.ntmps39
    go_wp2
    go_ret
    exact ⟨rfl, rfl⟩
  · go_enter Tryd.func39, Tryd.ntmps39
    go_wp2
    go_ret
    exact ⟨rfl, rfl⟩

theorem rst_bad {w : World} {g : Nat} {xs : List Int} {bad : Bool} (h : RSt w g xs bad) : RSt (w.setCell ⟨g, 1, none⟩ (.bool true)) g xs true := by
  obtain ⟨p, cap, hb, hy, hl, hm, hne⟩ := h
  exact ⟨p, cap, hb.set 1 _, bytes_far hy (gb_set w ⟨g, 1, none⟩ (.bool true)) (fun b hb' e => by have := hne b hb'; have : b = g := Option.some.inj e; omega), hl, hm, hne⟩

theorem rbytes_no (w : World) (g : Nat) (xs : List Int) (bad : Bool) (n : Int) (h : RSt w g xs bad) (hn : bad = true ∨ n < 0 ∨ (xs.length : Int) < n) :
    Calls Tryd.prog 41 #[.pointer (some ⟨g, 0, none⟩), .int .i64 n] w fun e w' => e = .returned (.slice none 0 0) ∧ RSt w' g xs true ∧ w.grownBy w' (some g) := by
  have HB := Lib.hid (rst_bad h)
  obtain ⟨p, cap, hb, _, _, _, _⟩ := h
  have c0 := hb.cell 0 (by simp)
  have c1 := hb.cell 1 (by simp)
  have f1 := hb.f 1
  clear hb
  generalize xs.length = L at *
  cases bad
  · rcases hn with h | h | h
    · cases h
    · go_enter Tryd.func41, Tryd.ntmps41
      go_wp2
      go_ret
      exact ⟨rfl, HB.out, gb_set w ⟨g, 1, none⟩ (.bool true)⟩
    · have t0 : decide (n < 0) = false := by simp; omega
      have t1 : decide ((L : Int) < n) = true := by simpa using h
      go_enter Tryd.func41, Tryd.ntmps41
      go_wp2
      go_ret
      exact ⟨rfl, HB.out, gb_set w ⟨g, 1, none⟩ (.bool true)⟩
  · clear hn
    go_enter Tryd.func41, Tryd.ntmps41
    go_wp2
    go_ret
    exact ⟨rfl, HB.out, gb_set w ⟨g, 1, none⟩ (.bool true)⟩

set_option maxHeartbeats 1000000 in
theorem rbytes_yes (w : World) (g : Nat) (xs : List Int) (n : Nat) (h : RSt w g xs false) (hn : n ≤ xs.length) (hx : xs.length ≤ 1099511627776) :
    Calls Tryd.prog 41 #[.pointer (some ⟨g, 0, none⟩), .int .i64 n] w fun e w' => (∃ p cap, e = .returned (.slice p n cap) ∧ Own w' w.heap.size p cap (xs.take n)) ∧ RSt w' g (xs.drop n) false ∧ w.grownBy w' (some g) := by
  obtain ⟨p, cap, hb, hy, hl, hm, hne⟩ := h
  have c0' := hb.cell 0 (by simp)
  have c1 := hb.cell 1 (by simp)
  obtain ⟨L, hL⟩ : ∃ L, xs.length = L := ⟨_, rfl⟩
  have c0 : w.cell? ⟨g, 0, none⟩ = some (.slice p L cap) := by rw [← hL]; exact c0'
  have HL := Lib.hid hL
  rw [hL] at hn hl hx
  have E1 := fun w => run_cut_h w p L cap n n rfl (by omega)
  have E2 := fun w => run_cut_l w p L cap n n rfl hn
  have HC := Lib.hid (show BytesAt w (cutP p cap 0) (xs.take n) by
    have := hy.cut cap 0 n (Nat.zero_le _) (by omega) (by omega)
    simpa using this)
  have HD := Lib.hid (hy.cutl cap n (by omega) (by omega))
  have HNE := Lib.hid (show ∀ b, (cutP p cap n).map (·.block) = some b → b < g by rw [cutP_block]; exact hne)
  have HTL := Lib.hid (show (xs.take n).length = n by simp; omega)
  have HDL := Lib.hid (show (xs.drop n).length = L - n by simp; omega)
  obtain ⟨p1, hp1⟩ : ∃ p1, cutP p cap 0 = p1 := ⟨_, rfl⟩
  obtain ⟨p2, hp2⟩ : ∃ p2, cutP p cap n = p2 := ⟨_, rfl⟩
  rw [hp1] at E1 HC
  rw [hp2] at E2 HD HNE
  have HB := Lib.hid hb
  have OL := Lib.hid (Own.lit w w.heap.size [] (fun i hi => by simp at hi) (by simp) (Nat.le_refl _))
  have HCA := Lib.hid (HC.out.alloc (.cells #[] 5))
  have HAL := Lib.hid ((Below.refl w.heap.size w).alloc (Nat.le_refl _) (.cells #[] 5))
  have hglt : g < w.heap.size := hb.lt
  have a0 := kept HAL.out c0
  have t0 : decide ((n : Int) < 0) = false := by simp
  have t1 : decide (L < n) = false := by simp; omega
  have hmx : cap ≤ 9223372036854775807 := by unfold maxLen at hm; omega
  clear hb hy hne c0' hL hp1 hp2
  go_enter Tryd.func41, Tryd.ntmps41
  go_wp2_with (refine wpList_appo (o := ⟨some 33, _, _, _, _, _⟩) (by rfl) (.tmp 26) (.tmp 32) (by rfl) w.heap.size (some ⟨w.heap.size, 0, none⟩) 0 [] OL.out 0 (by rfl) (by rfl) p1 n cap (xs.take n) HCA.out HTL.out (by rfl) n (by omega) (by omega) (by simp) ?_; intro p3 c3 w3 hO3 hB3 hG3; have HW3 := Lib.hid (HAL.out.trans hB3.out); have b0 := kept HW3.out c0; have HB3 := Lib.hid (HB.out.next HW3.out); have g0 := HB3.out.f 0)
  go_ret
  have hB := HW3.out
  refine ⟨⟨p3, c3, rfl, ?_⟩, ⟨p2, cap - n, ?_, ?_, ?_, ?_, HNE.out⟩, ?_⟩
  · have := hO3.out.setBelow (a := ⟨g, 0, none⟩) hglt (.slice p2 (L - n) (cap - n))
    simpa using this
  · rw [HDL.out]
    exact HB3.out.set 0 _
  · exact bytes_far (HD.out.below hB) (gb_set w3 ⟨g, 0, none⟩ (.slice p2 (L - n) (cap - n))) (fun b hb' e => by have := HNE.out b hb'; have : b = g := Option.some.inj e; omega)
  · rw [HDL.out]; omega
  · unfold maxLen at *; omega
  · exact gb_trans (gb_below hB) (gb_set w3 ⟨g, 0, none⟩ (.slice p2 (L - n) (cap - n)))

/-- The document's reader stands as num's does. -/
def RRel (w : World) (g : Nat) (s : Option (List Int)) : Prop := ∃ xs, RSt w g xs s.isNone ∧ ∀ ys, s = some ys → xs = ys
theorem okTake_some (xs : List Int) (n : Int) : okTake (some xs) n = (decide (0 ≤ n) && decide (n ≤ xs.length)) := by
  unfold okTake; rfl
theorem rbytes_any (w : World) (g : Nat) (s : Option (List Int)) (n : Int) (h : RRel w g s) (hx : ∀ xs, s = some xs → xs.length ≤ 1099511627776) :
    Calls Tryd.prog 41 #[.pointer (some ⟨g, 0, none⟩), .int .i64 n] w fun e w' => (∃ p cap, e = .returned (.slice p (outV s n).length cap) ∧ Own w' w.heap.size p cap (outV s n)) ∧ RRel w' g (nextV s n) ∧ w.grownBy w' (some g) := by
  obtain ⟨xs, hs, he⟩ := h
  rcases hk : okTake s n with _ | _
  · have hn : s.isNone = true ∨ n < 0 ∨ (xs.length : Int) < n := by
      rcases s with _ | ys
      · exact .inl rfl
      · right
        obtain rfl := he ys rfl
        rw [okTake_some] at hk
        simp at hk
        by_cases h0 : n < 0
        · exact .inl h0
        · exact .inr (hk (by omega))
    refine (rbytes_no w g xs _ n hs hn).mono fun e w' ⟨h1, h2, h3⟩ => ⟨⟨none, 0, ?_, ?_⟩, ⟨xs, ?_, ?_⟩, h3⟩
    · rw [h1]; simp [outV, hk]
    · simp only [outV, hk]; exact Own.nil _ _
    · simpa [nextV, hk] using h2
    · intro ys hy; simp [nextV, hk] at hy
  · rcases s with _ | ys
    · simp [okTake] at hk
    · obtain rfl := he ys rfl
      have hk2 := hk
      rw [okTake_some] at hk2
      simp at hk2
      obtain ⟨N, rfl⟩ := Int.eq_ofNat_of_zero_le hk2.1
      have hN : N ≤ xs.length := by omega
      have ho : outV (some xs) (N : Int) = xs.take N := by simp [outV, hk]
      have hnx : nextV (some xs) (N : Int) = some (xs.drop N) := by simp [nextV, hk]
      rw [ho, hnx]
      refine (rbytes_yes w g xs N hs hN (hx xs rfl)).mono fun e w' ⟨⟨p, cap, h1, h1'⟩, h2, h3⟩ => ⟨⟨p, cap, ?_, h1'⟩, ⟨xs.drop N, h2, fun ys hy => by simpa using hy⟩, h3⟩
      rw [h1]; simp; omega
theorem rnum_any (w : World) (g : Nat) (s : Option (List Int)) (wide : Int) (h : RRel w g s) (hx : ∀ xs, s = some xs → xs.length ≤ 1099511627776) :
    Calls Tryd.prog 40 #[.pointer (some ⟨g, 0, none⟩), .int .i64 wide] w fun e w' => e = .returned (.int .i64 (numV s wide)) ∧ RRel w' g (numNext s wide) ∧ w.grownBy w' (some g) := by
  rcases hw : wideB wide with _ | _
  · obtain ⟨xs, hs, he⟩ := h
    have HB := Lib.hid (rst_bad hs)
    obtain ⟨p, cap, hb, _, _, _, _⟩ := hs
    have c1 := hb.cell 1 (by simp)
    have f1 := hb.f 1
    have hv : numV s wide = 0 := by simp [numV, hw]
    have hn : numNext s wide = none := by simp [numNext, hw]
    rw [hv, hn]
    have hww := wideB_no hw
    clear hb hw hv hn he
    rcases hww with h | h
    · go_enter Tryd.func40, Tryd.ntmps40
      go_wp2
      go_ret
      exact ⟨rfl, ⟨xs, HB.out, fun ys hy => by cases hy⟩, gb_set w ⟨g, 1, none⟩ (.bool true)⟩
    · have t0 : decide (wide < 1) = false := by simp; omega
      go_enter Tryd.func40, Tryd.ntmps40
      go_wp2
      go_ret
      exact ⟨rfl, ⟨xs, HB.out, fun ys hy => by cases hy⟩, gb_set w ⟨g, 1, none⟩ (.bool true)⟩
  · have ⟨w1, w4⟩ := wideB_yes hw
    have hol : (outV s wide).length ≤ 4 := by
      rcases hk : okTake s wide with _ | _
      · simp [outV, hk]
      · have := outV_len hk; omega
    have hv : numV s wide = getV (outV s wide) := by
      unfold numV
      rw [hw]
      rcases hk : okTake s wide with _ | _
      · simp [outV, hk, getV]
      · simp
    have hn : numNext s wide = nextV s wide := by simp [numNext, hw]
    rw [hv, hn]
    have HB := Lib.hid (rbytes_any w g s wide h hx)
    obtain ⟨O, hO⟩ : ∃ O, outV s wide = O := ⟨_, rfl⟩
    obtain ⟨X, hX⟩ : ∃ X, nextV s wide = X := ⟨_, rfl⟩
    rw [hO] at hol HB ⊢
    rw [hX] at HB ⊢
    clear hw hv hn hO hX h hx
    go_enter Tryd.func40, Tryd.ntmps40
    go_wp2_with fail
    refine HB.out.mono ?_; rintro e w2 ⟨⟨p, cap, rfl, hy⟩, hr, hg⟩
    have HR := Lib.hid hr
    have HG := Lib.hid hg
    have HGET := Lib.hid (rget_any p O cap w2 hol hy.bytes)
    clear hr hg hy
    go_wp2_with fail
    refine HGET.out.mono ?_; rintro e w' ⟨rfl, rfl⟩
    go_wp2_with fail
    go_ret
    exact ⟨rfl, HR.out, HG.out⟩
theorem RRel.lt {w : World} {g : Nat} {s : Option (List Int)} (h : RRel w g s) : g < w.heap.size := by
  obtain ⟨xs, ⟨p, cap, hb, _⟩, _⟩ := h
  exact hb.lt
theorem RRel.below {w w' : World} {g : Nat} {s : Option (List Int)} (h : RRel w g s) (hb : Below w.heap.size w w') : RRel w' g s := by
  obtain ⟨xs, ⟨p, cap, hrow, hy, hl, hm, hne'⟩, he⟩ := h
  exact ⟨xs, ⟨p, cap, hrow.next hb, hy.below hb, hl, hm, hne'⟩, he⟩
theorem RRel.above {w w' : World} {g : Nat} {s : Option (List Int)} {row : Option Nat} (h : RRel w g s) (hg : w.grownBy w' row) (hr : ∀ r, row = some r → g < r) : RRel w' g s := by
  have hlt := h.lt
  obtain ⟨xs, ⟨p, cap, hrow, hy, hl, hm, hne'⟩, he⟩ := h
  refine ⟨xs, ⟨p, cap, hrow.of_same (hg.block g hlt (fun e => by have := hr g e.symm; omega)), bytes_far hy hg (fun b hb e => ?_), hl, hm, hne'⟩, he⟩
  have := hne' b hb
  have := hr b e.symm
  omega
end Go.Proofs.YtpeagakpmjnelaaDoor.Ax
namespace Go.Proofs.YtpeagakpmjnelaaDoor.Ax
open Go.RowKit
set_option maxRecDepth 100000

def flagV (k : Nat) : Int := if flagsL.getD k 0 = 0 then -1 else flagsL.getD k 0
theorem rflags_any (k : Nat) (w : World) :
    Calls Tryd.prog 42 #[.int .i64 k] w fun e w' => e = .returned (.int .i64 (flagV k)) ∧ w = w' := by
  have key : k = 0 ∨ k = 1 ∨ k = 2 ∨ k = 3 ∨ k = 4 ∨ k = 5 ∨ k = 6 ∨ k = 7 ∨ k = 8 ∨ 9 ≤ k := by omega
  rcases key with rfl | rfl | rfl | rfl | rfl | rfl | rfl | rfl | rfl | hk
  case inr.inr.inr.inr.inr.inr.inr.inr.inr =>
    have hv : flagV k = -1 := by unfold flagV; rw [if_pos (flags_far hk)]
    rw [hv]
    obtain ⟨K, hK⟩ : ∃ K : Int, (k : Int) = K := ⟨_, rfl⟩
    have h9 : 9 ≤ K := by omega
    rw [hK]
    clear hv hK hk
    have e1 : (K == 1) = false := by simp; omega
    have e2 : (K == 2) = false := by simp; omega
    have e3 : (K == 3) = false := by simp; omega
    have e4 : (K == 4) = false := by simp; omega
    have e5 : (K == 5) = false := by simp; omega
    have e8 : (K == 8) = false := by simp; omega
    go_enter Tryd.func42, Tryd.ntmps42
    go_wp2
    go_ret
    exact ⟨rfl, rfl⟩
  all_goals
    go_enter Tryd.func42, Tryd.ntmps42
    go_wp2
    go_ret
    exact ⟨rfl, rfl⟩
end Go.Proofs.YtpeagakpmjnelaaDoor.Ax
namespace Go.Proofs.YtpeagakpmjnelaaDoor.Ax
open Go.RowKit
set_option maxRecDepth 100000

theorem listV_nil (f wide : Nat) : listV f wide [] = ([], true) := by cases f <;> rfl
theorem listV_step {f wide : Nat} {xs : List Int} (h0 : 0 < xs.length) (h : wide ≤ xs.length) : listV (f + 1) wide xs = (getV (xs.take wide) :: (listV f wide (xs.drop wide)).1, (listV f wide (xs.drop wide)).2) := by
  rcases xs with _ | ⟨x, t⟩
  · simp at h0
  · rw [listV, if_pos h]
theorem listV_cut {f wide : Nat} {xs : List Int} (h0 : 0 < xs.length) (h : xs.length < wide) : listV (f + 1) wide xs = ([0], false) := by
  rcases xs with _ | ⟨x, t⟩
  · simp at h0
  · rw [listV, if_neg (by omega)]
theorem inByte_drop {xs : List Int} (h : InByte xs) (n : Nat) : InByte (xs.drop n) := fun i hi => by
  have hl : n + i < xs.length := by simp at hi; omega
  have := h (n + i) hl
  simpa [List.getD] using this
theorem listV_even (wide : Nat) (h1 : 1 ≤ wide) : ∀ (m f : Nat) (xs : List Int), xs.length = wide * m → xs.length < f → InByte xs → (listV f wide xs).2 = true ∧ (listV f wide xs).1.length = m ∧ ∀ y ∈ (listV f wide xs).1, 0 ≤ y ∧ y < 256 ^ wide
  | 0, f, xs, hl, _, _ => by
    have : xs = [] := List.eq_nil_of_length_eq_zero (by simpa using hl)
    subst this
    rw [listV_nil]
    exact ⟨rfl, rfl, fun y hy => by cases hy⟩
  | m + 1, 0, xs, hl, hf, _ => by omega
  | m + 1, f + 1, xs, hl, hf, hb => by
    have hw : wide ≤ xs.length := by rw [hl, Nat.mul_succ]; omega
    obtain ⟨i1, i2, i3⟩ := listV_even wide h1 m f (xs.drop wide) (by rw [List.length_drop, hl, Nat.mul_succ]; omega) (by rw [List.length_drop]; omega) (inByte_drop hb wide)
    rw [listV_step (by omega) hw]
    refine ⟨i1, by simp [i2], fun y hy => ?_⟩
    rcases List.mem_cons.1 hy with rfl | hy
    · exact getV_bd xs hb wide hw
    · exact i3 y hy
theorem listV_odd (wide : Nat) (h1 : 1 ≤ wide) : ∀ (f : Nat) (xs : List Int), xs.length % wide ≠ 0 → xs.length < f → (listV f wide xs).2 = false
  | 0, xs, _, hf => by omega
  | f + 1, xs, hl, hf => by
    have h0 : 0 < xs.length := by
      rcases Nat.eq_zero_or_pos xs.length with h | h
      · rw [h] at hl; simp at hl
      · exact h
    by_cases hw : wide ≤ xs.length
    · rw [listV_step h0 hw]
      refine listV_odd wide h1 f (xs.drop wide) ?_ (by rw [List.length_drop]; omega)
      rw [List.length_drop]
      intro h
      apply hl
      rw [Nat.mod_eq_sub_mod hw]
      exact h
    · rw [listV_cut h0 (by omega)]

/-- The document's communities: none, they may not be. -/
def commsG (xs : List Int) : Option (List Int) := if xs.length = 0 ∨ xs.length % 4 ≠ 0 ∨ 128 < xs.length then none else some (listV (xs.length + 1) 4 xs).1
theorem okComms_yes {l : List Int} (h : l.length ≤ 32) (hb : ∀ y ∈ l, 0 ≤ y ∧ y < 256 ^ 4) : okComms l = true := by
  unfold okComms
  have : l.any (oddB 0 4294967295) = false := by
    rw [List.any_eq_false]
    intro y hy
    have := hb y hy
    have h4 : (256 : Int) ^ 4 = 4294967296 := by decide
    simp [oddB]; omega
  rw [this]; simp [h]
theorem okComms_len {l : List Int} (h : 32 < l.length) : okComms l = false := by
  unfold okComms
  rw [decide_eq_false (by omega)]; rfl
theorem readV_comms (four : Bool) (a : At) (xs : List Int) (hb : InByte xs) : readV four a 8 xs = (commsG xs).map (fun l => { a with comms := l }) := by
  rw [readV_8]
  unfold commsG
  by_cases h0 : xs.length = 0
  · have : xs = [] := List.eq_nil_of_length_eq_zero h0
    subst this
    rw [if_neg (by rw [listV_nil]; simp), if_pos (.inl rfl)]; rfl
  · by_cases hm : xs.length % 4 = 0
    · obtain ⟨m, hl⟩ : ∃ m, xs.length = 4 * m := ⟨xs.length / 4, by omega⟩
      obtain ⟨i1, i2, i3⟩ := listV_even 4 (by omega) m (xs.length + 1) xs hl (Nat.lt_succ_self _) hb
      by_cases h8 : 128 < xs.length
      · rw [if_neg (fun h => by rw [okComms_len (by omega)] at h; exact absurd h.2.2 (by decide)), if_pos (.inr (.inr h8))]; rfl
      · rw [if_pos ⟨i1, by omega, okComms_yes (by omega) i3⟩, if_neg (by omega)]; rfl
    · rw [if_neg (fun h => by rw [listV_odd 4 (by omega) _ _ hm (Nat.lt_succ_self _)] at h; exact absurd h.1 (by decide)), if_pos (.inr (.inl hm))]; rfl

def CommsTo (w w' : World) (r : Option (List Int)) (e : Ending) : Prop :=
  match r with
  | some l => ∃ v, e = .returned (.tuple #[v, .bool true]) ∧ w'.ownsRow w.heap.size 3 1 v l.length (l.map (Value.int .i64)) ∧ Below w.heap.size w w'
  | none => e = .returned (.tuple #[.slice none 0 0, .bool false]) ∧ w = w'
def CommRel (w : World) (xs R : List Int) (gk : Nat) (v iv : Value) (wr : World) : Prop :=
  ∃ (acc : List Int) (m : Nat) (q : Option Addr) (cap i f : Nat), v = .slice q m cap ∧ iv = .int .i64 i ∧ acc.length = m ∧ wr.ownsRow w.heap.size 3 1 (.slice q m cap) m (acc.map (Value.int .i64)) ∧ Below w.heap.size w wr ∧
    i ≤ xs.length ∧ i % 4 = 0 ∧ m ≤ i ∧ xs.length - i < f ∧ acc ++ (listV f 4 (xs.drop i)).1 = R ∧ gk = xs.length - i

set_option maxRecDepth 100000 in
set_option maxHeartbeats 2000000 in
theorem rcomms_any (p : Option Addr) (xs : List Int) (n c : Nat) (w : World) (hb : BytesAt w p xs) (hn : xs.length = n) (hc : n ≤ c) (hl : n ≤ 1000000) :
    Calls Tryd.prog 68 #[.slice p n c] w fun e w' => CommsTo w w' (commsG xs) e := by
  by_cases h0 : n = 0
  · rw [show commsG xs = none from if_pos (.inl (by omega))]
    subst h0
    clear hb hn
    go_enter Tryd.func68, Tryd.ntmps68
    go_wp2_with fail
    go_ret2
    exact ⟨rfl, rfl⟩
  · by_cases hm : n % 4 = 0
    · by_cases h8 : 128 < n
      · rw [show commsG xs = none from if_pos (.inr (.inr (by omega)))]
        clear hb hn
        go_enter Tryd.func68, Tryd.ntmps68
        go_wp2_with fail
        go_ret2
        exact ⟨rfl, rfl⟩
      · obtain ⟨R, hR⟩ : ∃ R, (listV (xs.length + 1) 4 xs).1 = R := ⟨_, rfl⟩
        rw [show commsG xs = some R from (if_neg (by omega)).trans (congrArg some hR)]
        have HR := Lib.hid hR
        have HN := Lib.hid hn
        have HB := Lib.hid hb
        have t0 : ((n : Int) == 0) = false := by simp; omega
        have t2 : decide (128 < (n : Int)) = false := by simp; omega
        clear hb hn hR
        go_enter Tryd.func68, Tryd.ntmps68
        go_wp2_with fail
        go_loopg [4, 5] n (fun k v iv wr => CommRel w xs R k v iv wr)
        case atStart => exact ⟨[], 0, none, 0, 0, _, rfl, rfl, rfl, World.ownsRow_nil _ _ _ _, Below.refl _ _, Nat.zero_le _, rfl, Nat.le_refl _, Nat.lt_succ_self _, by simpa using HR.out, by rw [HN.out]; rfl⟩
        case round =>
          obtain ⟨acc, m, q, cap, i, f, rfl, rfl, hm2, hown, hbel, hi, hi4, hmi, hf, hp, hk⟩ := hrel
          have HM := Lib.hid hm2
          have HO := Lib.hid hown
          have HBL := Lib.hid hbel
          have HP := Lib.hid hp
          clear hm2 hown hbel hp HR
          rw [HN.out] at hi hf hk
          by_cases hlt : i < n
          · have hi4n : i + 4 ≤ n := by omega
            obtain ⟨f, rfl⟩ : ∃ f', f = f' + 1 := ⟨f - 1, by omega⟩
            have hdl : (xs.drop i).length = n - i := by rw [List.length_drop, HN.out]
            have HE := Lib.hid (listV_step (f := f) (wide := 4) (xs := xs.drop i) (by omega) (by omega))
            obtain ⟨y, hy⟩ : ∃ y, getV ((xs.drop i).take 4) = y := ⟨_, rfl⟩
            have htd : (xs.take (i + 4)).drop i = (xs.drop i).take 4 := by rw [List.drop_take]; congr 1; omega
            have htl : ((xs.take (i + 4)).drop i).length = 4 := by rw [htd, List.length_take, hdl]; omega
            have hby := (HB.out.below HBL.out).cut c i (i + 4) (by omega) (by rw [HN.out]; exact hi4n) (by rw [HN.out]; exact hc)
            have hg := rget_any (cutP p c i) ((xs.take (i + 4)).drop i) (c - i) wr (by omega) hby
            rw [htl, htd, hy] at hg
            have HG := Lib.hid hg
            have E1 := fun u => run_cut u p n c (i : Int) ((i : Int) + 4) i (i + 4) rfl (by omega) (by omega) (by omega)
            rw [show i + 4 - i = 4 from by omega] at E1
            rw [hy] at HE
            clear hy htd htl hby hg hdl
            go_wp2_with fail
            refine HG.out.mono ?_; rintro e w2 ⟨rfl, rfl⟩
            have HO2 := Lib.hid (HO.out.alloc (.cells #[.int .i64 y] 3))
            have HB2 := Lib.hid (HBL.out.trans ((new_below wr (.cells #[.int .i64 y] 3)).mono HBL.out.size))
            have HC := Lib.hid (show (wr.alloc (.cells #[.int .i64 y] 3)).cell? ⟨wr.heap.size, 0, none⟩ = some (.int .i64 y) from (Blk.new wr 3 [.int .i64 y]).cell 0 (by simp))
            clear HG E1
            go_wp2_with (refine wpList_appi (o := ⟨some 34, _, _, _, _, _⟩) (by rfl) (.tmp 26) (.tmp 33) (by rfl) w.heap.size q cap m acc HO2.out (by rfl) wr.heap.size y (by rfl) HC.out (by omega) HB2.out.size ?_; intro q3 cap3 w3 hO3 hG3)
            have HRB := Lib.hid (fun r hr => (show w.heap.size ≤ r from row_block HO2.out r hr))
            go_roundg (n - (i + 4))
            case rel =>
              refine ⟨acc ++ [y], m + 1, q3, cap3, i + 4, f, rfl, rfl, by rw [List.length_append, HM.out]; rfl, hO3.out, HB2.out.trans ((Below.refl _ _).grown hG3.out HB2.out.size HRB.out), by rw [HN.out]; omega, by omega, by omega, by rw [HN.out]; omega, ?_, by rw [HN.out]⟩
              rw [← HP.out, HE.out, List.drop_drop]
              simp
            case measure => omega
          · have hin : i = n := by omega
            subst hin
            have hdn : xs.drop i = [] := List.drop_eq_nil_of_le (by rw [HN.out]; exact Nat.le_refl _)
            have HDN := Lib.hid hdn
            clear hdn
            go_wp2_with fail
            go_ret2
            refine ⟨_, rfl, ?_, HBL.out⟩
            rw [← HP.out, HDN.out, listV_nil, List.append_nil, HM.out]
            exact HO.out
    · rw [show commsG xs = none from if_pos (.inr (.inl (by omega)))]
      clear hb hn
      go_enter Tryd.func68, Tryd.ntmps68
      go_wp2_with fail
      go_ret2
      exact ⟨rfl, rfl⟩
end Go.Proofs.YtpeagakpmjnelaaDoor.Ax
namespace Go.Proofs.YtpeagakpmjnelaaDoor.Ax
open Go.RowKit
set_option maxRecDepth 100000

theorem listV_fuel {wide : Nat} (h1 : 1 ≤ wide) : ∀ (f f' : Nat) (xs : List Int), xs.length < f → xs.length < f' → listV f wide xs = listV f' wide xs
  | 0, _, _, h, _ => by omega
  | _, 0, _, _, h => by omega
  | f + 1, f' + 1, xs, h, h' => by
    rcases Nat.eq_zero_or_pos xs.length with h0 | h0
    · have : xs = [] := List.eq_nil_of_length_eq_zero h0
      subst this
      rw [listV_nil, listV_nil]
    · by_cases hw : wide ≤ xs.length
      · rw [listV_step h0 hw, listV_step h0 hw, listV_fuel h1 f f' (xs.drop wide) (by rw [List.length_drop]; omega) (by rw [List.length_drop]; omega)]
      · rw [listV_cut h0 (by omega), listV_cut h0 (by omega)]
theorem inByte_take {xs : List Int} (h : InByte xs) (n : Nat) : InByte (xs.take n) := fun i hi => by
  have hl : i < xs.length := by rw [List.length_take] at hi; omega
  have hn : i < n := by rw [List.length_take] at hi; omega
  have := h i hl
  simpa [List.getD, List.getElem?_take, hn] using this
/-- So many numbers of a reader. -/
def numsS (wide : Int) : Nat → Option (List Int) → List Int × Option (List Int)
  | 0, s => ([], s)
  | k + 1, s => (numV s wide :: (numsS wide k (numNext s wide)).1, (numsS wide k (numNext s wide)).2)
theorem numV_ok {wide : Nat} (h1 : 1 ≤ wide) (h4 : wide ≤ 4) {xs : List Int} (h : wide ≤ xs.length) : numV (some xs) wide = getV (xs.take wide) ∧ numNext (some xs) wide = some (xs.drop wide) := by
  have hk : okTake (some xs) (wide : Int) = true := by simp [okTake]; omega
  have hw : wideB (wide : Int) = true := by simp [wideB]; omega
  exact ⟨by simp [numV, hk, hw, outV], by simp [numNext, nextV, hk, hw]⟩
theorem numV_no {wide : Nat} {xs : List Int} (h : xs.length < wide) : numV (some xs) wide = 0 ∧ numNext (some xs) wide = none := by
  have hk : okTake (some xs) (wide : Int) = false := by simp [okTake]; omega
  refine ⟨by simp [numV, hk], ?_⟩
  unfold numNext nextV
  rw [hk]
  split <;> rfl
theorem numNext_none (wide : Int) : numNext none wide = none := by
  unfold numNext nextV okTake
  split <;> rfl
theorem numsS_none (wide : Int) : ∀ k, (numsS wide k none).2 = none
  | 0 => rfl
  | k + 1 => by rw [numsS, numNext_none]; exact numsS_none wide k
theorem numsS_ok {wide : Nat} (h1 : 1 ≤ wide) (h4 : wide ≤ 4) : ∀ (k : Nat) (xs : List Int), k * wide ≤ xs.length → numsS wide k (some xs) = (numsV wide (xs.take (k * wide)), some (xs.drop (k * wide)))
  | 0, xs, _ => by simp [numsS, numsV, listV]
  | k + 1, xs, h => by
    have hs : (k + 1) * wide = wide + k * wide := by rw [Nat.succ_mul]; omega
    have hw : wide ≤ xs.length := by omega
    obtain ⟨e1, e2⟩ := numV_ok h1 h4 hw
    have ih := numsS_ok h1 h4 k (xs.drop wide) (by rw [List.length_drop]; omega)
    rw [numsS, e1, e2, ih]
    have hl : (xs.take ((k + 1) * wide)).length = (k + 1) * wide := by rw [List.length_take]; omega
    have hd : (xs.take ((k + 1) * wide)).drop wide = (xs.drop wide).take (k * wide) := by rw [List.drop_take]; congr 1; omega
    have ht : (xs.take ((k + 1) * wide)).take wide = xs.take wide := by rw [List.take_take]; congr 1; omega
    have hl2 : ((xs.drop wide).take (k * wide)).length = k * wide := by rw [List.length_take, List.length_drop]; omega
    have e3 : numsV wide (xs.take ((k + 1) * wide)) = getV (xs.take wide) :: numsV wide ((xs.drop wide).take (k * wide)) := by
      unfold numsV
      rw [hl, listV_step (by rw [hl]; omega) (by rw [hl]; omega), hd, ht, hl2, listV_fuel h1 ((k + 1) * wide) (k * wide + 1) _ (by rw [hl2]; omega) (by rw [hl2]; omega)]
    rw [e3, List.drop_drop, show wide + k * wide = (k + 1) * wide from hs.symm]
theorem numsS_bad {wide : Nat} (h1 : 1 ≤ wide) (h4 : wide ≤ 4) : ∀ (k : Nat) (xs : List Int), xs.length < k * wide → (numsS wide k (some xs)).2 = none
  | 0, xs, h => by omega
  | k + 1, xs, h => by
    have hs : (k + 1) * wide = wide + k * wide := by rw [Nat.succ_mul]; omega
    rw [numsS]
    by_cases hw : wide ≤ xs.length
    · rw [(numV_ok h1 h4 hw).2]
      exact numsS_bad h1 h4 k (xs.drop wide) (by rw [List.length_drop]; omega)
    · rw [(numV_no (by omega)).2]
      exact numsS_none _ _
theorem seg_numsV (four set : Bool) (n : Nat) (ys : List Int) (hl : ys.length = n * wideA four) (hb : InByte ys) : (numsV (wideA four) ys).length = n ∧ segOdd (mostA four) ⟨set, numsV (wideA four) ys⟩ = (n == 0 || decide (64 < n)) := by
  obtain ⟨h1, h4⟩ := wideA_bd four
  obtain ⟨_, i2, i3⟩ := listV_even (wideA four) h1 n (ys.length + 1) ys (by rw [hl, Nat.mul_comm]) (Nat.lt_succ_self _) hb
  have i2' : (numsV (wideA four) ys).length = n := i2
  have ha : (numsV (wideA four) ys).any (oddB 0 (mostA four)) = false := by
    rw [List.any_eq_false]
    intro y hy
    have := i3 y hy
    cases four
    · have h4 : (256 : Int) ^ wideA false = 65536 := by decide
      simp [oddB, mostA]; omega
    · have h4 : (256 : Int) ^ wideA true = 4294967296 := by decide
      simp [oddB, mostA]; omega
  refine ⟨i2', ?_⟩
  unfold segOdd
  rw [ha, i2', Bool.or_false]
/-- The document's path: segments that may be, none else. -/
def pathR (four : Bool) : Nat → Nat → List Int → Option (List Seg)
  | 0, _, _ => some []
  | _ + 1, _, [] => some []
  | _ + 1, _, [_] => none
  | f + 1, m, k :: n :: rest =>
    if (k = 1 ∨ k = 2) ∧ 1 ≤ n ∧ n ≤ 64 ∧ m < 8 ∧ n.toNat * wideA four ≤ rest.length then (pathR four f (m + 1) (rest.drop (n.toNat * wideA four))).map (fun t => ⟨k == 1, numsV (wideA four) (rest.take (n.toNat * wideA four))⟩ :: t) else none
theorem pathR_cons (four : Bool) (f m : Nat) (k n : Int) (rest : List Int) : pathR four (f + 1) m (k :: n :: rest) = if (k = 1 ∨ k = 2) ∧ 1 ≤ n ∧ n ≤ 64 ∧ m < 8 ∧ n.toNat * wideA four ≤ rest.length then (pathR four f (m + 1) (rest.drop (n.toNat * wideA four))).map (fun t => ⟨k == 1, numsV (wideA four) (rest.take (n.toNat * wideA four))⟩ :: t) else none := rfl
def okRest (four : Bool) (m : Nat) (l : List Seg) : Option (List Seg) := if m + l.length ≤ 8 ∧ l.any (segOdd (mostA four)) = false then some l else none
theorem pathR_eq (four : Bool) : ∀ (f m : Nat) (xs : List Int), m ≤ 8 → InByte xs → pathR four f m xs = (pathG (wideA four) f xs).bind (okRest four m)
  | 0, m, xs, hm, _ => by
    have h1 : pathR four 0 m xs = some [] := by cases xs <;> rfl
    have h2 : pathG (wideA four) 0 xs = some [] := by cases xs <;> rfl
    rw [h1, h2]
    exact (if_pos ⟨hm, rfl⟩).symm
  | f + 1, m, [], hm, _ => (if_pos ⟨hm, rfl⟩).symm
  | f + 1, m, [_], hm, _ => rfl
  | f + 1, m, k :: n :: rest, hm, hb => by
    have hr : InByte rest := inByte_tail (inByte_tail hb)
    obtain ⟨n0, n1⟩ := inByte_cons (inByte_tail hb)
    rw [pathR_cons, show pathG (wideA four) (f + 1) (k :: n :: rest) = if n.toNat * wideA four ≤ rest.length ∧ (k = 1 ∨ k = 2) then (pathG (wideA four) f (rest.drop (n.toNat * wideA four))).map (fun t => ⟨k == 1, numsV (wideA four) (rest.take (n.toNat * wideA four))⟩ :: t) else none from rfl]
    by_cases h1 : n.toNat * wideA four ≤ rest.length ∧ (k = 1 ∨ k = 2)
    · rw [if_pos h1]
      obtain ⟨hsl, hso⟩ := seg_numsV four (k == 1) n.toNat (rest.take (n.toNat * wideA four)) (by rw [List.length_take]; omega) (inByte_take hr _)
      by_cases h2 : 1 ≤ n ∧ n ≤ 64 ∧ m < 8
      · rw [if_pos ⟨h1.2, h2.1, h2.2.1, h2.2.2, h1.1⟩, pathR_eq four f (m + 1) _ (by omega) (inByte_drop hr _)]
        have hsf : segOdd (mostA four) ⟨k == 1, numsV (wideA four) (rest.take (n.toNat * wideA four))⟩ = false := by
          rw [hso]; simp; omega
        rcases pathG (wideA four) f (rest.drop (n.toNat * wideA four)) with _ | l
        · rfl
        · simp only [Option.bind_some, Option.map_some]
          unfold okRest
          by_cases h3 : m + 1 + l.length ≤ 8 ∧ l.any (segOdd (mostA four)) = false
          · rw [if_pos h3, if_pos ⟨by simp; omega, by rw [List.any_cons, hsf, h3.2]; rfl⟩]; rfl
          · rw [if_neg h3, if_neg (fun h => h3 ⟨by have := h.1; simp at this; omega, by have := h.2; rw [List.any_cons, hsf] at this; simpa using this⟩)]; rfl
      · rw [if_neg (fun h => h2 ⟨h.2.1, h.2.2.1, h.2.2.2.1⟩)]
        rcases pathG (wideA four) f (rest.drop (n.toNat * wideA four)) with _ | l
        · rfl
        · simp only [Option.bind_some, Option.map_some]
          unfold okRest
          rw [if_neg (fun h => h2 (by
            obtain ⟨g1, g2⟩ := h
            rw [List.any_cons, hso] at g2
            simp at g1 g2
            omega))]
    · rw [if_neg h1, if_neg (fun h => h1 ⟨h.2.2.2.2, h.1⟩)]; rfl
theorem pathR_ok (four : Bool) (xs : List Int) (hb : InByte xs) : pathR four (xs.length + 1) 0 xs = (pathG (wideA four) (xs.length + 1) xs).bind (fun l => if okPath l four = true then some l else none) := by
  rw [pathR_eq four _ 0 xs (by omega) hb]
  congr 1
  funext l
  unfold okRest okPath
  by_cases h1 : l.length ≤ 8
  · by_cases h2 : l.any (segOdd (mostA four)) = false
    · rw [if_pos ⟨by omega, h2⟩, h2]; simp [h1]
    · rw [if_neg (fun h => h2 h.2)]; simp at h2; simp [h1, h2]
  · rw [if_neg (fun h => h1 (by omega))]; simp [h1]
end Go.Proofs.YtpeagakpmjnelaaDoor.Ax
