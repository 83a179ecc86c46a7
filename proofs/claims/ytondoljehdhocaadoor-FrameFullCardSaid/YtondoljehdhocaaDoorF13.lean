/- 'FrameFull': a stream takes 65536 bytes, and no more. -/
import Derived.Test.YtondoljehdhocaaDoorF10
namespace Go.Proofs.YtondoljehdhocaaDoor
open Go.RowKit

theorem full_out (n : Int) (w : World) (ht : Tab w) (hn : n < 0 ∨ 70000 < n) :
    Calls Tryd.prog 6 #[.int .i64 n] w fun e w' => e = .returned (.bool true) ∧ Below w.heap.size w w' := by
  rcases hn with h | h
  · go_enter Tryd.func6, Tryd.ntmps6
    go_wp2_with (go_at_call 8; refine (lives_any _ ht).mono ?_; rintro e w1 ⟨rfl, hb⟩; have HB := Lib.hid hb; clear hb)
    go_ret
    exact ⟨rfl, HB.out⟩
  · have h0 : ¬ n < 0 := by omega
    go_enter Tryd.func6, Tryd.ntmps6
    go_wp2_with (go_at_call 8; refine (lives_any _ ht).mono ?_; rintro e w1 ⟨rfl, hb⟩; have HB := Lib.hid hb; clear hb)
    go_ret
    exact ⟨rfl, HB.out⟩

/-- The bytes as they are filled, from the first on. -/
def FillR (g B : Nat) (W : World) (n : Nat) (i : Value) (wr : World) : Prop := ∃ (j : Nat) (f : Nat → Value), j ≤ n ∧ i = .int .i64 j ∧ wr.rowIs B 5 n f ∧ (∀ m, m < j → f m = .int .u8 255) ∧ Below B W wr ∧ B < wr.heap.size ∧ g < B

set_option maxRecDepth 100000 in
set_option maxHeartbeats 2000000 in
theorem full_in (n : Nat) (w : World) (ht : Tab w) (hn : n ≤ 70000) :
    Calls Tryd.prog 6 #[.int .i64 n] w fun e w' => e = .returned (.bool true) ∧ Below w.heap.size w w' := by
  have HT := Lib.hid ht
  have t0 : decide ((n : Int) < 0) = false := by simp
  have t1 : decide ((70000 : Int) < (n : Int)) = false := by simp; omega
  have hmk := fun w => run_make_row' (P := Tryd.prog) 22 5 (.int .u8 0) 1 Tryd.underlying22 info5 rfl .i64 .i64 n (by omega) (by omega) w
  clear ht
  go_enter Tryd.func6, Tryd.ntmps6
  go_wp2_with fail
  refine (new_any w).mono ?_; rintro e w1 ⟨rfl, hs, hb⟩
  have S1 := Lib.hid hs
  have B1 := Lib.hid hb
  clear hs hb
  go_wp2_with fail
  refine (lives_any w1 (HT.out.below B1.out)).mono ?_; rintro e w2 ⟨rfl, hb⟩
  have S2 := Lib.hid (S1.out.next hb)
  have B2 := Lib.hid (B1.out.trans (hb.mono B1.out.size))
  have hg2 : w.heap.size < w2.heap.size := by obtain ⟨_, _, h3, _⟩ := S2.out; exact h3.lt
  clear hb S1
  go_wp2_with fail
  clear hmk
  go_loopw [5] (fun i wr => FillR w.heap.size w2.heap.size w2 n i wr) (fun i _ => n - (intOf i).toNat)
  case atStart => exact ⟨0, _, Nat.zero_le _, rfl, World.rowIs_made w2 (.int .u8 0) n 5, fun m hm => absurd hm (Nat.not_lt_zero m), (Below.refl _ _).alloc (Nat.le_refl _) _, by simp, hg2⟩
  case round =>
    obtain ⟨j, f, hj, rfl, hrow, hf, hB, hlt2, _⟩ := hrel
    have HR := Lib.hid hrow
    have HF := Lib.hid hf
    have HB := Lib.hid hB
    by_cases hlt : j < n
    · have hc := hrow.cell (i := j) hlt
      have hfz := hrow.frozen j
      clear hrow hf hB
      generalize f j = fj at hc
      go_wp2_with fail
      go_roundw
      case rel =>
        refine ⟨j + 1, _, by omega, by go_num, HR.out.set j _, fun m hm => ?_, HB.out.setCell (Nat.le_refl _) _, by simpa [World.setCell] using hlt2, hg2⟩
        by_cases e : m = j
        · rw [if_pos e]
        · rw [if_neg e]; exact HF.out m (by omega)
      case measure => simp [intOf]; omega
    · obtain rfl : j = n := by omega
      have S3 := Lib.hid (S2.out.next HB.out)
      have B3 := Lib.hid (B2.out.trans (HB.out.mono B2.out.size))
      have Y3 := Lib.hid (show BytesAt wr (some ⟨w2.heap.size, 0, none⟩) (List.replicate j 255) from
        ⟨inByte_all (fun x hx => by rw [List.mem_replicate] at hx; omega), .inr ⟨w2.heap.size, 0, rfl, fun i hi => by
          have hi' : i < j := by simpa using hi
          rw [Nat.zero_add, HR.out.cell hi', HF.out i hi']
          simp [List.getD, hi']⟩⟩)
      have NX := Lib.hid (fun (w : World) => next_nil w)
      clear hrow hf hB HR HF
      by_cases hbig : 65536 < j
      · have t3 : decide ((65536 : Int) < (j : Int)) = true := by simp; omega
        go_wp2_with fail
        refine (feed_full w.heap.size [] _ j j wr S3.out (by omega) (by decide) (by simp; omega)).mono ?_; rintro e w' ⟨rfl, rfl⟩
        go_wp2_with fail
        refine (NX.out _).mono ?_; rintro e w4 ⟨⟨q4, c4, r4, d4, rfl, _, _⟩, hb⟩
        dsimp only [List.length_nil]
        have h4 := hb.trans ((two_below w4 (.cells #[.int .i64 0, .slice q4 0 c4] 24) (.cells #[.int .i64 0, .int .i64 0, .slice r4 0 d4] 33)).mono hb.size)
        have B4 := Lib.hid (B3.out.trans (h4.mono B3.out.size))
        have S4 := Lib.hid (S3.out.next h4)
        clear hb h4
        go_wp2_with (first
          | (go_at_call 17; (with_reducible refine (feed_nil _ _ _ _).mono ?_); rintro e w' ⟨rfl, rfl⟩)
          | (go_at_call 20; (with_reducible refine (len_nil _).mono ?_); rintro e w' ⟨rfl, rfl⟩)
          | (go_at_call 20; (with_reducible refine (len_str _ _ [] S4.out).mono ?_); rintro e w' ⟨rfl, rfl⟩))
        go_ret
        exact ⟨rfl, B4.out⟩
      · have t3 : decide ((65536 : Int) < (j : Int)) = false := by simp; omega
        obtain ⟨m, hm⟩ : ∃ m : Nat, (65536 : Int) - (j : Int) = m := ⟨65536 - j, by omega⟩
        have hmk2 := fun w => run_make_row' (P := Tryd.prog) 22 5 (.int .u8 0) 1 Tryd.underlying22 info5 rfl .i64 .i64 m (by omega) (by omega) w
        rw [← hm] at hmk2
        have HMM := Lib.hid hm
        clear hm
        go_wp2_with fail
        refine (feed_ok w.heap.size [] _ (List.replicate j 255) j j wr S3.out Y3.out (by simp) (by simp; omega)).mono ?_; rintro e w3 ⟨rfl, hs, hb⟩
        rw [List.nil_append] at hs
        have S4 := Lib.hid hs
        have B4 := Lib.hid (B3.out.trans hb)
        clear hs hb S3 B3 Y3
        go_wp2_with fail
        refine (NX.out _).mono ?_; rintro e w4 ⟨⟨q4, c4, r4, d4, rfl, _, _⟩, hb⟩
        dsimp only [List.length_nil]
        have h4 := hb.trans ((two_below w4 (.cells #[.int .i64 0, .slice q4 0 c4] 24) (.cells #[.int .i64 0, .int .i64 0, .slice r4 0 d4] 33)).mono hb.size)
        have B5 := Lib.hid (B4.out.trans (h4.mono B4.out.size))
        have S5 := Lib.hid (S4.out.next h4)
        have hlen := len_str _ _ _ S5.out
        rw [List.length_replicate] at hlen
        have HLN := Lib.hid hlen
        clear hb h4 S4 B4 hlen
        obtain ⟨W5, hW5⟩ : ∃ W5, (w4.alloc (.cells #[.int .i64 0, .slice q4 0 c4] 24)).alloc (.cells #[.int .i64 0, .int .i64 0, .slice r4 0 d4] 33) = W5 := ⟨_, rfl⟩
        rw [hW5] at HLN B5 S5
        have HW5 := Lib.hid hW5
        clear hW5
        have hal := (Below.refl W5.heap.size W5).alloc (Nat.le_refl _) (.cells (madeCells #[.int .u8 0] m) 5)
        have S6 := Lib.hid (S5.out.next hal)
        have B6 := Lib.hid (B5.out.trans (hal.mono B5.out.size))
        have Y6 := Lib.hid (zeros_made W5 m)
        have FD := Lib.hid (feed_ok w.heap.size _ _ (List.replicate m 0) m m _ S6.out Y6.out (by simp) (by have := HMM.out; simp; omega))
        clear hal
        go_wp2_with (first
          | (go_at_call 17; (with_reducible refine (feed_nil _ _ _ _).mono ?_); rintro e w' ⟨rfl, rfl⟩)
          | (go_at_call 20; (with_reducible refine (len_nil _).mono ?_); rintro e w' ⟨rfl, rfl⟩)
          | (go_at_call 20; rw [HW5.out]; (with_reducible refine HLN.out.mono ?_); rintro e w' ⟨rfl, rfl⟩)
          | (go_at_call 17; (with_reducible refine FD.out.mono ?_); rintro e w7 ⟨rfl, hs7, hb7⟩; have S7 := Lib.hid (hs7.next ((Below.refl w7.heap.size w7).alloc (Nat.le_refl _) (.cells #[.int .u8 1] 5))); have B7 := Lib.hid ((B6.out.trans hb7).alloc (B6.out.trans hb7).size (.cells #[.int .u8 1] 5)); clear hs7 hb7)
          | (go_at_call 17; (refine (feed_full w.heap.size _ _ 1 1 _ S7.out (by omega) (by have := HMM.out; simp; omega) (by have := HMM.out; simp; omega)).mono ?_); rintro e w' ⟨rfl, rfl⟩))
        go_ret
        exact ⟨rfl, B7.out⟩

theorem full_walk (w : World) (ht : Tab w) (n : Int) (_ : (Lit.int .i64 n).wf = true) :
    Calls Tryd.prog 6 #[.int .i64 n] w fun e w' => e = .returned (.bool true) ∧ Below w.heap.size w w' := by
  by_cases h : n < 0 ∨ 70000 < n
  · exact full_out n w ht h
  · obtain ⟨m, rfl⟩ := Int.eq_ofNat_of_zero_le (show 0 ≤ n by omega)
    exact full_in m w ht (by omega)
end Go.Proofs.YtondoljehdhocaaDoor
