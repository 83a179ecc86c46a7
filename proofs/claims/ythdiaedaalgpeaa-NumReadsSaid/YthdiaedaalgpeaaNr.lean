/- 'NumReads': any calls of a reader of any bytes. -/
import Derived.Test.YthdiaedaalgpeaaRs
import Derived.Test.YthdiaedaalgpeaaNl
import Derived.Deep.RegionHeld
namespace Go.Proofs.Ythdiaedaalgpeaa
open Go.RowKit

theorem reads_out (p : Option Addr) (n cap : Nat) (q : Option Addr) (L c : Nat) (w : World) (h : 2000 < n ∨ 200 < L) :
    Calls Try.prog 3 #[.slice p n cap, .slice q L c] w fun e w' => e = .returned (.bool true) ∧ Below w.heap.size w w' := by
  by_cases h1 : 2000 < n
  · have t1 : decide ((2000 : Int) < (n : Int)) = true := by simp; omega
    go_enter Try.func3, Try.ntmps3
    go_wp2_with (go_at_call 4; refine (lives_any _).mono ?_; rintro e w1 ⟨rfl, hb⟩; have HB := Lib.hid hb; clear hb)
    go_ret
    exact ⟨rfl, HB.out⟩
  · have t1 : decide ((2000 : Int) < (n : Int)) = false := by simp; omega
    have t2 : decide ((200 : Int) < (L : Int)) = true := by simp; omega
    go_enter Try.func3, Try.ntmps3
    go_wp2_with (go_at_call 4; refine (lives_any _).mono ?_; rintro e w1 ⟨rfl, hb⟩; have HB := Lib.hid hb; clear hb)
    go_ret
    exact ⟨rfl, HB.out⟩

theorem rleft_rel (w : World) (g : Nat) (s : Option (List Int)) (h : RRel w g s) :
    Calls Try.prog 11 #[.pointer (some ⟨g, 0, none⟩)] w fun e w' => e = .returned (.int .i64 (leftV s)) ∧ w = w' := by
  obtain ⟨xs, hs, he⟩ := h
  refine (rleft_any w g xs _ hs).mono fun e w' ⟨h1, h2⟩ => ⟨?_, h2⟩
  rw [h1]
  rcases s with _ | ys
  · rfl
  · obtain rfl := he ys rfl
    rfl
theorem rbad_cell {w : World} {g : Nat} {s : Option (List Int)} (h : RRel w g s) : w.cell? ⟨g, 1, none⟩ = some (.bool s.isNone) := by
  obtain ⟨xs, ⟨p, cap, hb, _⟩, _⟩ := h
  exact hb.cell 1 (by simp)
theorem num_len {s : Option (List Int)} {n : Int} {k : Nat} (h : ∀ xs, s = some xs → xs.length ≤ k) : ∀ xs, numNext s n = some xs → xs.length ≤ k := by
  intro xs hx
  unfold numNext at hx
  split at hx
  · exact next_len h xs hx
  · cases hx

def NRel (w : World) (g1 g2 : Nat) (L : Nat) (i : Value) (wr : World) : Prop :=
  ∃ (j : Nat) (s : Option (List Int)), j ≤ L ∧ i = .int .i64 j ∧ RdAt wr g1 s ∧ RRel wr g2 s ∧ Below w.heap.size w wr ∧ ∀ xs, s = some xs → xs.length ≤ 2000

set_option maxRecDepth 100000 in
set_option maxHeartbeats 8000000 in
theorem reads_in (p : Option Addr) (xs : List Int) (n cap : Nat) (q : Option Addr) (os : List (Int × Int)) (L c : Nat) (w : World) (hb : BytesAt w p xs) (hn : xs.length = n) (hn2 : n ≤ 2000) (ho : OpsAt w q os) (hL : os.length = L) (hL2 : L ≤ 200) :
    Calls Try.prog 3 #[.slice p n cap, .slice q L c] w fun e w' => e = .returned (.bool true) ∧ Below w.heap.size w w' := by
  have t1 : decide ((2000 : Int) < (n : Int)) = false := by simp; omega
  have t2 : decide ((200 : Int) < (L : Int)) = false := by simp; omega
  have HY := Lib.hid hb
  have HN := Lib.hid hn
  have HO := Lib.hid ho
  have HL := Lib.hid hL
  have OL := Lib.hid (Own.lit w w.heap.size [] (fun i hi => by simp at hi) (by simp) (Nat.le_refl _))
  have HA := Lib.hid ((Below.refl w.heap.size w).alloc (Nat.le_refl _) (.cells #[] 5))
  have HYA := Lib.hid (hb.alloc (.cells #[] 5))
  clear hb hn ho hL
  go_enter Try.func3, Try.ntmps3
  go_wp2_with (refine wpList_appo (o := ⟨some 20, _, _, _, _, _⟩) (by rfl) (.tmp 18) (.tmp 19) (by rfl) w.heap.size (some ⟨w.heap.size, 0, none⟩) 0 [] OL.out 0 (by rfl) (by rfl) p n cap xs HYA.out HN.out (by rfl) n (by omega) (by omega) (by simp) ?_; intro p1 c1 w1 hO1 hB1 hG1)
  have B1 := Lib.hid (HA.out.trans hB1.out)
  have hf := from_any p1 xs c1 w1 (by rw [HN.out]; omega) hO1.out.bytes
  rw [HN.out] at hf
  have HF := Lib.hid hf
  clear hf hO1 hB1 hG1 OL HA HYA t1 t2
  refine HF.out.mono ?_; rintro e w2 ⟨g1, rfl, hg1, hr, hb⟩
  have B2 := Lib.hid (B1.out.trans (hb.mono B1.out.size))
  have R2 := Lib.hid hr
  have Y2 := Lib.hid ((HY.out.below B2.out).alloc (.cells #[] 5))
  have OL2 := Lib.hid (Own.lit w2 w2.heap.size [] (fun i hi => by simp at hi) (by simp) (Nat.le_refl _))
  have HA2 := Lib.hid ((Below.refl w2.heap.size w2).alloc (Nat.le_refl _) (.cells #[] 5))
  have hg1' : w.heap.size ≤ g1 := Nat.le_trans B1.out.size hg1
  clear hb hr HF hg1
  go_wp2_with (refine wpList_appo (o := ⟨some 24, _, _, _, _, _⟩) (by rfl) (.tmp 22) (.tmp 23) (by rfl) w2.heap.size (some ⟨w2.heap.size, 0, none⟩) 0 [] OL2.out 0 (by rfl) (by rfl) p n cap xs Y2.out HN.out (by rfl) n (by omega) (by omega) (by simp) ?_; intro p3 c3 w3 hO3 hB3 hG3)
  have hb3 := HA2.out.trans hB3.out
  have hal := (Below.refl w3.heap.size w3).alloc (Nat.le_refl _) (.cells #[.slice p3 n c3, .bool false] 29)
  have hb4 := hb3.trans (hal.mono hb3.size)
  have B4 := Lib.hid (B2.out.trans (hb4.mono B2.out.size))
  have R4 := Lib.hid (R2.out.below hb4)
  have Q4 := Lib.hid (show RRel (w3.alloc (.cells #[.slice p3 n c3, .bool false] 29)) w3.heap.size (some xs) from
    ⟨xs, ⟨p3, c3, by rw [HN.out]; exact Blk.new w3 _ [.slice p3 n c3, .bool false], (hO3.out.bytes).below hal, hO3.out.le, hO3.out.max, fun e => absurd (hO3.out.block_lt e).2 (Nat.lt_irrefl _)⟩, fun ys hy => by simpa using hy⟩)
  have hne : g1 ≠ w3.heap.size := by have := R2.out.lt'; have := hb3.size; omega
  have hg2 : w.heap.size ≤ w3.heap.size := Nat.le_trans B2.out.size hb3.size
  obtain ⟨g2, hg2e⟩ : ∃ g2, w3.heap.size = g2 := ⟨_, rfl⟩
  rw [hg2e] at Q4 hne hg2
  have HL4 := Lib.hid (lives_any (w3.alloc (.cells #[.slice p3 n c3, .bool false] 29)))
  have HG2 := Lib.hid hg2e
  clear hb3 hal hb4 hO3 hB3 hG3 OL2 HA2 Y2 R2 hg2e
  go_wp2_with fail
  rw [HG2.out]
  refine HL4.out.mono ?_; rintro e w5 ⟨rfl, hb⟩
  have B5 := Lib.hid (B4.out.trans (hb.mono B4.out.size))
  have R5 := Lib.hid (R4.out.below hb)
  have Q5 := Lib.hid (Q4.out.below hb)
  clear hb HL4 R4 Q4 HG2
  go_wp2_with fail
  go_loopw [7] (fun i wr => NRel w g1 g2 L i wr) (fun i _ => L - (intOf i).toNat)
  case atStart => exact ⟨0, some xs, Nat.zero_le _, rfl, R5.out, Q5.out, B5.out, fun ys hy => by cases hy; rw [HN.out]; exact hn2⟩
  case round =>
    obtain ⟨j, s, hj, rfl, hr, hq, hb, hx⟩ := hrel
    have R6 := Lib.hid hr
    have Q6 := Lib.hid hq
    have B6 := Lib.hid hb
    have X6 := Lib.hid hx
    clear hr hq hb hx
    by_cases hlt : j < L
    · obtain ⟨o, hoj⟩ : ∃ o, os[j]? = some o := ⟨os[j]'(by have := HL.out; omega), List.getElem?_eq_getElem (by have := HL.out; omega)⟩
      obtain ⟨b, off, rfl, hcl⟩ := HO.out.resolve_left (by intro h; have := HL.out; rw [h] at this; simp at this; omega)
      obtain ⟨hc0, hc1⟩ := hcl j o hoj
      obtain ⟨K, N⟩ := o
      dsimp only at hc0 hc1
      have hbw : b < w.heap.size := World.block_lt_of_cell? w _ hc0
      have hb1 : some b ≠ some g1 := fun e => by have := Option.some.inj e; omega
      have hb2 : some b ≠ some g2 := fun e => by have := Option.some.inj e; omega
      have HB1 := Lib.hid hb1
      have HB2 := Lib.hid hb2
      have HNE := Lib.hid hne
      have hjl : (j : Int) < (L : Int) := by omega
      have d0 := kept B6.out hc0
      have d1 := kept B6.out hc1
      have D1 := Lib.hid d1
      have RD := Lib.hid (R6.out.below (Below.refl wr.heap.size wr).drew)
      have QD := Lib.hid (Q6.out.below (Below.refl wr.heap.size wr).drew)
      have X6' := Lib.hid (show ∀ xs, s = some xs → xs.length ≤ 1099511627776 from fun xs h => Nat.le_trans (X6.out xs h) (by omega))
      have HG1 := Lib.hid hg1'
      have HG2 := Lib.hid hg2
      clear hcl hoj hc0 hc1 hb1 hb2 hj
      rcases hk : (K == 1) with _ | _
      · go_wp2_with fail
        have hS : wr.drew.cell? ⟨b, off + j * 2 + 1, none⟩ = some (.int .i64 N) := D1.out
        clear d0 d1 hk
        go_region_held (fun w' => w'.cell? ⟨b, off + j * 2 + 1, none⟩ = some (.int .i64 N)) (with_reducible assumption) (first
          | (go_at_call 8; refine (bytes_any wr.drew g1 s N RD.out).mono ?_; rintro e w7 ⟨p7, rfl, ho7, hi7, _, hge7, hr7, hg7⟩; have R7 := Lib.hid hr7; have G7 := Lib.hid hg7; have Q7 := Lib.hid (QD.out.keep RD.out HNE.out hg7); have Y7 := Lib.hid (ho7.bytes hi7); have L7 := Lib.hid (show g2 < wr.drew.heap.size from QD.out.lt); have P7 := Lib.hid hge7; have T7 := run_text (ho7.bytes hi7) (outV s N).length; have hS7 : w7.cell? ⟨b, off + j * 2 + 1, none⟩ = some (.int .i64 N) := hg7.cell (show wr.drew.cell? ⟨b, off + j * 2 + 1, none⟩ = some (.int .i64 N) from D1.out) HB1.out; clear ho7 hi7 hge7 hr7 hg7)
          | (go_at_call 9; refine (rbytes_any w7 g2 s N Q7.out X6'.out).mono ?_; rintro e w8 ⟨⟨p8, c8, rfl, hy8⟩, hr8, hg8⟩; have Q8 := Lib.hid hr8; have R8 := Lib.hid (R7.out.keep Q7.out HNE.out hg8); have T8 := run_text hy8 c8; have U8 := run_text (bytes_keep Y7.out hg8 (.inr (by have := P7.out; have := L7.out; simp; omega))) (outV s N).length; have G8 := Lib.hid hg8; have hS8 : w8.cell? ⟨b, off + j * 2 + 1, none⟩ = some (.int .i64 N) := hg8.cell hS7 HB2.out; clear hy8 hr8 hg8))
        all_goals (
          go_wp2_with fail
          have B9 := Lib.hid ((B6.out.drew.grown G7.out (Nat.le_trans B6.out.size (Nat.le_refl _)) (fun r e => by cases e; exact HG1.out)).grown G8.out (Nat.le_trans B6.out.size G7.out.size) (fun r e => by cases e; exact HG2.out))
          have RE := Lib.hid (R8.out.below (Below.refl w8.heap.size w8).drew)
          have QE := Lib.hid (Q8.out.below (Below.refl w8.heap.size w8).drew)
          have BE := Lib.hid B9.out.drew
          have XE := Lib.hid (next_len X6.out (n := N))
          obtain ⟨v, hv⟩ : ∃ v, (nextV s N).isNone = v := ⟨_, rfl⟩
          have hS2 : w8.drew.cell? ⟨g2, 1, none⟩ = some (.bool v) := by rw [← hv]; exact rbad_cell QE.out
          have hl1 := left_any w8.drew g1 _ RE.out
          have hl2 := rleft_rel w8.drew g2 _ QE.out
          have hb1 := bad_any w8.drew g1 _ RE.out
          rw [hv] at hb1
          generalize leftV (nextV s N) = lv at hl1 hl2
          have HL1 := Lib.hid hl1
          have HL2 := Lib.hid hl2
          have HB3 := Lib.hid hb1
          clear R8 Q8 R7 Q7 B6 G7 G8 B9 RD QD D1 hS hl1 hl2 hb1 X6'
          go_region_held (fun w' => w'.cell? ⟨g2, 1, none⟩ = some (.bool v)) (with_reducible assumption) (first
            | (refine HL1.out.mono ?_; rintro e w9 ⟨rfl, rfl⟩)
            | (refine HL2.out.mono ?_; rintro e w9 ⟨rfl, rfl⟩)
            | (refine HB3.out.mono ?_; rintro e w9 ⟨rfl, rfl⟩))
          all_goals (
            go_wp2_with fail
            go_roundw
            case rel => exact ⟨j + 1, nextV s N, by omega, by go_num, RE.out, QE.out, BE.out, XE.out⟩
            case measure => simp [intOf]; omega))
      · go_wp2_with fail
        have hS : wr.drew.cell? ⟨b, off + j * 2 + 1, none⟩ = some (.int .i64 N) := D1.out
        clear d0 d1 hk
        go_region_held (fun w' => w'.cell? ⟨b, off + j * 2 + 1, none⟩ = some (.int .i64 N)) (with_reducible assumption) (first
          | (go_at_call 6; refine (num_any wr.drew g1 s N RD.out).mono ?_; rintro e w7 ⟨rfl, hr7, hg7⟩; have R7 := Lib.hid hr7; have G7 := Lib.hid hg7; have Q7 := Lib.hid (QD.out.keep RD.out HNE.out hg7); have hS7 : w7.cell? ⟨b, off + j * 2 + 1, none⟩ = some (.int .i64 N) := hg7.cell (show wr.drew.cell? ⟨b, off + j * 2 + 1, none⟩ = some (.int .i64 N) from D1.out) HB1.out; clear hr7 hg7)
          | (go_at_call 7; refine (rnum_any w7 g2 s N Q7.out X6'.out).mono ?_; rintro e w8 ⟨rfl, hr8, hg8⟩; have Q8 := Lib.hid hr8; have R8 := Lib.hid (R7.out.keep Q7.out HNE.out hg8); have G8 := Lib.hid hg8; have hS8 : w8.cell? ⟨b, off + j * 2 + 1, none⟩ = some (.int .i64 N) := hg8.cell hS7 HB2.out; clear hr8 hg8))
        all_goals (
          go_wp2_with fail
          have B9 := Lib.hid ((B6.out.drew.grown G7.out (Nat.le_trans B6.out.size (Nat.le_refl _)) (fun r e => by cases e; exact HG1.out)).grown G8.out (Nat.le_trans B6.out.size G7.out.size) (fun r e => by cases e; exact HG2.out))
          have RE := Lib.hid (R8.out.below (Below.refl w8.heap.size w8).drew)
          have QE := Lib.hid (Q8.out.below (Below.refl w8.heap.size w8).drew)
          have BE := Lib.hid B9.out.drew
          have XE := Lib.hid (num_len X6.out (n := N))
          obtain ⟨v, hv⟩ : ∃ v, (numNext s N).isNone = v := ⟨_, rfl⟩
          have hS2 : w8.drew.cell? ⟨g2, 1, none⟩ = some (.bool v) := by rw [← hv]; exact rbad_cell QE.out
          have hl1 := left_any w8.drew g1 _ RE.out
          have hl2 := rleft_rel w8.drew g2 _ QE.out
          have hb1 := bad_any w8.drew g1 _ RE.out
          rw [hv] at hb1
          generalize leftV (numNext s N) = lv at hl1 hl2
          have HL1 := Lib.hid hl1
          have HL2 := Lib.hid hl2
          have HB3 := Lib.hid hb1
          clear R8 Q8 R7 Q7 B6 G7 G8 B9 RD QD D1 hS hl1 hl2 hb1 X6'
          go_region_held (fun w' => w'.cell? ⟨g2, 1, none⟩ = some (.bool v)) (with_reducible assumption) (first
            | (refine HL1.out.mono ?_; rintro e w9 ⟨rfl, rfl⟩)
            | (refine HL2.out.mono ?_; rintro e w9 ⟨rfl, rfl⟩)
            | (refine HB3.out.mono ?_; rintro e w9 ⟨rfl, rfl⟩))
          all_goals (
            go_wp2_with fail
            go_roundw
            case rel => exact ⟨j + 1, numNext s N, by omega, by go_num, RE.out, QE.out, BE.out, XE.out⟩
            case measure => simp [intOf]; omega))
    · obtain rfl : j = L := by omega
      go_wp2_with (first
        | (go_at_call 6; refine (num_nil _ 1 (by decide)).mono ?_; rintro e w' ⟨rfl, rfl⟩)
        | (go_at_call 8; refine (bytes_nil _ 0 (by omega)).mono ?_; rintro e w7 ⟨rfl, hb7⟩; have B7 := Lib.hid (B6.out.trans (hb7.mono B6.out.size)); clear hb7)
        | (go_at_call 10; refine (left_nil _).mono ?_; rintro e w' ⟨rfl, rfl⟩)
        | (go_at_call 12; refine (bad_nil _).mono ?_; rintro e w' ⟨rfl, rfl⟩))
      go_ret
      exact ⟨rfl, B7.out⟩
end Go.Proofs.Ythdiaedaalgpeaa
