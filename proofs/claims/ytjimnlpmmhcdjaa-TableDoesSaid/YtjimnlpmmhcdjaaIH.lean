/- TableExpires' walk. -/
import Derived.Test.YtjimnlpmmhcdjaaIG
namespace Go.Proofs.Ytjimnlpmmhcdjaa
open Go.RowKit Go.Maps Go.Sort
set_option linter.unusedVariables false
set_option linter.unusedSimpArgs false
set_option maxRecDepth 100000

theorem over_mem {L : List Dt} {now : Int} {x : Dt} (h : x ∈ overD now L) : x.u < now := by
  unfold overD at h
  simpa using (List.mem_filter.1 h).2
theorem left_mem {L : List Dt} {now : Int} {x : Dt} (h : x ∈ leftD now L) : ¬ x.u < now := by
  unfold leftD at h
  simpa using (List.mem_filter.1 h).2
theorem over_left (L : List Dt) (now : Int) : (overD now L).length + (leftD now L).length = L.length := (cut2 (fun y => decide (y.u < now)) L).symm
theorem getD_mem {l : List Dt} {n k : Nat} (hn : l.length = n) (hk : k < n) : l.getD k Dt.zero ∈ l := by
  have : k < l.length := by omega
  simp [List.getD, this]
set_option maxHeartbeats 16000000 in
theorem expires_walk (W : World) (x : Option Addr × List Dt × Nat) (hx : DtsArg W x) (now : Int) (hw : (Lit.int .i64 now).wf = true) :
    Calls Try.prog 4 #[.slice x.1 x.2.1.length x.2.2, .int .i64 now] W fun e W' => e = .returned (.bool true) ∧ Below W.heap.size W W' := by
  obtain ⟨p, l, c⟩ := x
  obtain ⟨hat, hle, hmx⟩ := hx
  dsimp only at hat hle hmx
  dsimp only
  obtain ⟨m, hm⟩ : ∃ m, l.length = m := ⟨_, rfl⟩
  rw [hm] at hle
  rw [hm]
  have HAT := Lib.hid hat
  have HM := Lib.hid hm
  unfold maxLen at hmx
  clear hat hm
  go_enter Try.func4, Try.ntmps4
  go_wp2_with fail
  refine (tbnew_any W).mono ?_
  rintro e W0 ⟨g, b, rfl, h1, h2, h3, h4⟩
  have H0 := Lib.hid (show TLv W W0 g b 0 [] from ⟨h2, h1, h4⟩)
  clear h1 h2 h3 h4
  go_wp2_with fail
  refine (lives23_any W0).mono ?_
  rintro e W1 ⟨rfl, hb⟩
  have H1 := Lib.hid (H0.out.next hb)
  clear hb H0
  by_cases hbig : 200 < m
  · have t0 : decide ((200 : Int) < (m : Int)) = true := decide_eq_true (by omega)
    go_wp2_with fail
    refine (lives23_any W1).mono ?_
    rintro e W2 ⟨rfl, hb⟩
    go_wp2_with fail
    go_ret
    exact ⟨rfl, (H1.out.next hb).bel⟩
  have t0 : decide ((200 : Int) < (m : Int)) = false := decide_eq_false (by omega)
  have hm2 : m ≤ 200 := by omega
  go_wp2_with fail
  go_loopw [6] (fun i wr => ∃ k : Nat, k ≤ m ∧ i = .int .i64 k ∧ ∃ nn L, nn ≤ k ∧ TLv W wr g b nn L) (fun i _ => m - (intOf i).toNat)
  case atStart => exact ⟨0, Nat.zero_le _, rfl, 0, [], Nat.le_refl _, H1.out⟩
  case round =>
    obtain ⟨k, hk, rfl, nn, L, hnn, hT⟩ := hrel
    have HT := Lib.hid hT
    have HNN := Lib.hid hnn
    clear hT hnn
    by_cases hlt : k < m
    · have hltI : (k : Int) < (m : Int) := by omega
      obtain ⟨r, off, rfl, e0, e1, e2, e3, e4⟩ := dt_cell (HAT.out.below HT.out.bel) HM.out hlt
      obtain ⟨y, hy⟩ : ∃ y, l.getD k Dt.zero = y := ⟨_, rfl⟩
      have HIN := Lib.hid (show InDt y from hy ▸ HAT.out.ok _ (getD_mem HM.out hlt))
      rw [hy] at e0 e1 e2 e3 e4
      clear hy
      obtain ⟨y0, ⟨y1, y2⟩, y3, y4⟩ := y
      dsimp only at e0 e1 e2 e3 e4
      have HS := Lib.hid (show Calls Try.prog 9 #[.pointer (some ⟨g, 0, none⟩), .agg #[.int .i64 y0, .int .u32 y1, .int .i64 y2, .int .i64 y3, .int .i64 y4]] wr _ from lsetB HT.out ⟨y0, ⟨y1, y2⟩, y3, y4⟩ HIN.out (by have := HNN.out; omega) rfl)
      go_wp2_with fail
      refine HS.out.mono ?_
      rintro e W2 ⟨rfl, n2, hn2, h2⟩
      go_wp2_with fail
      go_roundw
      case rel => exact ⟨k + 1, by omega, by go_num, n2, _, by have := HNN.out; omega, h2⟩
      case measure => simp [intOf]; omega
    · obtain rfl : k = m := by omega
      have HN9 := Lib.hid (show nn < 1000000 by have := HNN.out; omega)
      go_wp2_with fail
      refine (lall HT.out HN9.out).mono ?_
      rintro e W2 ⟨q2, c2, rfl, _, h2, _, hl2, hx2⟩
      have H2 := Lib.hid h2
      obtain ⟨z2, hz2⟩ : ∃ z, L.length = z := ⟨_, rfl⟩
      obtain ⟨z3, hz3⟩ : ∃ z, (overD now L).length = z := ⟨_, rfl⟩
      obtain ⟨z4, hz4⟩ : ∃ z, (leftD now L).length = z := ⟨_, rfl⟩
      have hsum : z3 + z4 = z2 := by rw [← hz2, ← hz3, ← hz4]; exact over_left L now
      rw [hz2] at hl2 ⊢
      have hzm : z2 ≤ 2 ^ 63 - 1 := Nat.le_trans hl2 hx2
      have HZ3 := Lib.hid hz3
      have HZ4 := Lib.hid hz4
      clear h2 hl2 hx2 hz2 hz3 hz4 HT
      go_wp2_with fail
      refine (lexp H2.out HN9.out now).mono ?_
      rintro e W3 ⟨q3, c3, rfl, hl3, h3, _, hc3, hx3⟩
      have HL3 := Lib.hid hl3
      have H3 := Lib.hid h3
      rw [HZ3.out] at hc3 ⊢
      clear hl3 h3 H2
      go_wp2_with fail
      refine (lall H3.out HN9.out).mono ?_
      rintro e W4 ⟨q4, c4, rfl, hl4, h4, hb4, hc4, hx4⟩
      have HL4 := Lib.hid hl4
      have HL3' := Lib.hid (HL3.out.next hb4)
      have H4 := Lib.hid h4
      rw [HZ4.out] at hc4 ⊢
      unfold maxLen at hx3 hx4
      have t5 : (((z3 : Int) + (z4 : Int)) == (z2 : Int)) = true := by simp; omega
      have t6 : decide ((z3 : Int) + (z4 : Int) = (z2 : Int)) = true := decide_eq_true (by omega)
      have t7 : (z3 : Int) + (z4 : Int) = (z2 : Int) := by omega
      clear hl4 h4 hb4 H3 HL3
      go_wp2_with fail
      go_loopw [10] (fun i wr => ∃ j : Nat, j ≤ z3 ∧ i = .int .i64 j ∧ Below W4.heap.size W4 wr) (fun i _ => z3 - (intOf i).toNat)
      case atStart => exact ⟨0, Nat.zero_le _, rfl, Below.refl _ _⟩
      case round =>
        obtain ⟨j, hj, rfl, hB⟩ := hrel
        have HB := Lib.hid hB
        clear hB
        by_cases hjl : j < z3
        · have hjI : (j : Int) < (z3 : Int) := by omega
          obtain ⟨r, off, rfl, e0, e1, e2, e3, e4⟩ := dt_cell (HL3'.out.at_.below HB.out) HZ3.out hjl
          have hu := over_mem (getD_mem HZ3.out hjl)
          have t8 : decide (now ≤ ((overD now L).getD j Dt.zero).u) = false := decide_eq_false (by omega)
          generalize ((overD now L).getD j Dt.zero) = y at e0 e1 e2 e3 e4 t8
          obtain ⟨y0, ⟨y1, y2⟩, y3, y4⟩ := y
          dsimp only at e0 e1 e2 e3 e4 t8
          clear hu
          go_wp2_with fail
          go_roundw
          case rel => exact ⟨j + 1, by omega, by go_num, HB.out⟩
          case measure => simp [intOf]; omega
        · obtain rfl : j = z3 := by omega
          go_wp2_with fail
          go_loopw [11] (fun i wr => ∃ j : Nat, j ≤ z4 ∧ i = .int .i64 j ∧ Below W4.heap.size W4 wr) (fun i _ => z4 - (intOf i).toNat)
          case atStart => exact ⟨0, Nat.zero_le _, rfl, HB.out⟩
          case round =>
            obtain ⟨i, hi, rfl, hB2⟩ := hrel
            have HB2 := Lib.hid hB2
            clear hB2
            by_cases hil : i < z4
            · have hiI : (i : Int) < (z4 : Int) := by omega
              obtain ⟨r, off, rfl, e0, e1, e2, e3, e4⟩ := dt_cell (HL4.out.at_.below HB2.out) HZ4.out hil
              have hu := left_mem (getD_mem HZ4.out hil)
              have t8 : decide (((leftD now L).getD i Dt.zero).u < now) = false := decide_eq_false hu
              generalize ((leftD now L).getD i Dt.zero) = y at e0 e1 e2 e3 e4 t8
              obtain ⟨y0, ⟨y1, y2⟩, y3, y4⟩ := y
              dsimp only at e0 e1 e2 e3 e4 t8
              clear hu
              go_wp2_with fail
              go_roundw
              case rel => exact ⟨i + 1, by omega, by go_num, HB2.out⟩
              case measure => simp [intOf]; omega
            · obtain rfl : i = z4 := by omega
              go_wp2_with fail
              go_ret
              exact ⟨rfl, (H4.out.next HB2.out).bel⟩
end Go.Proofs.Ytjimnlpmmhcdjaa
