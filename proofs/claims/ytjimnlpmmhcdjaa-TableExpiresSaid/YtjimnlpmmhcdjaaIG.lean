/- TableFull's walk. -/
import Derived.Test.YtjimnlpmmhcdjaaIF
namespace Go.Proofs.Ytjimnlpmmhcdjaa
open Go.RowKit Go.Maps Go.Sort
set_option linter.unusedVariables false
set_option linter.unusedSimpArgs false
set_option maxRecDepth 100000

theorem lsetB {w W : World} {g b n : Nat} {L : List Dt} (H : TLv w W g b n L) (o : Dt) (ho : InDt o) (hn : n < 1000000) {r : Int} {L' : List Dt} (hr : setR o L = (r, L')) :
    Calls Try.prog 9 #[.pointer (some ⟨g, 0, none⟩), dtV o] W fun e W' => e = .returned (.int .i64 r) ∧ ∃ n', n' ≤ n + 1 ∧ TLv w W' g b n' L' := by
  have h := tbset_any W g b n L H.tab o ho hn
  rw [hr] at h
  refine h.mono ?_
  rintro e W' ⟨he, n', h1, h2, h3⟩
  exact ⟨he, n', h1, H.turn h3 h2⟩
theorem setR_first (k : Nat) (hk : 0 < k) : setR ⟨0, ⟨0, 16⟩, 0, 5⟩ (upto (min k 4096)) = (0, setD ⟨0, ⟨0, 16⟩, 0, 5⟩ (upto (min k 4096))) := by
  unfold setR
  rw [if_neg (by rw [show okP 0 16 = true from nth_ok 0 (by omega)]; simp), if_neg]
  rintro ⟨h, _⟩
  have h1 : (lookD (upto (min k 4096)) ⟨0, 16⟩).isSome = true := lookD_isSome.2 ⟨nth 0, by unfold upto; exact List.mem_map.2 ⟨0, List.mem_range.2 (by omega), rfl⟩, rfl⟩
  rw [show (⟨0, ⟨0, 16⟩, 0, 5⟩ : Dt).p = ⟨0, 16⟩ from rfl, h1] at h
  cases h
set_option maxHeartbeats 16000000 in
theorem full_walk (W : World) (n : Int) (hw : (Lit.int .i64 n).wf = true) :
    Calls Try.prog 5 #[.int .i64 n] W fun e W' => e = .returned (.bool true) ∧ Below W.heap.size W W' := by
  go_enter Try.func5, Try.ntmps5
  go_wp2_with fail
  refine (tbnew_any W).mono ?_
  rintro e W0 ⟨g, b, rfl, h1, h2, h3, h4⟩
  have H0 := Lib.hid (show TLv W W0 g b 0 [] from ⟨h2, h1, h4⟩)
  clear h1 h2 h3 h4
  go_wp2_with fail
  refine (lives23_any W0).mono ?_
  rintro e W1 ⟨rfl, hb⟩
  have H1 := Lib.hid (H0.out.next hb)
  clear hb H0
  have hn : (n < 0 ∧ decide (n < 0) = true) ∨ (decide (n < 0) = false ∧ decide (4200 < n) = true) ∨ (∃ m : Nat, n = (m : Int) ∧ m ≤ 4200 ∧ decide (n < 0) = false ∧ decide (4200 < n) = false) := by
    by_cases h0 : n < 0
    · exact .inl ⟨h0, decide_eq_true h0⟩
    · by_cases h1 : 4200 < n
      · exact .inr (.inl ⟨decide_eq_false h0, decide_eq_true h1⟩)
      · exact .inr (.inr ⟨n.toNat, by omega, by omega, decide_eq_false h0, decide_eq_false h1⟩)
  rcases hn with ⟨_, t0⟩ | ⟨t0, t1⟩ | ⟨m, rfl, hm, t0, t1⟩
  · go_wp2_with fail
    refine (lives23_any W1).mono ?_
    rintro e W2 ⟨rfl, hb⟩
    go_wp2_with fail
    go_ret
    exact ⟨rfl, (H1.out.next hb).bel⟩
  · go_wp2_with fail
    refine (lives23_any W1).mono ?_
    rintro e W2 ⟨rfl, hb⟩
    go_wp2_with fail
    go_ret
    exact ⟨rfl, (H1.out.next hb).bel⟩
  · have HM := Lib.hid hm
    go_wp2_with fail
    go_loopw [4] (fun i wr => ∃ k : Nat, k ≤ m ∧ i = .int .i64 k ∧ ∃ nn, nn ≤ k ∧ TLv W wr g b nn (upto (min k 4096))) (fun i _ => m - (intOf i).toNat)
    case atStart => exact ⟨0, Nat.zero_le _, rfl, 0, Nat.le_refl _, H1.out⟩
    case round =>
      obtain ⟨k, hk, rfl, nn, hnn, hT⟩ := hrel
      have HT := Lib.hid hT
      have HNN := Lib.hid hnn
      clear hT hnn
      by_cases hlt : k < m
      · have hltI : (k : Int) < (m : Int) := by omega
        have hk9 : k ≤ 4200 := by omega
        have u1 : IntKind.u32.wrap (k : Int) = (k : Int) := by rw [IntKind.wrap_u32]; omega
        have u2 : IntKind.u32.wrap ((k : Int) * 65536) = (k : Int) * 65536 := by rw [IntKind.wrap_u32]; omega
        have HSR := Lib.hid (setR_upto k hk9)
        have HIN := Lib.hid (nth_in k (by omega))
        by_cases hf : 4096 ≤ k
        · have t2 : decide ((4096 : Int) ≤ (k : Int)) = true := decide_eq_true (by omega)
          have hr := HSR.out
          rw [if_pos hf] at hr
          have HS := Lib.hid (show Calls Try.prog 9 #[.pointer (some ⟨g, 0, none⟩), .agg #[.int .i64 0, .int .u32 ((k : Int) * 65536), .int .i64 16, .int .i64 0, .int .i64 0]] wr _ from lsetB HT.out (nth k) HIN.out (by have := HNN.out; omega) hr)
          clear hr
          go_wp2_with fail
          refine HS.out.mono ?_
          rintro e W2 ⟨rfl, n2, hn2, h2⟩
          go_wp2_with fail
          go_roundw
          case rel => exact ⟨k + 1, by omega, by go_num, n2, by have := HNN.out; omega, h2⟩
          case measure => simp [intOf]; omega
        · have t2 : decide ((4096 : Int) ≤ (k : Int)) = false := decide_eq_false (by omega)
          have hr := HSR.out
          rw [if_neg hf] at hr
          have HS := Lib.hid (show Calls Try.prog 9 #[.pointer (some ⟨g, 0, none⟩), .agg #[.int .i64 0, .int .u32 ((k : Int) * 65536), .int .i64 16, .int .i64 0, .int .i64 0]] wr _ from lsetB HT.out (nth k) HIN.out (by have := HNN.out; omega) hr)
          clear hr
          go_wp2_with fail
          refine HS.out.mono ?_
          rintro e W2 ⟨rfl, n2, hn2, h2⟩
          go_wp2_with fail
          go_roundw
          case rel => exact ⟨k + 1, by omega, by go_num, n2, by have := HNN.out; omega, h2⟩
          case measure => simp [intOf]; omega
      · obtain rfl : k = m := by omega
        have HIN0 := Lib.hid (show InPf ⟨0, 0⟩ from ⟨by decide, by decide⟩)
        have hk0 : (((k : Int) == 0) = true ∧ decide ((k : Int) = 0) = true) ∨ (Hid (0 < k) ∧ ((k : Int) == 0) = false ∧ decide ((k : Int) = 0) = false) := by
          rcases Nat.eq_zero_or_pos k with h | h
          · exact .inl ⟨by simp; omega, decide_eq_true (by omega)⟩
          · exact .inr ⟨Lib.hid h, by simp; omega, decide_eq_false (by omega)⟩
        have HS0 := Lib.hid (fun u => show Calls Try.prog 9 #[.pointer none, .agg #[.int .i64 0, .int .u32 0, .int .i64 0, .int .i64 0, .int .i64 0]] u _ from tbset_nil u Dt.zero)
        have HD0 := Lib.hid (fun u => show Calls Try.prog 11 #[.pointer none, .agg #[.int .u32 0, .int .i64 0]] u _ from del_nilT u ⟨0, 0⟩ HIN0.out)
        go_wp2_with fail
        refine (show Calls Try.prog 17 #[.pointer none, .agg #[.int .u32 0, .int .i64 0]] wr fun e w' => e = .returned (.tuple #[.agg #[.int .i64 0, .int .u32 0, .int .i64 0, .int .i64 0, .int .i64 0], .bool false]) ∧ Below wr.heap.size wr w' from tbget_nil wr ⟨0, 0⟩ HIN0.out).mono ?_
        rintro e W2 ⟨rfl, hb⟩
        have hb2 := newB W2 (.cells #[.int .i64 0, .int .u32 0, .int .i64 0, .int .i64 0, .int .i64 0] 36)
        have H2 := Lib.hid (HT.out.next (hb.trans (hb2.mono hb.size)))
        clear hb hb2
        rcases hk0 with ⟨t3, t4⟩ | ⟨hpos, t3, t4⟩
        · have HB := Lib.hid H2.out.bel
          clear H2 HT
          go_wp2_with (first
            | (go_at_call 9; (with_reducible refine (HS0.out _).mono ?_); rintro e u ⟨rfl, hb⟩; have HB := Lib.hid (HB.out.trans (hb.mono HB.out.size)); clear hb)
            | (go_at_call 11; (with_reducible refine (HD0.out _).mono ?_); rintro e u ⟨rfl, hb⟩; have HB := Lib.hid (HB.out.trans (hb.mono HB.out.size)); clear hb)
            | (go_at_call 14; refine (expire_nilT _ _).mono ?_; rintro e u ⟨rfl, hb⟩; have HB := Lib.hid (HB.out.trans (hb.mono HB.out.size)); clear hb)
            | (go_at_call 16; refine (clear_nilT _).mono ?_; rintro e u ⟨rfl, hb⟩; have HB := Lib.hid (HB.out.trans (hb.mono HB.out.size)); clear hb)
            | (go_at_call 19; refine (all_nilT _).mono ?_; rintro e u ⟨rfl, hb⟩; have HB := Lib.hid (HB.out.trans (hb.mono HB.out.size)); clear hb)
            | (go_at_call 20; refine (tblen_nil _).mono ?_; rintro e u ⟨rfl, rfl⟩))
          go_ret
          exact ⟨ret_bool (by simp), HB.out⟩
        · have HS := Lib.hid (show Calls Try.prog 9 #[.pointer (some ⟨g, 0, none⟩), .agg #[.int .i64 0, .int .u32 0, .int .i64 16, .int .i64 0, .int .i64 5]] (W2.alloc (.cells #[.int .i64 0, .int .u32 0, .int .i64 0, .int .i64 0, .int .i64 0] 36)) _ from lsetB H2.out ⟨0, ⟨0, 16⟩, 0, 5⟩ (ten_in _ (by decide) (by decide)) (by have := HNN.out; omega) (setR_first k hpos.out))
          clear H2 HT
          go_wp2_with (first
            | (go_at_call 9; (with_reducible refine HS.out.mono ?_); rintro e u ⟨rfl, n9, hn9, h9⟩; have HB := Lib.hid h9.bel; clear h9)
            | (go_at_call 9; (with_reducible refine (HS0.out _).mono ?_); rintro e u ⟨rfl, hb⟩; have HB := Lib.hid (HB.out.trans (hb.mono HB.out.size)); clear hb)
            | (go_at_call 11; (with_reducible refine (HD0.out _).mono ?_); rintro e u ⟨rfl, hb⟩; have HB := Lib.hid (HB.out.trans (hb.mono HB.out.size)); clear hb)
            | (go_at_call 14; refine (expire_nilT _ _).mono ?_; rintro e u ⟨rfl, hb⟩; have HB := Lib.hid (HB.out.trans (hb.mono HB.out.size)); clear hb)
            | (go_at_call 16; refine (clear_nilT _).mono ?_; rintro e u ⟨rfl, hb⟩; have HB := Lib.hid (HB.out.trans (hb.mono HB.out.size)); clear hb)
            | (go_at_call 19; refine (all_nilT _).mono ?_; rintro e u ⟨rfl, hb⟩; have HB := Lib.hid (HB.out.trans (hb.mono HB.out.size)); clear hb)
            | (go_at_call 20; refine (tblen_nil _).mono ?_; rintro e u ⟨rfl, rfl⟩))
          go_ret
          exact ⟨ret_bool (by simp), HB.out⟩
end Go.Proofs.Ytjimnlpmmhcdjaa
