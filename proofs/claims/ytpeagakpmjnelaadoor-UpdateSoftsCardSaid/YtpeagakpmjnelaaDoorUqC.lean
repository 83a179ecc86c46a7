/- update: slices.Grow of no slice, slices.Concat of three lists of bytes. / update: slices.Concat of lists of bytes. / update: counted. -/
import Derived.Test.YtpeagakpmjnelaaDoorByA
import Derived.Laws.CopyOwn
import Derived.Test.YtpeagakpmjnelaaDoorUqB
namespace Go.Proofs.YtpeagakpmjnelaaDoor
open Go.RowKit
set_option linter.unusedVariables false
set_option linter.unusedSimpArgs false

theorem Own.none_of {w : World} {B : Nat} {p : Option Addr} {cap : Nat} {xs : List Int} (h : Own w B p cap xs) : Own w B p cap [] :=
  ⟨fun i hi => by simp at hi, Nat.zero_le _, h.max, h.val.imp id fun ⟨g, off, hp, hb, hlt, hc, ht⟩ => ⟨g, off, hp, hb, hlt, fun j hj => by simp at hj, ht⟩⟩
set_option maxRecDepth 100000 in
set_option maxHeartbeats 4000000 in
theorem grow_any (n : Nat) (hn : n ≤ 1000000) (w : World) :
    Calls Tryd.prog 58 #[.slice none 0 0, .int .i64 (n : Int)] w fun e w' => ∃ q cap, e = .returned (.slice q 0 cap) ∧ Own w' w.heap.size q cap [] ∧ Below w.heap.size w w' := by
  have n0 : (0 : Int) ≤ (n : Int) := by omega
  have n1 : IntKind.i64.wrap ((n : Int) - 0) = (n : Int) := by rw [IntKind.wrap_i64]; omega
  go_enter Tryd.func58, Tryd.ntmps58
  rcases Nat.eq_zero_or_pos n with rfl | hp
  · go_wp2_with fail
    go_ret
    exact ⟨none, 0, rfl, Own.nil _ _, Below.refl _ _⟩
  · have n2 : (0 : Int) < (n : Int) := by omega
    have n3 : decide ((0 : Int) < (n : Int)) = true := decide_eq_true n2
    have n4 : ¬ n = 0 := by omega
    have hby : Tryd.t5.bytes = 1 := rfl
    have n5 : ¬ 281474976710656 < Builtin.nextslicecap n 0 * Tryd.t5.bytes := by
      rw [hby]; unfold Builtin.nextslicecap; rw [if_pos (by omega)]; omega
    have n6 : (n : Int) * ((Tryd.t5.bytes : Nat) : Int) ≤ 281474976710656 := by rw [hby]; omega
    have n7 : (n : Int) ≤ 9223372036854775807 := by omega
    have hge : n ≤ (Question.appendCap n 0 5).cut (w.tape w.drawn (Question.appendCap n 0 5)) := grownCap_ge w n 0 5
    have hmx : (Question.appendCap n 0 5).cut (w.tape w.drawn (Question.appendCap n 0 5)) ≤ maxLen := grownCap_le_maxLen w n 0 5 (by unfold maxLen; omega)
    have HGE := Lib.hid hge
    have HMX := Lib.hid hmx
    clear hge hmx hby
    go_wp2_with fail
    have hge := HGE.out
    have hmx := HMX.out
    obtain ⟨C, hC⟩ : ∃ C, (Question.appendCap n 0 5).cut (w.tape w.drawn (Question.appendCap n 0 5)) = C := ⟨_, rfl⟩
    rw [hC] at hge hmx ⊢
    obtain ⟨arr, harr⟩ : ∃ arr, (Builtin.zeroCells #[Value.int .u8 0] n ++ Builtin.zeroCells #[Value.int .u8 0] (C - n)) = arr := ⟨_, rfl⟩
    have hsz : arr.size = C := by rw [← harr, Array.size_append, size_zeroCells, size_zeroCells]; simp; omega
    rw [harr]
    have hrow := World.rowIs_alloc w arr 5 (fun j => arr.getD j undef) (fun j hj => by simp [Array.getD, hj])
    rw [hsz] at hrow
    go_ret
    refine ⟨some ⟨w.heap.size, 0, none⟩, C, rfl, ⟨fun i hi => by simp at hi, Nat.zero_le _, hmx, .inr ⟨w.heap.size, 0, rfl, Nat.le_refl _, by simp, fun j hj => by simp at hj, fun j hj => ?_⟩⟩, ((Below.refl _ _).alloc (Nat.le_refl _) _).drew⟩
    rw [Nat.zero_add]
    have hc : (w.alloc (.cells arr 5)).cell? ⟨w.heap.size, j, none⟩ = some (arr.getD j undef) := hrow.cell (i := j) hj
    exact ⟨by rw [show (w.alloc (.cells arr 5)).drew.cell? ⟨w.heap.size, j, none⟩ = (w.alloc (.cells arr 5)).cell? ⟨w.heap.size, j, none⟩ from rfl, hc]; rfl, hrow.frozen j⟩
end Go.Proofs.YtpeagakpmjnelaaDoor
namespace Go.Proofs.YtpeagakpmjnelaaDoor
open Go.RowKit
set_option linter.unusedVariables false
set_option linter.unusedSimpArgs false

/-- Lists of bytes, one behind the other, as Concat's argument. -/
structure CatAt (w : World) (g : Nat) (ss : List (Option Addr × List Int × Nat)) : Prop where
  intro ::
  cell : ∀ i s, ss[i]? = some s → w.cell? ⟨g, i, none⟩ = some (.slice s.1 s.2.1.length s.2.2) ∧ BytesAt w s.1 s.2.1
def catL (ss : List (Option Addr × List Int × Nat)) : List Int := ss.flatMap (·.2.1)
theorem catL_snoc (ss : List (Option Addr × List Int × Nat)) (k : Nat) (s : Option Addr × List Int × Nat) (h : ss[k]? = some s) : catL (ss.take (k + 1)) = catL (ss.take k) ++ s.2.1 := by
  unfold catL
  rw [List.take_add_one, h]
  simp [List.flatMap_append]
theorem CatAt.below {w w' : World} {g : Nat} {ss : List (Option Addr × List Int × Nat)} (h : CatAt w g ss) (hb : Below w.heap.size w w') : CatAt w' g ss :=
  ⟨fun i s hs => ⟨kept hb (h.cell i s hs).1, (h.cell i s hs).2.below hb⟩⟩
theorem catL_le {ss : List (Option Addr × List Int × Nat)} (k : Nat) : (catL (ss.take k)).length ≤ (catL ss).length := by
  conv => rhs; rw [← List.take_append_drop k ss]
  unfold catL
  rw [List.flatMap_append, List.length_append]
  exact Nat.le_add_right _ _
set_option maxRecDepth 100000 in
set_option maxHeartbeats 8000000 in
theorem concat_any (ss : List (Option Addr × List Int × Nat)) (n c : Nat) (g : Nat) (w : World) (hs : CatAt w g ss) (hn : ss.length = n) (hn1 : n ≤ 100) (hl : (catL ss).length ≤ 1000000) :
    Calls Tryd.prog 29 #[.slice (some ⟨g, 0, none⟩) n c] w fun e w' => ∃ q cap, e = .returned (.slice q (catL ss).length cap) ∧ Own w' w.heap.size q cap (catL ss) ∧ Below w.heap.size w w' := by
  have HS := Lib.hid hs
  have HN := Lib.hid hn
  have HL := Lib.hid hl
  clear hs hn hl
  go_enter Tryd.func29, Tryd.ntmps29
  go_wp2_with fail
  go_loopw [3, 11] (fun s i wr => ∃ k : Nat, s = .int .i64 ((catL (ss.take k)).length : Nat) ∧ i = .int .i64 k ∧ k ≤ n ∧ wr = w) (fun _ i _ => n - (intOf i).toNat)
  case atStart => exact ⟨0, rfl, rfl, Nat.zero_le _, rfl⟩
  case round =>
    obtain ⟨k, rfl, rfl, hk, rfl⟩ := hrel
    by_cases hlt : k < n
    · have hlt' : (k : Int) < (n : Int) := by omega
      have k0 : (0 : Int) ≤ (k : Int) := by omega
      obtain ⟨s, hs⟩ : ∃ s, ss[k]? = some s := ⟨_, List.getElem?_eq_getElem (by rw [HN.out]; exact hlt)⟩
      have hc := (HS.out.cell k s hs).1
      have hsn := catL_snoc ss k s hs
      have hm : (catL (ss.take (k + 1))).length ≤ 1000000 := Nat.le_trans (catL_le _) HL.out
      have HSN := Lib.hid (show (catL (ss.take (k + 1))).length = (catL (ss.take k)).length + s.2.1.length by rw [hsn, List.length_append])
      obtain ⟨sp, sx, sc⟩ := s
      dsimp only at hc HSN
      obtain ⟨sl, hsl⟩ : ∃ sl, sx.length = sl := ⟨_, rfl⟩
      obtain ⟨m, hm1⟩ : ∃ m, (catL (ss.take k)).length = m := ⟨_, rfl⟩
      rw [hsl] at hc
      rw [hsl, hm1] at HSN
      rw [hm1]
      have e1 : IntKind.i64.wrap ((m : Int) + (sl : Int)) = (m : Int) + (sl : Int) := by have := HSN.out; rw [IntKind.wrap_i64]; omega
      have e2 : ¬ ((m : Int) + (sl : Int) < 0) := by omega
      clear hs hsn hm hsl hm1
      go_wp2_with fail
      go_roundw
      case rel => exact ⟨k + 1, by rw [HSN.out]; rfl, by first | rfl | go_num, by omega, by first | trivial | rfl⟩
      case measure => simp [intOf]; omega
    · obtain rfl : k = n := by omega
      rw [List.take_of_length_le (show ss.length ≤ k by rw [HN.out]; exact Nat.le_refl _)]
      obtain ⟨M, hM⟩ : ∃ M, (catL ss).length = M := ⟨_, rfl⟩
      rw [hM]
      have HG := Lib.hid (grow_any M (by have := HL.out; omega) wr)
      go_wp2_with fail
      refine HG.out.mono ?_
      rintro e w2 ⟨q2, c2, rfl, hO, hB⟩
      have HO := Lib.hid hO
      have HB := Lib.hid hB
      clear hO hB HG
      go_wp2_with fail
      obtain ⟨B0, hB0⟩ : ∃ B, wr.heap.size = B := ⟨_, rfl⟩
      rw [hB0] at HO HB
      have HB0 := Lib.hid hB0
      clear hB0
      obtain ⟨w0, hw0⟩ : ∃ w0, wr = w0 := ⟨_, rfl⟩
      have HS0 := Lib.hid (show ∀ U : World, Below B0 w0 U → CatAt U g ss from fun U hU => (show CatAt w0 g ss from hw0 ▸ HS.out).below (by rw [show w0.heap.size = B0 from by rw [← hw0]; exact HB0.out]; exact hU))
      have HSZ0 := Lib.hid (show w0.heap.size = B0 from by rw [← hw0]; exact HB0.out)
      go_loopw [6, 27] (fun s i W => ∃ (j : Nat) (q : Option Addr) (cap : Nat), s = .slice q (catL (ss.take j)).length cap ∧ i = .int .i64 j ∧ j ≤ k ∧ Own W B0 q cap (catL (ss.take j)) ∧ Below B0 w0 W) (fun _ i _ => k - (intOf i).toNat)
      case atStart => exact ⟨0, q2, c2, rfl, rfl, Nat.zero_le _, HO.out, hw0 ▸ HB.out⟩
      case round =>
        obtain ⟨j, q, cap, rfl, rfl, hj, hO, hB⟩ := hrel
        have HOj := Lib.hid hO
        have HBj := Lib.hid hB
        clear hO hB
        by_cases hlt : j < k
        · have hlt' : (j : Int) < (k : Int) := by omega
          have j0 : (0 : Int) ≤ (j : Int) := by omega
          obtain ⟨s, hs⟩ : ∃ s, ss[j]? = some s := ⟨_, List.getElem?_eq_getElem (by rw [HN.out]; exact hlt)⟩
          have hc := ((HS0.out wr HBj.out).cell j s hs).1
          have HQ := Lib.hid ((HS0.out wr HBj.out).cell j s hs).2
          have HSN := Lib.hid (catL_snoc ss j s hs)
          have HM := Lib.hid (show (catL (ss.take (j + 1))).length ≤ 1000000 from Nat.le_trans (catL_le _) HL.out)
          obtain ⟨sp, sx, sc⟩ := s
          dsimp only at hc HSN HQ
          obtain ⟨sl, hsl⟩ : ∃ sl, sx.length = sl := ⟨_, rfl⟩
          obtain ⟨m, hm1⟩ : ∃ m, (catL (ss.take j)).length = m := ⟨_, rfl⟩
          have HLN := Lib.hid (show (catL (ss.take (j + 1))).length = m + sl by rw [HSN.out, List.length_append, hsl, hm1])
          have HSL := Lib.hid hsl
          have HM1 := Lib.hid hm1
          rw [hsl] at hc
          rw [hm1]
          clear hs hsl hm1
          go_wp2_with (first
            | (refine wpList_appo rfl _ _ rfl B0 q cap _ HOj.out m HM1.out rfl sp sl sc sx HQ.out HSL.out rfl (m + sl) rfl (by have := HM.out; have := HLN.out; omega) (by have := HBj.out.size; have := HSZ0.out; omega) ?_; intro q5 c5 w5 h5 b5 _; have HB5 := Lib.hid (HBj.out.trans b5.out)))
          go_roundw
          case rel => exact ⟨j + 1, q5, c5, by rw [HLN.out], by first | rfl | go_num, by omega, by rw [HSN.out]; exact h5.out, HB5.out⟩
          case measure => simp [intOf]; omega
        · obtain rfl : j = k := by omega
          have HLL := Lib.hid (show catL (ss.take j) = catL ss by rw [List.take_of_length_le (show ss.length ≤ j by rw [HN.out]; exact Nat.le_refl _)])
          rw [HLL.out]
          go_wp2_with fail
          go_ret
          exact ⟨q, cap, rfl, by have := HOj.out; rw [HLL.out] at this; rw [HB0.out]; exact this, by rw [HB0.out, hw0]; exact HBj.out⟩
end Go.Proofs.YtpeagakpmjnelaaDoor
namespace Go.Proofs.YtpeagakpmjnelaaDoor
open Go.RowKit
set_option linter.unusedVariables false
set_option linter.unusedSimpArgs false

theorem fit_two {n : Int} (h0 : 0 ≤ n) (h1 : n ≤ 65535) : fitsB n (2 : Nat) = true := by
  have : (2 : Int) ^ (8 * 2) = 65536 := rfl
  simp [fitsB, this]; omega
theorem put_2o (x : Int) (w : World) (h0 : 0 ≤ x) (h1 : x ≤ 65535) :
    Calls Tryd.prog 56 #[.int .i64 x, .int .i64 2] w fun e w' => e = .returned (.tuple #[.slice (some ⟨w.heap.size, 0, none⟩) 2 2, .int .i64 0]) ∧ Own w' w.heap.size (some ⟨w.heap.size, 0, none⟩) 2 (putL x 2) ∧ Below w.heap.size w w' :=
  (put_fits x 2 w (by omega) (by omega) (fit_two h0 h1)).mono fun _ _ h => ⟨h.1, by
    have := Own.of_row h.2.1.list (putL_byte x 2) (by rw [putL_len]; unfold maxLen; omega) (Nat.le_refl w.heap.size)
    rw [putL_len] at this
    exact this, h.2.2⟩
/-- How many bytes, and these. -/
def cntL (xs : List Int) : List Int := putL (xs.length : Int) 2 ++ xs
theorem cntL_len (xs : List Int) : (cntL xs).length = 2 + xs.length := by unfold cntL; rw [List.length_append, putL_len]
set_option maxRecDepth 100000 in
set_option maxHeartbeats 4000000 in
theorem counted_any (q : Option Addr) (xs : List Int) (n c : Nat) (w : World) (hb : BytesAt w q xs) (hn : xs.length = n) (hl : n ≤ 65535) :
    Calls Tryd.prog 30 #[.slice q n c] w fun e w' => ∃ q' cap', e = .returned (.slice q' (2 + n) cap') ∧ Own w' w.heap.size q' cap' (cntL xs) ∧ Below w.heap.size w w' := by
  have HP := Lib.hid (put_2o (n : Int) w (by omega) (by omega))
  have HB := Lib.hid hb
  have HN := Lib.hid hn
  have HC := Lib.hid (show cntL xs = putL (n : Int) 2 ++ xs by unfold cntL; rw [hn])
  clear hb hn
  go_enter Tryd.func30, Tryd.ntmps30
  go_wp2_with fail
  refine HP.out.mono ?_
  rintro e w2 ⟨rfl, hO, hB⟩
  have HO := Lib.hid hO
  have HB2 := Lib.hid hB
  clear hO hB
  go_wp2_with (first
    | (refine wpList_appo rfl _ _ rfl w.heap.size _ 2 _ HO.out 2 (putL_len _ _) rfl q n c xs (HB.out.below HB2.out) HN.out rfl (2 + n) rfl (by omega) HB2.out.size ?_; intro q5 c5 w5 h5 b5 _))
  go_ret
  exact ⟨q5, c5, rfl, by rw [HC.out]; exact h5.out, HB2.out.trans b5.out⟩
end Go.Proofs.YtpeagakpmjnelaaDoor
