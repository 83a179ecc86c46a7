/- attr: segments. -/
import Derived.Test.YtpeagakpmjnelaaDoorA4
import Derived.Test.YtpeagakpmjnelaaDoorGr
namespace Go.Proofs.YtpeagakpmjnelaaDoor.Ax
open Go.RowKit
set_option maxRecDepth 100000

def kindV (s : Seg) : Int := if s.set then 1 else 2
/-- A segment's bytes. -/
def segL (four : Bool) (s : Seg) : List Int := [kindV s, (s.nums.length : Int)] ++ numsL (wideA four) s.nums
def segsL (four : Bool) (l : List Seg) : List Int := l.flatMap (segL four)
theorem segL_len (four : Bool) (s : Seg) : (segL four s).length = 2 + wideA four * s.nums.length := by unfold segL; simp [numsL_len]; omega
theorem segsL_snoc (four : Bool) (l : List Seg) (k : Nat) (h : k < l.length) : segsL four (l.take (k + 1)) = segsL four (l.take k) ++ segL four (l.getD k Seg.none) := by
  unfold segsL
  rw [List.take_succ_eq_append_getElem h, List.flatMap_append]
  simp [List.getD, List.getElem?_eq_getElem h]
/-- What a segment may be. -/
structure SegOk (four : Bool) (s : Seg) : Prop where
  pos : 1 ≤ s.nums.length
  most : s.nums.length ≤ 64
  fit : FitAll (wideA four) s.nums
theorem any_false {α : Type} {f : α → Bool} {l : List α} (h : l.any f = false) {x : α} (hx : x ∈ l) : f x = false := by
  rcases hf : f x with _ | _
  · rfl
  · exact absurd (List.any_eq_true.2 ⟨x, hx, hf⟩) (by rw [h]; decide)
theorem getD_mem {α : Type} {l : List α} {i : Nat} (h : i < l.length) (d : α) : l.getD i d ∈ l := by
  simp [List.getD, List.getElem?_eq_getElem h]
theorem seg_ok {four : Bool} {s : Seg} (h : segOdd (mostA four) s = false) : SegOk four s := by
  unfold segOdd at h
  simp only [Bool.or_eq_false_iff, beq_eq_false_iff_ne, decide_eq_false_iff_not] at h
  obtain ⟨h1, h2, h3⟩ := h
  refine ⟨by omega, by omega, fun i hi => ?_⟩
  have := oddB_no (any_false h3 (getD_mem hi 0))
  cases four
  · exact fit_two this.1 this.2
  · exact fit_four this.1 this.2
theorem okPath_yes {l : List Seg} {four : Bool} (h : okPath l four = true) : l.length ≤ 8 ∧ ∀ i, i < l.length → SegOk four (l.getD i Seg.none) := by
  unfold okPath at h
  simp only [Bool.and_eq_true, decide_eq_true_eq, Bool.not_eq_true'] at h
  exact ⟨h.1, fun i hi => seg_ok (any_false h.2 (getD_mem hi _))⟩
theorem wideA_bd (four : Bool) : 1 ≤ wideA four ∧ wideA four ≤ 4 := by cases four <;> decide

def SegRel (w : World) (four : Bool) (n : Nat) (l : List Seg) (b i : Value) (wr : World) : Prop :=
  ∃ (k m : Nat) (p : Option Addr) (cap : Nat), k ≤ n ∧ i = .int .i64 k ∧ b = .slice p m cap ∧ (segsL four (l.take k)).length = m ∧ m ≤ 258 * k ∧ Own wr w.heap.size p cap (segsL four (l.take k)) ∧ Below w.heap.size w wr
set_option maxRecDepth 100000 in
set_option maxHeartbeats 4000000 in
theorem segments_any (p : Option Addr) (l : List Seg) (n c : Nat) (four : Bool) (w : World) (hx : SegsAt w p l) (hn : l.length = n) (hok : okPath l four = true) :
    Calls Tryd.prog 73 #[.slice p n c, .bool four] w fun e w' => RetB w w' (segsL four l) e := by
  have hok' := okPath_yes hok
  have h8 : n ≤ 8 := by rw [← hn]; exact hok'.1
  have HX := Lib.hid hx
  have HN := Lib.hid hn
  have HK := Lib.hid hok'.2
  clear hx hn hok hok'
  go_enter Tryd.func73, Tryd.ntmps73
  go_wp2
  go_loopw [5, 11] (fun b i wr => SegRel w four n l b i wr) (fun _ i _ => n - (intOf i).toNat)
  case atStart => exact ⟨0, 0, none, 0, Nat.zero_le _, rfl, rfl, rfl, by omega, Own.nil _ _, Below.refl _ _⟩
  case round =>
    obtain ⟨k, m, q, cap, hk, rfl, rfl, hm, hmb, hO, hB⟩ := hrel
    have HO := Lib.hid hO
    have HB := Lib.hid hB
    have HM := Lib.hid hm
    clear hO hB hm
    by_cases hlt : k < n
    · have hcell : ∃ b off, p = some ⟨b, off, none⟩ ∧ SegAt wr b (off + k * 2) (l.getD k Seg.none) := by
        rcases HX.out.below HB.out with h | ⟨b, off, hp, hc⟩
        · have := HN.out; rw [h] at this; simp at this; omega
        · exact ⟨b, off, hp, hc k (by rw [HN.out]; exact hlt)⟩
      obtain ⟨b, off, rfl, hc⟩ := hcell
      have hso := HK.out k (by rw [HN.out]; exact hlt)
      have HS := Lib.hid (segsL_snoc four l k (by rw [HN.out]; exact hlt))
      obtain ⟨s, hs⟩ : ∃ s, l.getD k Seg.none = s := ⟨_, rfl⟩
      rw [hs] at hc hso HS
      have HSV := Lib.hid hs
      clear hs
      obtain ⟨c0, qa, sm, cq, c1, hs1, hs2, hs3, hq⟩ := hc
      have hq0 : IntsAt w qa s.nums := by
        rcases HX.out with h | ⟨b', off', hp, hc'⟩
        · have := HN.out; rw [h] at this; simp at this; omega
        · obtain ⟨rfl, rfl⟩ : b = b' ∧ off = off' := by simpa using hp
          have hsw := hc' k (by rw [HN.out]; exact hlt)
          rw [HSV.out] at hsw
          obtain ⟨_, qa', sm', cq', c1', _, _, _, hq'⟩ := hsw
          have := (kept HB.out c1').symm.trans c1
          simp only [Option.some.injEq, Value.slice.injEq] at this
          obtain ⟨rfl, _⟩ := this
          exact hq'
      obtain ⟨set, nums⟩ := s
      simp only at c0 c1 hs1 hq0
      have h64 : sm ≤ 64 := by rw [← hs1]; exact hso.most
      have HFI := Lib.hid hso.fit
      have HS1 := Lib.hid hs1
      have HQ0 := Lib.hid hq0
      have hwb := wideA_bd four
      obtain ⟨wd, hwd⟩ : ∃ wd, wideA four = wd := ⟨_, rfl⟩
      rw [hwd] at hwb HFI
      have HWD := Lib.hid hwd
      have HWA := fun v : World => Lib.hid (show Calls Tryd.prog 90 #[.bool four] v fun e w' => e = .returned (.int .i64 (wd : Int)) ∧ v = w' from by rw [← HWD.out]; exact wide_as four v)
      have hws : wd * sm ≤ 256 := Nat.mul_le_mul hwb.2 h64
      clear hwd hs1 hs2 hs3 hq hq0 hso HSV
      cases set
      · have HSEG := Lib.hid (show segL four ⟨false, nums⟩ = [2, (sm : Int)] ++ numsL wd nums by unfold segL; rw [HWD.out]; simp only [HS1.out]; rfl)
        obtain ⟨W, hW⟩ : ∃ W, wr.alloc (.cells #[.bool false, .slice qa sm cq] 88) = W := ⟨_, rfl⟩
        have hnb : Below wr.heap.size wr W := by rw [← hW]; exact new_below _ _
        have HKB := Lib.hid (show Blk W wr.heap.size 88 [.bool false, .slice qa sm cq] by rw [← hW]; exact Blk.new _ _ [.bool false, .slice qa sm cq])
        have HOW := Lib.hid (HO.out.below hnb)
        have HBW := Lib.hid (HB.out.trans (hnb.mono HB.out.size))
        have HSZ := Lib.hid (show W.heap.size = wr.heap.size + 1 by rw [← hW]; simp)
        have HI := Lib.hid (show IntsAt (W.alloc (.cells #[.int .i64 2, .int .i64 (sm : Int)] 3)) (some ⟨wr.heap.size + 1, 0, none⟩) [2, (sm : Int)] from by rw [← HSZ.out]; exact ints2 W 2 (sm : Int))
        have HNI := Lib.hid (new_below W (.cells #[.int .i64 2, .int .i64 (sm : Int)] 3))
        have HW := Lib.hid hW
        clear hW hnb
        go_wp2_with fail
        rw [HW.out]
        (with_reducible refine (numbers_new 1 1 rfl _ [2, (sm : Int)] 2 2 2 _ (by omega) (by omega) HI.out rfl (by omega) rfl (fit2 (fit_byte (by omega) (by omega)) (fit_byte (by omega) (by omega)))).mono ?_); rintro e w1 ⟨q1, cap1, rfl, hO, hb⟩
        rw [nums1_two (by omega) (by omega)] at hO
        have HB1 := Lib.hid (HBW.out.trans ((HNI.out.trans (hb.mono HNI.out.size)).mono HBW.out.size))
        have HK1 := Lib.hid ((HKB.out.next HNI.out).next hb)
        have HO1 := Lib.hid ((HOW.out.below HNI.out).below hb)
        have HY1 := Lib.hid hO.bytes
        have hgs : wr.heap.size < w1.heap.size := HK1.out.lt
        clear hO hb HKB HOW HBW HI HNI c0 c1
        go_wp2_with (refine wpList_appo (o := ⟨some 24, _, _, _, _, _⟩) (by rfl) (.tmp 17) (.tmp 23) (by rfl) w.heap.size q cap (segsL four (l.take k)) HO1.out m HM.out (by rfl) q1 2 cap1 [2, (sm : Int)] HY1.out (by rfl) (by rfl) (m + 2) (by rfl) (by omega) HB1.out.size ?_; intro q3 cap3 w3 hO3 hB3 hG3; have HB3 := Lib.hid (HB1.out.trans hB3.out); have HK3 := Lib.hid (HK1.out.of_same (hG3.out.1.block _ hgs (fun e => by have := (HO.out.block_lt e.symm).2; omega))); have c1 : w3.drew.cell? ⟨wr.heap.size, 1, none⟩ = some (.slice qa sm cq) := HK3.out.cell 1 (by simp))
        have HNE := Lib.hid (show ∀ z, q3.map (·.block) = some z → z ≠ wr.heap.size from fun z hz => by
          rcases hG3.out.2 with rfl | rfl
          · have := (HO.out.block_lt hz).2; omega
          · simp at hz; omega)
        have HQ3 := Lib.hid (HQ0.out.below HB3.out.drew)
        have HO3 := Lib.hid hO3.out.drew
        have HBD := Lib.hid HB3.out.drew
        have HKD := Lib.hid HK3.out.drew
        clear hO3 hB3 hG3 HK1 HO1 HY1
        go_region_held_law (fun w' => w'.cell? ⟨wr.heap.size, 1, none⟩ = some (.slice qa sm cq)) (with_reducible assumption) (first
          | (go_at_call 90; (with_reducible refine (HWA _).out.mono ?_); rintro e w' ⟨rfl, rfl⟩)
          | (go_at_call 72; (with_reducible refine (numbers_new (wd : Int) wd rfl _ nums sm cq (wd * sm) _ hwb.1 hwb.2 HQ3.out HS1.out (by omega) rfl HFI.out).mono ?_); rintro e w4 ⟨q4, cap4, rfl, hO, hb⟩; have HO4 := Lib.hid (HO3.out.below hb); have HY4 := Lib.hid hO.bytes; have HB4 := Lib.hid (HBD.out.trans (hb.mono HBD.out.size)); have HK4 := Lib.hid (HKD.out.next hb); have c4 : w4.cell? ⟨wr.heap.size, 1, none⟩ = some (.slice qa sm cq) := HK4.out.cell 1 (by simp); clear hO hb)
          | (refine step_appo rfl (.tmp 25) (.tmp 30) rfl w.heap.size q3 cap3 (segsL four (l.take k) ++ [2, (sm : Int)]) HO4.out (m + 2) ?b1 rfl q4 (wd * sm) cap4 (numsL wd nums) HY4.out ?b2 rfl (m + 2 + wd * sm) rfl ?b3 HB4.out.size ?_; (case b1 => rw [List.length_append, HM.out]; rfl); (case b2 => rw [numsL_len, HS1.out]); (case b3 => omega); intro q5 cap5 w5 hO5 hB5 hG5; have HB5 := Lib.hid (HB4.out.trans hB5.out); have HK5 := Lib.hid (HK4.out.of_same (hG5.out.1.block _ HK4.out.lt (fun e => HNE.out _ e.symm rfl))); have c5 : w5.cell? ⟨wr.heap.size, 1, none⟩ = some (.slice qa sm cq) := HK5.out.cell 1 (by simp)))
        go_wp2_with fail
        go_roundw
        case rel => exact ⟨k + 1, m + 2 + wd * sm, q5, cap5, by omega, by go_num, rfl, by rw [HS.out, HSEG.out, List.length_append, HM.out, List.length_append, numsL_len, HS1.out]; simp only [List.length_cons, List.length_nil]; omega, by omega, by rw [HS.out, HSEG.out, ← List.append_assoc]; exact hO5.out, HB5.out⟩
        case measure => simp [intOf]; omega
      · have HSEG := Lib.hid (show segL four ⟨true, nums⟩ = [1, (sm : Int)] ++ numsL wd nums by unfold segL; rw [HWD.out]; simp only [HS1.out]; rfl)
        obtain ⟨W, hW⟩ : ∃ W, wr.alloc (.cells #[.bool true, .slice qa sm cq] 88) = W := ⟨_, rfl⟩
        have hnb : Below wr.heap.size wr W := by rw [← hW]; exact new_below _ _
        have HKB := Lib.hid (show Blk W wr.heap.size 88 [.bool true, .slice qa sm cq] by rw [← hW]; exact Blk.new _ _ [.bool true, .slice qa sm cq])
        have HOW := Lib.hid (HO.out.below hnb)
        have HBW := Lib.hid (HB.out.trans (hnb.mono HB.out.size))
        have HSZ := Lib.hid (show W.heap.size = wr.heap.size + 1 by rw [← hW]; simp)
        have HI := Lib.hid (show IntsAt (W.alloc (.cells #[.int .i64 1, .int .i64 (sm : Int)] 3)) (some ⟨wr.heap.size + 1, 0, none⟩) [1, (sm : Int)] from by rw [← HSZ.out]; exact ints2 W 1 (sm : Int))
        have HNI := Lib.hid (new_below W (.cells #[.int .i64 1, .int .i64 (sm : Int)] 3))
        have HW := Lib.hid hW
        clear hW hnb
        go_wp2_with fail
        rw [HW.out]
        (with_reducible refine (numbers_new 1 1 rfl _ [1, (sm : Int)] 2 2 2 _ (by omega) (by omega) HI.out rfl (by omega) rfl (fit2 (fit_byte (by omega) (by omega)) (fit_byte (by omega) (by omega)))).mono ?_); rintro e w1 ⟨q1, cap1, rfl, hO, hb⟩
        rw [nums1_two (by omega) (by omega)] at hO
        have HB1 := Lib.hid (HBW.out.trans ((HNI.out.trans (hb.mono HNI.out.size)).mono HBW.out.size))
        have HK1 := Lib.hid ((HKB.out.next HNI.out).next hb)
        have HO1 := Lib.hid ((HOW.out.below HNI.out).below hb)
        have HY1 := Lib.hid hO.bytes
        have hgs : wr.heap.size < w1.heap.size := HK1.out.lt
        clear hO hb HKB HOW HBW HI HNI c0 c1
        go_wp2_with (refine wpList_appo (o := ⟨some 24, _, _, _, _, _⟩) (by rfl) (.tmp 17) (.tmp 23) (by rfl) w.heap.size q cap (segsL four (l.take k)) HO1.out m HM.out (by rfl) q1 2 cap1 [1, (sm : Int)] HY1.out (by rfl) (by rfl) (m + 2) (by rfl) (by omega) HB1.out.size ?_; intro q3 cap3 w3 hO3 hB3 hG3; have HB3 := Lib.hid (HB1.out.trans hB3.out); have HK3 := Lib.hid (HK1.out.of_same (hG3.out.1.block _ hgs (fun e => by have := (HO.out.block_lt e.symm).2; omega))); have c1 : w3.drew.cell? ⟨wr.heap.size, 1, none⟩ = some (.slice qa sm cq) := HK3.out.cell 1 (by simp))
        have HNE := Lib.hid (show ∀ z, q3.map (·.block) = some z → z ≠ wr.heap.size from fun z hz => by
          rcases hG3.out.2 with rfl | rfl
          · have := (HO.out.block_lt hz).2; omega
          · simp at hz; omega)
        have HQ3 := Lib.hid (HQ0.out.below HB3.out.drew)
        have HO3 := Lib.hid hO3.out.drew
        have HBD := Lib.hid HB3.out.drew
        have HKD := Lib.hid HK3.out.drew
        clear hO3 hB3 hG3 HK1 HO1 HY1
        go_region_held_law (fun w' => w'.cell? ⟨wr.heap.size, 1, none⟩ = some (.slice qa sm cq)) (with_reducible assumption) (first
          | (go_at_call 90; (with_reducible refine (HWA _).out.mono ?_); rintro e w' ⟨rfl, rfl⟩)
          | (go_at_call 72; (with_reducible refine (numbers_new (wd : Int) wd rfl _ nums sm cq (wd * sm) _ hwb.1 hwb.2 HQ3.out HS1.out (by omega) rfl HFI.out).mono ?_); rintro e w4 ⟨q4, cap4, rfl, hO, hb⟩; have HO4 := Lib.hid (HO3.out.below hb); have HY4 := Lib.hid hO.bytes; have HB4 := Lib.hid (HBD.out.trans (hb.mono HBD.out.size)); have HK4 := Lib.hid (HKD.out.next hb); have c4 : w4.cell? ⟨wr.heap.size, 1, none⟩ = some (.slice qa sm cq) := HK4.out.cell 1 (by simp); clear hO hb)
          | (refine step_appo rfl (.tmp 25) (.tmp 30) rfl w.heap.size q3 cap3 (segsL four (l.take k) ++ [1, (sm : Int)]) HO4.out (m + 2) ?b1 rfl q4 (wd * sm) cap4 (numsL wd nums) HY4.out ?b2 rfl (m + 2 + wd * sm) rfl ?b3 HB4.out.size ?_; (case b1 => rw [List.length_append, HM.out]; rfl); (case b2 => rw [numsL_len, HS1.out]); (case b3 => omega); intro q5 cap5 w5 hO5 hB5 hG5; have HB5 := Lib.hid (HB4.out.trans hB5.out); have HK5 := Lib.hid (HK4.out.of_same (hG5.out.1.block _ HK4.out.lt (fun e => HNE.out _ e.symm rfl))); have c5 : w5.cell? ⟨wr.heap.size, 1, none⟩ = some (.slice qa sm cq) := HK5.out.cell 1 (by simp)))
        go_wp2_with fail
        go_roundw
        case rel => exact ⟨k + 1, m + 2 + wd * sm, q5, cap5, by omega, by go_num, rfl, by rw [HS.out, HSEG.out, List.length_append, HM.out, List.length_append, numsL_len, HS1.out]; simp only [List.length_cons, List.length_nil]; omega, by omega, by rw [HS.out, HSEG.out, ← List.append_assoc]; exact hO5.out, HB5.out⟩
        case measure => simp [intOf]; omega
    · obtain rfl : k = n := by omega
      go_wp2
      go_ret
      have hO := HO.out
      have hL := HM.out
      rw [List.take_of_length_le (by rw [HN.out]; exact Nat.le_refl _)] at hO hL
      exact ⟨q, cap, by rw [hL]; rfl, hO, HB.out⟩
end Go.Proofs.YtpeagakpmjnelaaDoor.Ax
