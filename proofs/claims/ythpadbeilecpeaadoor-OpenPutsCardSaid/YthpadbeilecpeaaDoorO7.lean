/- open: Get. -/
import Derived.Test.YthpadbeilecpeaaDoorO6
namespace Go.Proofs.YthpadbeilecpeaaDoor
open Go.RowKit

theorem inByte_take {xs : List Int} (h : InByte xs) (n : Nat) : InByte (xs.take n) := fun i hi => by
  rw [List.length_take] at hi
  have := h i (by omega)
  simpa [List.getD, List.getElem?_take_of_lt (show i < n by omega)] using this
theorem numV_bd {w : World} {g : Nat} {s : Option (List Int)} (h : RdAt w g s) : 0 ≤ numV s 4 ∧ numV s 4 < 4294967296 := by
  unfold numV
  split
  · rename_i hk
    simp only [Bool.and_eq_true] at hk
    have hl := outV_len hk.2
    have hb : InByte (outV s 4) := by
      unfold outV
      split
      · cases s with
        | none => intro i hi; simp at hi
        | some xs => exact inByte_take h.inb _
      · intro i hi; simp at hi
    have := getV_bd _ hb (outV s 4).length (Nat.le_refl _)
    rw [List.take_length, show (outV s 4).length = 4 from by omega] at this
    rw [show (256 : Int) ^ 4 = 4294967296 from rfl] at this
    exact this
  · omega
/-- The reader's states through the front of a body. -/
def st1 (xs : List Int) : Option (List Int) := numNext (some xs) 1
def st2 (xs : List Int) : Option (List Int) := numNext (st1 xs) 2
def st3 (xs : List Int) : Option (List Int) := numNext (st2 xs) 2
def st4 (xs : List Int) : Option (List Int) := numNext (st3 xs) 4
def st5 (xs : List Int) : Option (List Int) := numNext (st4 xs) 1
theorem next_some (xs : List Int) (I : Int) (n : Nat) (hI : I = n) (h1 : 1 ≤ n) (h4 : n ≤ 4) (hn : n ≤ xs.length) : numNext (some xs) I = some (xs.drop n) ∧ numV (some xs) I = getV (xs.take n) := by
  subst hI
  have hk : okTake (some xs) n = true := by simp [okTake]; omega
  have hw : wideB n = true := by simp [wideB]; omega
  exact ⟨by simp [numNext, hw, nextV, hk], by simp [numV, hw, hk, outV]⟩
theorem next_none (I : Int) : numNext none I = none := by simp [numNext, nextV, okTake]
theorem next_short (xs : List Int) (I : Int) (n : Nat) (hI : I = n) (hn : xs.length < n) : numNext (some xs) I = none := by
  subst hI
  have hk : okTake (some xs) n = false := by simp [okTake]; omega
  simp [numNext, nextV, hk]
theorem st5_none {xs : List Int} (h : xs.length < 10) : st5 xs = none := by
  unfold st5 st4 st3 st2 st1
  by_cases h1 : 1 ≤ xs.length
  · rw [(next_some xs 1 1 rfl (by omega) (by omega) h1).1]
    by_cases h2 : 3 ≤ xs.length
    · rw [(next_some (xs.drop 1) 2 2 rfl (by omega) (by omega) (by rw [List.length_drop]; omega)).1]
      by_cases h3 : 5 ≤ xs.length
      · rw [(next_some ((xs.drop 1).drop 2) 2 2 rfl (by omega) (by omega) (by rw [List.length_drop, List.length_drop]; omega)).1]
        by_cases h4 : 9 ≤ xs.length
        · rw [(next_some (((xs.drop 1).drop 2).drop 2) 4 4 rfl (by omega) (by omega) (by rw [List.length_drop, List.length_drop, List.length_drop]; omega)).1]
          exact next_short _ 1 1 rfl (by rw [List.length_drop, List.length_drop, List.length_drop, List.length_drop]; omega)
        · rw [next_short _ 4 4 rfl (by rw [List.length_drop, List.length_drop, List.length_drop]; omega), next_none]
      · rw [next_short _ 2 2 rfl (by rw [List.length_drop, List.length_drop]; omega), next_none, next_none]
    · rw [next_short _ 2 2 rfl (by rw [List.length_drop]; omega), next_none, next_none, next_none]
  · rw [next_short _ 1 1 rfl (by omega), next_none, next_none, next_none, next_none]
theorem long_vals {xs : List Int} (h : 10 ≤ xs.length) : st5 xs = some (xs.drop 10) ∧ numV (st4 xs) 1 = xs.getD 9 0 ∧ (⟨numV (st1 xs) 2, numV (st2 xs) 2, numV (st3 xs) 4, false, 0⟩ : Op) = beginO xs := by
  have a1 : st1 xs = some (xs.drop 1) := (next_some xs 1 1 rfl (by omega) (by omega) (by omega)).1
  have b2 := next_some (xs.drop 1) 2 2 rfl (by omega) (by omega) (by rw [List.length_drop]; omega)
  rw [List.drop_drop] at b2
  have a2 : st2 xs = some (xs.drop 3) := by unfold st2; rw [a1]; exact b2.1
  have b3 := next_some (xs.drop 3) 2 2 rfl (by omega) (by omega) (by rw [List.length_drop]; omega)
  rw [List.drop_drop] at b3
  have a3 : st3 xs = some (xs.drop 5) := by unfold st3; rw [a2]; exact b3.1
  have b4 := next_some (xs.drop 5) 4 4 rfl (by omega) (by omega) (by rw [List.length_drop]; omega)
  rw [List.drop_drop] at b4
  have a4 : st4 xs = some (xs.drop 9) := by unfold st4; rw [a3]; exact b4.1
  have b5 := next_some (xs.drop 9) 1 1 rfl (by omega) (by omega) (by rw [List.length_drop]; omega)
  rw [List.drop_drop] at b5
  refine ⟨by unfold st5; rw [a4]; exact b5.1, ?_, ?_⟩
  · rw [a4, b5.2]
    have : (xs.drop 9).take 1 = [xs.getD 9 0] := by
      rw [List.drop_eq_getElem_cons (show 9 < xs.length by omega), List.take_succ_cons, List.take_zero]
      simp [List.getD, List.getElem?_eq_getElem (show 9 < xs.length by omega)]
    rw [this]
    simp [getV]
  · rw [a1, a2, a3, b2.2, b3.2, b4.2]
    rfl

theorem gb_to_below {w w' : World} {B g : Nat} (h : w.grownBy w' (some g)) (hB : B ≤ w.heap.size) (hg : B ≤ g) : Below B w w' :=
  (Below.refl B w).grown h hB (fun q hq => by have := Option.some.inj hq; omega)

set_option maxHeartbeats 1000000 in
theorem get_first (p : Option Addr) (xs : List Int) (n c : Nat) (w : World) (hb : BytesAt w p xs) (hn : xs.length = n) (hf : firstB xs = true) :
    Calls Tryd.prog 9 #[.slice p n c] w fun e w' => AnsTo w w' e (wrongO 1 [0, 4]) := by
  have hO := Outs.new w
  obtain ⟨W, hW⟩ : ∃ W, (w.alloc (.cells #[.int .i64 0, .int .i64 0, .int .u32 0, .bool false, .int .i64 0] 24)).alloc (.cells #[.int .i64 0, .int .i64 0, .slice none 0 0] 37) = W := ⟨_, rfl⟩
  rw [hW] at hO
  have HO := Lib.hid hO
  have HW := Lib.hid hW
  have hf' := hf
  unfold firstB at hf'
  simp only [Bool.and_eq_true, decide_eq_true_eq, Bool.not_eq_true'] at hf'
  obtain ⟨hpos, hx⟩ := hf'
  obtain ⟨hin, hv⟩ := hb
  rcases hv with rfl | ⟨b, off, rfl, hc⟩
  · simp at hpos
  have hc0 := hc 0 hpos
  rw [Nat.add_zero] at hc0
  have h0 : W.cell? ⟨b, off, none⟩ = some (.int .u8 (xs.getD 0 0)) := kept hO.bel hc0
  obtain ⟨x0, hx0⟩ : ∃ x, xs.getD 0 0 = x := ⟨_, rfl⟩
  rw [hx0] at h0 hx
  have hx' : (x0 != 4) = true := by simpa using hx
  have hn0 : 0 < n := by omega
  have HLB := Lib.hid (show BytesAt (W.alloc (.cells #[.int .u8 0, .int .u8 4] 5)) (some ⟨w.heap.size + 2, 0, none⟩) [0, 4] by
    have hs : W.heap.size = w.heap.size + 2 := by rw [← hW]; simp
    rw [← hs]; exact (brow_new W [0, 4]).bytes (inByte_all (by decide)))
  have HNB := Lib.hid (new_below W (.cells #[.int .u8 0, .int .u8 4] 5))
  have HWR := Lib.hid (wrong_any 1 (some ⟨w.heap.size + 2, 0, none⟩) [0, 4] 2 2 _ HLB.out rfl (by omega))
  rw [← HW.out] at h0
  clear hO hW hf hin hc hc0 hx hx0 hpos hn
  go_enter Tryd.func9, Tryd.ntmps9
  go_wp2_with fail
  rw [HW.out]
  refine HWR.out.mono ?_; rintro e w1 ⟨p', cap', rfl, hOw, hb⟩
  have HOW := Lib.hid hOw
  have O1 := Lib.hid ((HO.out.next HNB.out).next hb)
  have HSZ := Lib.hid HNB.out.size
  clear hOw hb h0
  dsimp only [List.length_cons, List.length_nil]
  have o0 := O1.out.o.cell 0 (by simp)
  have fo0 := O1.out.o.f 0
  have o1 := O1.out.o.cell 1 (by simp)
  have fo1 := O1.out.o.f 1
  have o2 := O1.out.o.cell 2 (by simp)
  have fo2 := O1.out.o.f 2
  have o3 := O1.out.o.cell 3 (by simp)
  have fo3 := O1.out.o.f 3
  have o4 := O1.out.o.cell 4 (by simp)
  have fo4 := O1.out.o.f 4
  have n0 := O1.out.n.cell 0 (by simp)
  have fn0 := O1.out.n.f 0
  have n1 := O1.out.n.cell 1 (by simp)
  have fn1 := O1.out.n.f 1
  have n2 := O1.out.n.cell 2 (by simp)
  have fn2 := O1.out.n.f 2
  go_wp2_with fail
  exact bodyPost_ret (v := .tuple #[.agg #[.int .i64 0, .int .i64 0, .int .u32 0, .bool false, .int .i64 0], .agg #[.int .i64 2, .int .i64 1, .slice p' 2 cap']]) (by simp [results, Tryd.results9, go_sem, o0, o1, o2, o3, o4, n0, n1, n2]) rfl ⟨p', cap', rfl, ((HOW.out.set5 (by have := HO.out.sz; have := HSZ.out; omega) _ _ _ _ _).set3 (by have := HO.out.sz; have := HSZ.out; omega) _ _ _).mono (Nat.le_trans HO.out.bel.size HSZ.out), below_set3 (below_set5 O1.out.bel (Nat.le_refl _) _ _ _ _ _) (by omega) _ _ _⟩

set_option maxRecDepth 100000 in
set_option maxHeartbeats 4000000 in
theorem get_nil (p : Option Addr) (xs : List Int) (n c : Nat) (w : World) (hb : BytesAt w p xs) (hn : xs.length = n) (hl : n ≤ 140737488355328) (h0 : n = 0) :
    Calls Tryd.prog 9 #[.slice p n c] w fun e w' => AnsTo w w' e (wrongO 0 []) := by
  have hO := Outs.new w
  obtain ⟨W, hW⟩ : ∃ W, (w.alloc (.cells #[.int .i64 0, .int .i64 0, .int .u32 0, .bool false, .int .i64 0] 24)).alloc (.cells #[.int .i64 0, .int .i64 0, .slice none 0 0] 37) = W := ⟨_, rfl⟩
  rw [hW] at hO
  have HO := Lib.hid hO
  have HW := Lib.hid hW
  have HFR := Lib.hid (show Calls Tryd.prog 17 #[.slice p n c] W fun e w' => NewAt W w' e (fun g => RdAt w' g (some xs)) by subst hn; exact from_any p xs c W hl (hb.below hO.bel))
  clear hO hW hb
  subst h0
  go_enter Tryd.func9, Tryd.ntmps9
  go_wp2_with fail
  rw [HW.out]
  refine HFR.out.mono ?_; rintro e w1 ⟨gr, rfl, hnew, hrd, hbel⟩
  have T1 := Lib.hid (One.mk hrd hnew hbel)
  clear hrd hbel HFR
  have HN1 := Lib.hid (num_any w1 gr (some xs) 1 T1.out.rd)
  go_wp2_with fail
  refine HN1.out.mono ?_; rintro e w2 ⟨rfl, hr, hg⟩
  have T2 := Lib.hid (show One W w2 gr (st1 xs) from T1.out.read hr hg)
  have hH2 := Blk.new w2 50 (heardL ⟨0, 0, 0, false, 0⟩)
  have U2 := Lib.hid (show Two W (w2.alloc (.cells #[.int .i64 0, .int .i64 0, .int .u32 0, .bool false, .int .i64 0] 50)) w2.heap.size gr ⟨0, 0, 0, false, 0⟩ (st1 xs) from ⟨hH2, T2.out.rd.below (new_below _ _), by have := T2.out.rd.lt; omega, T2.out.new, gb_below (T2.out.bel.trans ((new_below _ _).mono T2.out.bel.size))⟩)
  have HG := Lib.hid T2.out.bel.size
  clear hr hg hH2 T1
  have HN2 := Lib.hid (num_any _ gr (st1 xs) 2 U2.out.rd)
  go_wp2_with fail
  refine HN2.out.mono ?_; rintro e w3 ⟨rfl, hr, hg⟩
  have U3 := Lib.hid (show Two W w3 w2.heap.size gr ⟨0, 0, 0, false, 0⟩ (st2 xs) from U2.out.read hr hg)
  clear hr hg HN2 U2
  obtain ⟨v1, hv1⟩ : ∃ v, numV (st1 xs) 2 = v := ⟨_, rfl⟩
  have HV1 := Lib.hid hv1
  rw [hv1]
  clear hv1
  have c0 := U3.out.hd.cell 0 (by simp [heardL])
  have f0 := U3.out.hd.f 0
  simp only [heardL, List.getD_cons_zero] at c0
  go_wp2_with fail
  have U3' := Lib.hid (show Two W (w3.setCell ⟨w2.heap.size, 0, none⟩ (.int .i64 v1)) w2.heap.size gr ⟨v1, 0, 0, false, 0⟩ (st2 xs) from U3.out.look (st' := ⟨v1, 0, 0, false, 0⟩) (U3.out.hd.set 0 _) (gb_set _ ⟨w2.heap.size, 0, none⟩ _))
  have HN3 := Lib.hid (num_any _ gr (st2 xs) 2 U3'.out.rd)
  clear c0 f0 U3
  refine HN3.out.mono ?_; rintro e w4 ⟨rfl, hr, hg⟩
  have U4 := Lib.hid (show Two W w4 w2.heap.size gr ⟨v1, 0, 0, false, 0⟩ (st3 xs) from U3'.out.read hr hg)
  clear hr hg HN3 U3'
  obtain ⟨v2, hv2⟩ : ∃ v, numV (st2 xs) 2 = v := ⟨_, rfl⟩
  have HV2 := Lib.hid hv2
  rw [hv2]
  clear hv2
  have c0 := U4.out.hd.cell 1 (by simp [heardL])
  have f0 := U4.out.hd.f 1
  simp only [heardL, List.getD_cons_zero, List.getD_cons_succ] at c0
  go_wp2_with fail
  have U4' := Lib.hid (show Two W (w4.setCell ⟨w2.heap.size, 1, none⟩ (.int .i64 v2)) w2.heap.size gr ⟨v1, v2, 0, false, 0⟩ (st3 xs) from U4.out.look (st' := ⟨v1, v2, 0, false, 0⟩) (U4.out.hd.set 1 _) (gb_set _ ⟨w2.heap.size, 1, none⟩ _))
  have HN4 := Lib.hid (num_any _ gr (st3 xs) 4 U4'.out.rd)
  have hvb := numV_bd U4'.out.rd
  clear c0 f0 U4
  refine HN4.out.mono ?_; rintro e w5 ⟨rfl, hr, hg⟩
  have U5 := Lib.hid (show Two W w5 w2.heap.size gr ⟨v1, v2, 0, false, 0⟩ (st4 xs) from U4'.out.read hr hg)
  clear hr hg HN4 U4'
  obtain ⟨v3, hv3⟩ : ∃ v, numV (st3 xs) 4 = v := ⟨_, rfl⟩
  have HV3 := Lib.hid hv3
  rw [hv3] at hvb ⊢
  clear hv3
  obtain ⟨hva, hvb⟩ := hvb
  have c0 := U5.out.hd.cell 2 (by simp [heardL])
  have f0 := U5.out.hd.f 2
  simp only [heardL, List.getD_cons_zero, List.getD_cons_succ] at c0
  go_wp2_with fail
  have U5' := Lib.hid (show Two W (w5.setCell ⟨w2.heap.size, 2, none⟩ (.int .u32 v3)) w2.heap.size gr ⟨v1, v2, v3, false, 0⟩ (st4 xs) from U5.out.look (st' := ⟨v1, v2, v3, false, 0⟩) (U5.out.hd.set 2 _) (gb_set _ ⟨w2.heap.size, 2, none⟩ _))
  have HN5 := Lib.hid (num_any _ gr (st4 xs) 1 U5'.out.rd)
  clear c0 f0 U5 hva hvb
  refine HN5.out.mono ?_; rintro e w6 ⟨rfl, hr, hg⟩
  have U6 := Lib.hid (show Two W w6 w2.heap.size gr ⟨v1, v2, v3, false, 0⟩ (st5 xs) from U5'.out.read hr hg)
  clear hr hg HN5 U5'
  obtain ⟨v4, hv4⟩ : ∃ v, numV (st4 xs) 1 = v := ⟨_, rfl⟩
  have HV4 := Lib.hid hv4
  rw [hv4]
  clear hv4
  have HB6 := Lib.hid (bad_any w6 gr _ U6.out.rd)
  go_wp2_with fail
  refine HB6.out.mono ?_; rintro e w7 ⟨rfl, rfl⟩
  rw [st5_none (by omega)]
  have O0 := Lib.hid (HO.out.next (gb_to_below U6.out.gb (Nat.le_refl _) HG.out))
  clear U6 HB6
  go_wp2_with fail
  refine (wrong_any 0 none [] 0 0 _ (BytesAt.nil _ _) rfl (by omega)).mono ?_; rintro e w9 ⟨p', cap', rfl, hOw, hb⟩
  have HOW := Lib.hid hOw
  have O1 := Lib.hid (O0.out.next hb)
  have HS0 := Lib.hid O0.out.sz
  clear hOw hb
  dsimp only [List.length_nil]
  have o0 := O1.out.o.cell 0 (by simp)
  have fo0 := O1.out.o.f 0
  have o1 := O1.out.o.cell 1 (by simp)
  have fo1 := O1.out.o.f 1
  have o2 := O1.out.o.cell 2 (by simp)
  have fo2 := O1.out.o.f 2
  have o3 := O1.out.o.cell 3 (by simp)
  have fo3 := O1.out.o.f 3
  have o4 := O1.out.o.cell 4 (by simp)
  have fo4 := O1.out.o.f 4
  have n0 := O1.out.n.cell 0 (by simp)
  have fn0 := O1.out.n.f 0
  have n1 := O1.out.n.cell 1 (by simp)
  have fn1 := O1.out.n.f 1
  have n2 := O1.out.n.cell 2 (by simp)
  have fn2 := O1.out.n.f 2
  go_wp2_with fail
  refine bodyPost_ret (v := .tuple #[.agg #[.int .i64 0, .int .i64 0, .int .u32 0, .bool false, .int .i64 0], .agg #[.int .i64 2, .int .i64 0, .slice p' 0 cap']]) (by simp [results, Tryd.results9, go_sem, o0, o1, o2, o3, o4, n0, n1, n2]) rfl ?_
  exact ⟨p', cap', rfl, ((HOW.out.set5 (by have := HS0.out; omega) _ _ _ _ _).set3 (by have := HS0.out; omega) _ _ _).mono (by have := HS0.out; omega), below_set3 (below_set5 O1.out.bel (Nat.le_refl _) _ _ _ _ _) (by omega) _ _ _⟩

set_option maxRecDepth 100000 in
set_option maxHeartbeats 4000000 in
theorem get_short (p : Option Addr) (xs : List Int) (n c : Nat) (w : World) (hb : BytesAt w p xs) (hn : xs.length = n) (hl : n ≤ 140737488355328) (h1 : 0 < n) (hx : xs.getD 0 0 = 4) (hs : n < 10) :
    Calls Tryd.prog 9 #[.slice p n c] w fun e w' => AnsTo w w' e (wrongO 0 []) := by
  have hO := Outs.new w
  obtain ⟨W, hW⟩ : ∃ W, (w.alloc (.cells #[.int .i64 0, .int .i64 0, .int .u32 0, .bool false, .int .i64 0] 24)).alloc (.cells #[.int .i64 0, .int .i64 0, .slice none 0 0] 37) = W := ⟨_, rfl⟩
  rw [hW] at hO
  have HO := Lib.hid hO
  have HW := Lib.hid hW
  have HFR := Lib.hid (show Calls Tryd.prog 17 #[.slice p n c] W fun e w' => NewAt W w' e (fun g => RdAt w' g (some xs)) by subst hn; exact from_any p xs c W hl (hb.below hO.bel))
  obtain ⟨hin, hv⟩ := hb
  rcases hv with rfl | ⟨b, off, rfl, hc⟩
  · simp at hn; omega
  have hc0 := hc 0 (by omega)
  rw [Nat.add_zero, hx] at hc0
  have h0 : W.cell? ⟨b, off, none⟩ = some (.int .u8 4) := kept hO.bel hc0
  rw [← HW.out] at h0
  clear hO hW hin hc hc0 hx
  go_enter Tryd.func9, Tryd.ntmps9
  go_wp2_with fail
  rw [HW.out]
  refine HFR.out.mono ?_; rintro e w1 ⟨gr, rfl, hnew, hrd, hbel⟩
  have T1 := Lib.hid (One.mk hrd hnew hbel)
  clear hrd hbel HFR h0
  have HN1 := Lib.hid (num_any w1 gr (some xs) 1 T1.out.rd)
  go_wp2_with fail
  refine HN1.out.mono ?_; rintro e w2 ⟨rfl, hr, hg⟩
  have T2 := Lib.hid (show One W w2 gr (st1 xs) from T1.out.read hr hg)
  have hH2 := Blk.new w2 50 (heardL ⟨0, 0, 0, false, 0⟩)
  have U2 := Lib.hid (show Two W (w2.alloc (.cells #[.int .i64 0, .int .i64 0, .int .u32 0, .bool false, .int .i64 0] 50)) w2.heap.size gr ⟨0, 0, 0, false, 0⟩ (st1 xs) from ⟨hH2, T2.out.rd.below (new_below _ _), by have := T2.out.rd.lt; omega, T2.out.new, gb_below (T2.out.bel.trans ((new_below _ _).mono T2.out.bel.size))⟩)
  have HG := Lib.hid T2.out.bel.size
  clear hr hg hH2 T1
  have HN2 := Lib.hid (num_any _ gr (st1 xs) 2 U2.out.rd)
  go_wp2_with fail
  refine HN2.out.mono ?_; rintro e w3 ⟨rfl, hr, hg⟩
  have U3 := Lib.hid (show Two W w3 w2.heap.size gr ⟨0, 0, 0, false, 0⟩ (st2 xs) from U2.out.read hr hg)
  clear hr hg HN2 U2
  obtain ⟨v1, hv1⟩ : ∃ v, numV (st1 xs) 2 = v := ⟨_, rfl⟩
  have HV1 := Lib.hid hv1
  rw [hv1]
  clear hv1
  have c0 := U3.out.hd.cell 0 (by simp [heardL])
  have f0 := U3.out.hd.f 0
  simp only [heardL, List.getD_cons_zero] at c0
  go_wp2_with fail
  have U3' := Lib.hid (show Two W (w3.setCell ⟨w2.heap.size, 0, none⟩ (.int .i64 v1)) w2.heap.size gr ⟨v1, 0, 0, false, 0⟩ (st2 xs) from U3.out.look (st' := ⟨v1, 0, 0, false, 0⟩) (U3.out.hd.set 0 _) (gb_set _ ⟨w2.heap.size, 0, none⟩ _))
  have HN3 := Lib.hid (num_any _ gr (st2 xs) 2 U3'.out.rd)
  clear c0 f0 U3
  refine HN3.out.mono ?_; rintro e w4 ⟨rfl, hr, hg⟩
  have U4 := Lib.hid (show Two W w4 w2.heap.size gr ⟨v1, 0, 0, false, 0⟩ (st3 xs) from U3'.out.read hr hg)
  clear hr hg HN3 U3'
  obtain ⟨v2, hv2⟩ : ∃ v, numV (st2 xs) 2 = v := ⟨_, rfl⟩
  have HV2 := Lib.hid hv2
  rw [hv2]
  clear hv2
  have c0 := U4.out.hd.cell 1 (by simp [heardL])
  have f0 := U4.out.hd.f 1
  simp only [heardL, List.getD_cons_zero, List.getD_cons_succ] at c0
  go_wp2_with fail
  have U4' := Lib.hid (show Two W (w4.setCell ⟨w2.heap.size, 1, none⟩ (.int .i64 v2)) w2.heap.size gr ⟨v1, v2, 0, false, 0⟩ (st3 xs) from U4.out.look (st' := ⟨v1, v2, 0, false, 0⟩) (U4.out.hd.set 1 _) (gb_set _ ⟨w2.heap.size, 1, none⟩ _))
  have HN4 := Lib.hid (num_any _ gr (st3 xs) 4 U4'.out.rd)
  have hvb := numV_bd U4'.out.rd
  clear c0 f0 U4
  refine HN4.out.mono ?_; rintro e w5 ⟨rfl, hr, hg⟩
  have U5 := Lib.hid (show Two W w5 w2.heap.size gr ⟨v1, v2, 0, false, 0⟩ (st4 xs) from U4'.out.read hr hg)
  clear hr hg HN4 U4'
  obtain ⟨v3, hv3⟩ : ∃ v, numV (st3 xs) 4 = v := ⟨_, rfl⟩
  have HV3 := Lib.hid hv3
  rw [hv3] at hvb ⊢
  clear hv3
  obtain ⟨hva, hvb⟩ := hvb
  have c0 := U5.out.hd.cell 2 (by simp [heardL])
  have f0 := U5.out.hd.f 2
  simp only [heardL, List.getD_cons_zero, List.getD_cons_succ] at c0
  go_wp2_with fail
  have U5' := Lib.hid (show Two W (w5.setCell ⟨w2.heap.size, 2, none⟩ (.int .u32 v3)) w2.heap.size gr ⟨v1, v2, v3, false, 0⟩ (st4 xs) from U5.out.look (st' := ⟨v1, v2, v3, false, 0⟩) (U5.out.hd.set 2 _) (gb_set _ ⟨w2.heap.size, 2, none⟩ _))
  have HN5 := Lib.hid (num_any _ gr (st4 xs) 1 U5'.out.rd)
  clear c0 f0 U5 hva hvb
  refine HN5.out.mono ?_; rintro e w6 ⟨rfl, hr, hg⟩
  have U6 := Lib.hid (show Two W w6 w2.heap.size gr ⟨v1, v2, v3, false, 0⟩ (st5 xs) from U5'.out.read hr hg)
  clear hr hg HN5 U5'
  obtain ⟨v4, hv4⟩ : ∃ v, numV (st4 xs) 1 = v := ⟨_, rfl⟩
  have HV4 := Lib.hid hv4
  rw [hv4]
  clear hv4
  have HB6 := Lib.hid (bad_any w6 gr _ U6.out.rd)
  go_wp2_with fail
  refine HB6.out.mono ?_; rintro e w7 ⟨rfl, rfl⟩
  rw [st5_none (by omega)]
  have O0 := Lib.hid (HO.out.next (gb_to_below U6.out.gb (Nat.le_refl _) HG.out))
  clear U6 HB6
  go_wp2_with fail
  refine (wrong_any 0 none [] 0 0 _ (BytesAt.nil _ _) rfl (by omega)).mono ?_; rintro e w9 ⟨p', cap', rfl, hOw, hb⟩
  have HOW := Lib.hid hOw
  have O1 := Lib.hid (O0.out.next hb)
  have HS0 := Lib.hid O0.out.sz
  clear hOw hb
  dsimp only [List.length_nil]
  have o0 := O1.out.o.cell 0 (by simp)
  have fo0 := O1.out.o.f 0
  have o1 := O1.out.o.cell 1 (by simp)
  have fo1 := O1.out.o.f 1
  have o2 := O1.out.o.cell 2 (by simp)
  have fo2 := O1.out.o.f 2
  have o3 := O1.out.o.cell 3 (by simp)
  have fo3 := O1.out.o.f 3
  have o4 := O1.out.o.cell 4 (by simp)
  have fo4 := O1.out.o.f 4
  have n0 := O1.out.n.cell 0 (by simp)
  have fn0 := O1.out.n.f 0
  have n1 := O1.out.n.cell 1 (by simp)
  have fn1 := O1.out.n.f 1
  have n2 := O1.out.n.cell 2 (by simp)
  have fn2 := O1.out.n.f 2
  go_wp2_with fail
  refine bodyPost_ret (v := .tuple #[.agg #[.int .i64 0, .int .i64 0, .int .u32 0, .bool false, .int .i64 0], .agg #[.int .i64 2, .int .i64 0, .slice p' 0 cap']]) (by simp [results, Tryd.results9, go_sem, o0, o1, o2, o3, o4, n0, n1, n2]) rfl ?_
  exact ⟨p', cap', rfl, ((HOW.out.set5 (by have := HS0.out; omega) _ _ _ _ _).set3 (by have := HS0.out; omega) _ _ _).mono (by have := HS0.out; omega), below_set3 (below_set5 O1.out.bel (Nat.le_refl _) _ _ _ _ _) (by omega) _ _ _⟩

theorem Outs.next' {w W W' W1 : World} (_ : Outs w W1) (hb : Below W.heap.size W W') (h : Outs w W) : Outs w W' := h.next hb
theorem eachV_fuel {σ : Type} (look : σ → Int → List Int → σ × Bool) : ∀ (st : σ) (xs : List Int) (f g : Nat), xs.length < f → xs.length < g → eachV look f st xs = eachV look g st xs := by
  intro st xs f
  induction f generalizing st xs with
  | zero => intro g h; omega
  | succ f ih =>
    intro g h1 h2
    obtain ⟨g, rfl⟩ : ∃ g', g = g' + 1 := ⟨g - 1, by omega⟩
    match xs, h1, h2 with
    | [], _, _ => rfl
    | [_], _, _ => rfl
    | k :: n :: rest, h1, h2 =>
      simp only [List.length_cons] at h1 h2
      simp only [eachV]
      split
      · split
        · exact ih _ _ g (by rw [List.length_drop]; omega) (by rw [List.length_drop]; omega)
        · rfl
      · rfl

set_option maxRecDepth 100000 in
set_option maxHeartbeats 4000000 in
theorem get_long (p : Option Addr) (xs : List Int) (n c : Nat) (w : World) (hb : BytesAt w p xs) (hn : xs.length = n) (hl : n ≤ 140737488355328) (hx : xs.getD 0 0 = 4) (hten : 10 ≤ n) :
    Calls Tryd.prog 9 #[.slice p n c] w fun e w' => AnsTo w w' e (if formB xs then restO xs else wrongO 0 []) := by
  have hO := Outs.new w
  obtain ⟨W, hW⟩ : ∃ W, (w.alloc (.cells #[.int .i64 0, .int .i64 0, .int .u32 0, .bool false, .int .i64 0] 24)).alloc (.cells #[.int .i64 0, .int .i64 0, .slice none 0 0] 37) = W := ⟨_, rfl⟩
  rw [hW] at hO
  have HO := Lib.hid hO
  have HW := Lib.hid hW
  have HFR := Lib.hid (show Calls Tryd.prog 17 #[.slice p n c] W fun e w' => NewAt W w' e (fun g => RdAt w' g (some xs)) by subst hn; exact from_any p xs c W hl (hb.below hO.bel))
  obtain ⟨hin, hv⟩ := hb
  rcases hv with rfl | ⟨b, off, rfl, hc⟩
  · simp at hn; omega
  have hc0 := hc 0 (by omega)
  rw [Nat.add_zero, hx] at hc0
  have h0 : W.cell? ⟨b, off, none⟩ = some (.int .u8 4) := kept hO.bel hc0
  rw [← HW.out] at h0
  clear hO hW hin hc hc0 hx
  obtain ⟨A, hA⟩ : ∃ A, (if formB xs then restO xs else wrongO 0 []) = A := ⟨_, rfl⟩
  rw [hA]
  have HA := Lib.hid hA
  clear hA
  go_enter Tryd.func9, Tryd.ntmps9
  go_wp2_with fail
  rw [HW.out]
  refine HFR.out.mono ?_; rintro e w1 ⟨gr, rfl, hnew, hrd, hbel⟩
  have T1 := Lib.hid (One.mk hrd hnew hbel)
  clear hrd hbel HFR h0
  have HN1 := Lib.hid (num_any w1 gr (some xs) 1 T1.out.rd)
  go_wp2_with fail
  refine HN1.out.mono ?_; rintro e w2 ⟨rfl, hr, hg⟩
  have T2 := Lib.hid (show One W w2 gr (st1 xs) from T1.out.read hr hg)
  have hH2 := Blk.new w2 50 (heardL ⟨0, 0, 0, false, 0⟩)
  have U2 := Lib.hid (show Two W (w2.alloc (.cells #[.int .i64 0, .int .i64 0, .int .u32 0, .bool false, .int .i64 0] 50)) w2.heap.size gr ⟨0, 0, 0, false, 0⟩ (st1 xs) from ⟨hH2, T2.out.rd.below (new_below _ _), by have := T2.out.rd.lt; omega, T2.out.new, gb_below (T2.out.bel.trans ((new_below _ _).mono T2.out.bel.size))⟩)
  have HG := Lib.hid T2.out.bel.size
  clear hr hg hH2 T1
  have HN2 := Lib.hid (num_any _ gr (st1 xs) 2 U2.out.rd)
  go_wp2_with fail
  refine HN2.out.mono ?_; rintro e w3 ⟨rfl, hr, hg⟩
  have U3 := Lib.hid (show Two W w3 w2.heap.size gr ⟨0, 0, 0, false, 0⟩ (st2 xs) from U2.out.read hr hg)
  clear hr hg HN2 U2
  obtain ⟨v1, hv1⟩ : ∃ v, numV (st1 xs) 2 = v := ⟨_, rfl⟩
  have HV1 := Lib.hid hv1
  rw [hv1]
  clear hv1
  have c0 := U3.out.hd.cell 0 (by simp [heardL])
  have f0 := U3.out.hd.f 0
  simp only [heardL, List.getD_cons_zero] at c0
  go_wp2_with fail
  have U3' := Lib.hid (show Two W (w3.setCell ⟨w2.heap.size, 0, none⟩ (.int .i64 v1)) w2.heap.size gr ⟨v1, 0, 0, false, 0⟩ (st2 xs) from U3.out.look (st' := ⟨v1, 0, 0, false, 0⟩) (U3.out.hd.set 0 _) (gb_set _ ⟨w2.heap.size, 0, none⟩ _))
  have HN3 := Lib.hid (num_any _ gr (st2 xs) 2 U3'.out.rd)
  clear c0 f0 U3
  refine HN3.out.mono ?_; rintro e w4 ⟨rfl, hr, hg⟩
  have U4 := Lib.hid (show Two W w4 w2.heap.size gr ⟨v1, 0, 0, false, 0⟩ (st3 xs) from U3'.out.read hr hg)
  clear hr hg HN3 U3'
  obtain ⟨v2, hv2⟩ : ∃ v, numV (st2 xs) 2 = v := ⟨_, rfl⟩
  have HV2 := Lib.hid hv2
  rw [hv2]
  clear hv2
  have c0 := U4.out.hd.cell 1 (by simp [heardL])
  have f0 := U4.out.hd.f 1
  simp only [heardL, List.getD_cons_zero, List.getD_cons_succ] at c0
  go_wp2_with fail
  have U4' := Lib.hid (show Two W (w4.setCell ⟨w2.heap.size, 1, none⟩ (.int .i64 v2)) w2.heap.size gr ⟨v1, v2, 0, false, 0⟩ (st3 xs) from U4.out.look (st' := ⟨v1, v2, 0, false, 0⟩) (U4.out.hd.set 1 _) (gb_set _ ⟨w2.heap.size, 1, none⟩ _))
  have HN4 := Lib.hid (num_any _ gr (st3 xs) 4 U4'.out.rd)
  have hvb := numV_bd U4'.out.rd
  clear c0 f0 U4
  refine HN4.out.mono ?_; rintro e w5 ⟨rfl, hr, hg⟩
  have U5 := Lib.hid (show Two W w5 w2.heap.size gr ⟨v1, v2, 0, false, 0⟩ (st4 xs) from U4'.out.read hr hg)
  clear hr hg HN4 U4'
  obtain ⟨v3, hv3⟩ : ∃ v, numV (st3 xs) 4 = v := ⟨_, rfl⟩
  have HV3 := Lib.hid hv3
  rw [hv3] at hvb ⊢
  clear hv3
  obtain ⟨hva, hvb⟩ := hvb
  have c0 := U5.out.hd.cell 2 (by simp [heardL])
  have f0 := U5.out.hd.f 2
  simp only [heardL, List.getD_cons_zero, List.getD_cons_succ] at c0
  go_wp2_with fail
  have U5' := Lib.hid (show Two W (w5.setCell ⟨w2.heap.size, 2, none⟩ (.int .u32 v3)) w2.heap.size gr ⟨v1, v2, v3, false, 0⟩ (st4 xs) from U5.out.look (st' := ⟨v1, v2, v3, false, 0⟩) (U5.out.hd.set 2 _) (gb_set _ ⟨w2.heap.size, 2, none⟩ _))
  have HN5 := Lib.hid (num_any _ gr (st4 xs) 1 U5'.out.rd)
  clear c0 f0 U5 hva hvb
  refine HN5.out.mono ?_; rintro e w6 ⟨rfl, hr, hg⟩
  have U6 := Lib.hid (show Two W w6 w2.heap.size gr ⟨v1, v2, v3, false, 0⟩ (st5 xs) from U5'.out.read hr hg)
  clear hr hg HN5 U5'
  obtain ⟨v4, hv4⟩ : ∃ v, numV (st4 xs) 1 = v := ⟨_, rfl⟩
  have HV4 := Lib.hid hv4
  rw [hv4]
  clear hv4
  have HB6 := Lib.hid (bad_any w6 gr _ U6.out.rd)
  go_wp2_with fail
  refine HB6.out.mono ?_; rintro e w7 ⟨rfl, rfl⟩
  obtain ⟨e5, e4, eb⟩ := long_vals (xs := xs) (by omega)
  rw [HV1.out, HV2.out, HV3.out] at eb
  rw [HV4.out] at e4
  rw [e5] at U6 HB6 ⊢
  have HLF := Lib.hid (left_any w6 gr _ U6.out.rd)
  have HLE := Lib.hid (show leftV (some (xs.drop 10)) = n - 10 by show (xs.drop 10).length = _; rw [List.length_drop]; omega)
  have HEB := Lib.hid eb
  have HE4 := Lib.hid e4
  have HN := Lib.hid hn
  clear e5 e4 eb hn HB6 HV1 HV2 HV3 HV4
  rw [show (some (List.drop 10 xs)).isNone = false from rfl]
  go_wp2_with fail
  refine HLF.out.mono ?_; rintro e w7 ⟨rfl, rfl⟩
  rw [HLE.out]
  by_cases hform : v4 = ((n - 10 : Nat) : Int)
  · subst hform
    have HFM := Lib.hid (show formB xs = true by unfold formB; rw [← HE4.out, HN.out, decide_eq_true hten, Bool.true_and, beq_iff_eq]; omega)
    go_wp2_with fail
    refine HLF.out.mono ?_; rintro e w7 ⟨rfl, rfl⟩
    rw [HLE.out]
    have HY := Lib.hid (bytes_ok ((n - 10 : Nat) : Int) (n - 10) rfl (by rw [List.length_drop]; have := HN.out; omega) U6.out.rd)
    clear HLF HLE
    go_wp2_with fail
    refine HY.out.mono ?_; rintro e w7 ⟨q, rfl, hrow, hin, hlen, hq1, hq2, hr, hg⟩
    have hdt : (List.drop 10 xs).take (n - 10) = xs.drop 10 := List.take_of_length_le (by rw [List.length_drop]; have := HN.out; omega)
    rw [hdt] at hrow hin hlen
    have U7 := Lib.hid (U6.out.read hr hg)
    have HP7 := Lib.hid (hrow.bytes hin)
    have HLN := Lib.hid hlen
    have HON := Lib.hid (only_any (some ⟨q, 0, none⟩) (xs.drop 10) (n - 10) (n - 10) w7 HP7.out hlen (by omega) (xs.length + 1) (by rw [List.length_drop]; omega))
    clear hrow hin hlen hq1 hq2 hr hg hdt HY U6 HE4
    go_wp2_with fail
    refine HON.out.mono ?_; rintro e w8 ⟨rfl, hb8⟩
    have U8 := Lib.hid (show Two W w8 w2.heap.size gr ⟨v1, v2, v3, false, 0⟩ _ from ⟨U7.out.hd.next hb8, U7.out.rd.below hb8, U7.out.ne, U7.out.new, gb_trans U7.out.gb (gb_below hb8)⟩)
    have HP8 := Lib.hid (HP7.out.below hb8)
    have O0 := Lib.hid (HO.out.next (gb_to_below U8.out.gb (Nat.le_refl _) HG.out))
    clear hb8 U7 HP7 HON
    have HRS := Lib.hid (show restO xs = if onlyV (xs.length + 1) (xs.drop 10) then (if (eachV paramV (xs.length + 1) (beginO xs) (xs.drop 10)).2 then toldV (eachV paramV (xs.length + 1) (beginO xs) (xs.drop 10)).1 else wrongO 0 []) else wrongO 4 [] from rfl)
    rcases hon : onlyV (xs.length + 1) (xs.drop 10) with _ | _
    · have HFIN := Lib.hid (show A = wrongO 4 [] by rw [← HA.out, if_pos HFM.out, HRS.out, hon]; rfl)
      clear hon HRS HFM HEB HN HLN U8 HP8
      go_wp2_with fail
      refine (wrong_any 4 none [] 0 0 w8 (BytesAt.nil _ _) rfl (by omega)).mono ?_; rintro e w9 ⟨p', cap', rfl, hOw, hb⟩
      have HOW := Lib.hid hOw
      have O1 := Lib.hid (O0.out.next hb)
      have HS0 := Lib.hid O0.out.sz
      clear hOw hb
      dsimp only [List.length_nil]
      have o0 := O1.out.o.cell 0 (by simp)
      have fo0 := O1.out.o.f 0
      have o1 := O1.out.o.cell 1 (by simp)
      have fo1 := O1.out.o.f 1
      have o2 := O1.out.o.cell 2 (by simp)
      have fo2 := O1.out.o.f 2
      have o3 := O1.out.o.cell 3 (by simp)
      have fo3 := O1.out.o.f 3
      have o4 := O1.out.o.cell 4 (by simp)
      have fo4 := O1.out.o.f 4
      have n0 := O1.out.n.cell 0 (by simp)
      have fn0 := O1.out.n.f 0
      have n1 := O1.out.n.cell 1 (by simp)
      have fn1 := O1.out.n.f 1
      have n2 := O1.out.n.cell 2 (by simp)
      have fn2 := O1.out.n.f 2
      go_wp2_with fail
      refine bodyPost_ret (v := .tuple #[.agg #[.int .i64 0, .int .i64 0, .int .u32 0, .bool false, .int .i64 0], .agg #[.int .i64 2, .int .i64 4, .slice p' 0 cap']]) (by simp [results, Tryd.results9, go_sem, o0, o1, o2, o3, o4, n0, n1, n2]) rfl ?_
      rw [HFIN.out]
      exact ⟨p', cap', rfl, ((HOW.out.set5 (by have := HS0.out; omega) _ _ _ _ _).set3 (by have := HS0.out; omega) _ _ _).mono (by have := HS0.out; omega), below_set3 (below_set5 O1.out.bel (Nat.le_refl _) _ _ _ _ _) (by omega) _ _ _⟩
    · have HEA := Lib.hid (each_params w2.heap.size (beginO xs) (some ⟨q, 0, none⟩) (xs.drop 10) (n - 10) (n - 10) w8 (by rw [← HEB.out]; exact U8.out.hd) HP8.out HLN.out (by omega))
      have HFU := Lib.hid (eachV_fuel paramV (beginO xs) (xs.drop 10) ((xs.drop 10).length + 1) (xs.length + 1) (Nat.lt_succ_self _) (by rw [List.length_drop]; omega))
      rw [HFU.out] at HEA
      rcases hea : eachV paramV (xs.length + 1) (beginO xs) (xs.drop 10) with ⟨stF, ok⟩
      rw [hea] at HEA
      have HFIN := Lib.hid (show A = if ok then toldV stF else wrongO 0 [] by rw [← HA.out, if_pos HFM.out, HRS.out, hon, hea]; exact if_pos rfl)
      clear hon hea HRS HFM HEB HN HLN HP8 HFU
      cases ok
      · have HFIN := Lib.hid (show A = wrongO 0 [] from HFIN.out)
        go_wp2_with fail
        refine HEA.out.mono ?_; rintro e w10 ⟨rfl, hh, hg⟩
        have O0 := Lib.hid (O0.out.next' (gb_to_below (gb_trans U8.out.gb hg) (Nat.le_refl _) HG.out) HO.out)
        clear hh hg
        go_wp2_with fail
        refine (wrong_any 0 none [] 0 0 w10 (BytesAt.nil _ _) rfl (by omega)).mono ?_; rintro e w9 ⟨p', cap', rfl, hOw, hb⟩
        have HOW := Lib.hid hOw
        have O1 := Lib.hid (O0.out.next hb)
        have HS0 := Lib.hid O0.out.sz
        clear hOw hb
        dsimp only [List.length_nil]
        have o0 := O1.out.o.cell 0 (by simp)
        have fo0 := O1.out.o.f 0
        have o1 := O1.out.o.cell 1 (by simp)
        have fo1 := O1.out.o.f 1
        have o2 := O1.out.o.cell 2 (by simp)
        have fo2 := O1.out.o.f 2
        have o3 := O1.out.o.cell 3 (by simp)
        have fo3 := O1.out.o.f 3
        have o4 := O1.out.o.cell 4 (by simp)
        have fo4 := O1.out.o.f 4
        have n0 := O1.out.n.cell 0 (by simp)
        have fn0 := O1.out.n.f 0
        have n1 := O1.out.n.cell 1 (by simp)
        have fn1 := O1.out.n.f 1
        have n2 := O1.out.n.cell 2 (by simp)
        have fn2 := O1.out.n.f 2
        go_wp2_with fail
        refine bodyPost_ret (v := .tuple #[.agg #[.int .i64 0, .int .i64 0, .int .u32 0, .bool false, .int .i64 0], .agg #[.int .i64 2, .int .i64 0, .slice p' 0 cap']]) (by simp [results, Tryd.results9, go_sem, o0, o1, o2, o3, o4, n0, n1, n2]) rfl ?_
        rw [HFIN.out]
        exact ⟨p', cap', rfl, ((HOW.out.set5 (by have := HS0.out; omega) _ _ _ _ _).set3 (by have := HS0.out; omega) _ _ _).mono (by have := HS0.out; omega), below_set3 (below_set5 O1.out.bel (Nat.le_refl _) _ _ _ _ _) (by omega) _ _ _⟩
      · have HFIN := Lib.hid (show A = toldV stF from HFIN.out)
        go_wp2_with fail
        refine HEA.out.mono ?_; rintro e w10 ⟨rfl, hh, hg⟩
        have O0 := Lib.hid (O0.out.next' (gb_to_below (gb_trans U8.out.gb hg) (Nat.le_refl _) HG.out) HO.out)
        have HTD := Lib.hid (told_any w2.heap.size stF w10 hh)
        clear hh hg
        obtain ⟨A', hA⟩ : ∃ A', toldV stF = A' := ⟨_, rfl⟩
        rw [hA] at HTD HFIN
        clear hA
        obtain ⟨⟨a1, a2, a3, a4, a5⟩, code, sub, data⟩ := A'
        go_wp2_with fail
        refine HTD.out.mono ?_; rintro e w9 ⟨p', cap', rfl, hOw, hb⟩
        have HOW := Lib.hid hOw
        have O1 := Lib.hid (O0.out.next hb)
        have HS0 := Lib.hid O0.out.sz
        clear hOw hb
        unfold Op.v
        dsimp only
        have o0 := O1.out.o.cell 0 (by simp)
        have fo0 := O1.out.o.f 0
        have o1 := O1.out.o.cell 1 (by simp)
        have fo1 := O1.out.o.f 1
        have o2 := O1.out.o.cell 2 (by simp)
        have fo2 := O1.out.o.f 2
        have o3 := O1.out.o.cell 3 (by simp)
        have fo3 := O1.out.o.f 3
        have o4 := O1.out.o.cell 4 (by simp)
        have fo4 := O1.out.o.f 4
        have n0 := O1.out.n.cell 0 (by simp)
        have fn0 := O1.out.n.f 0
        have n1 := O1.out.n.cell 1 (by simp)
        have fn1 := O1.out.n.f 1
        have n2 := O1.out.n.cell 2 (by simp)
        have fn2 := O1.out.n.f 2
        go_wp2_with fail
        refine bodyPost_ret (v := .tuple #[.agg #[.int .i64 a1, .int .i64 a2, .int .u32 a3, .bool a4, .int .i64 a5], .agg #[.int .i64 code, .int .i64 sub, .slice p' data.length cap']]) (by simp [results, Tryd.results9, go_sem, o0, o1, o2, o3, o4, n0, n1, n2]) rfl ?_
        rw [HFIN.out]
        exact ⟨p', cap', rfl, ((HOW.out.set5 (by have := HS0.out; omega) _ _ _ _ _).set3 (by have := HS0.out; omega) _ _ _).mono (by have := HS0.out; omega), below_set3 (below_set5 O1.out.bel (Nat.le_refl _) _ _ _ _ _) (by omega) _ _ _⟩
  · have HFM := Lib.hid (show formB xs = false by unfold formB; rw [← HE4.out, HN.out, decide_eq_true hten, Bool.true_and, beq_eq_false_iff_ne]; omega)
    have hne : (v4 != ((n - 10 : Nat) : Int)) = true := by simpa using hform
    have HFIN := Lib.hid (show A = wrongO 0 [] by rw [← HA.out, if_neg (by rw [HFM.out]; decide)])
    have O0 := Lib.hid (HO.out.next (gb_to_below U6.out.gb (Nat.le_refl _) HG.out))
    clear hform HFM HN HLF U6 HEB HE4
    go_wp2_with fail
    refine (wrong_any 0 none [] 0 0 w6 (BytesAt.nil _ _) rfl (by omega)).mono ?_; rintro e w9 ⟨p', cap', rfl, hOw, hb⟩
    have HOW := Lib.hid hOw
    have O1 := Lib.hid (O0.out.next hb)
    have HS0 := Lib.hid O0.out.sz
    clear hOw hb
    dsimp only [List.length_nil]
    have o0 := O1.out.o.cell 0 (by simp)
    have fo0 := O1.out.o.f 0
    have o1 := O1.out.o.cell 1 (by simp)
    have fo1 := O1.out.o.f 1
    have o2 := O1.out.o.cell 2 (by simp)
    have fo2 := O1.out.o.f 2
    have o3 := O1.out.o.cell 3 (by simp)
    have fo3 := O1.out.o.f 3
    have o4 := O1.out.o.cell 4 (by simp)
    have fo4 := O1.out.o.f 4
    have n0 := O1.out.n.cell 0 (by simp)
    have fn0 := O1.out.n.f 0
    have n1 := O1.out.n.cell 1 (by simp)
    have fn1 := O1.out.n.f 1
    have n2 := O1.out.n.cell 2 (by simp)
    have fn2 := O1.out.n.f 2
    go_wp2_with fail
    refine bodyPost_ret (v := .tuple #[.agg #[.int .i64 0, .int .i64 0, .int .u32 0, .bool false, .int .i64 0], .agg #[.int .i64 2, .int .i64 0, .slice p' 0 cap']]) (by simp [results, Tryd.results9, go_sem, o0, o1, o2, o3, o4, n0, n1, n2]) rfl ?_
    rw [HFIN.out]
    exact ⟨p', cap', rfl, ((HOW.out.set5 (by have := HS0.out; omega) _ _ _ _ _).set3 (by have := HS0.out; omega) _ _ _).mono (by have := HS0.out; omega), below_set3 (below_set5 O1.out.bel (Nat.le_refl _) _ _ _ _ _) (by omega) _ _ _⟩

theorem get_any (p : Option Addr) (xs : List Int) (n c : Nat) (w : World) (hb : BytesAt w p xs) (hn : xs.length = n) (hl : n ≤ 140737488355328) :
    Calls Tryd.prog 9 #[.slice p n c] w fun e w' => AnsTo w w' e (getO xs) := by
  unfold getO
  rcases hf : firstB xs with _ | _
  · rw [if_neg (by decide)]
    by_cases h0 : n = 0
    · rw [if_neg (by unfold formB; rw [decide_eq_false (by omega)]; simp)]
      exact get_nil p xs n c w hb hn hl h0
    · have hx : xs.getD 0 0 = 4 := by
        unfold firstB at hf
        rw [decide_eq_true (by omega), Bool.true_and] at hf
        simpa using hf
      by_cases hs : n < 10
      · rw [if_neg (by unfold formB; rw [decide_eq_false (by omega)]; simp)]
        exact get_short p xs n c w hb hn hl (by omega) hx hs
      · exact get_long p xs n c w hb hn hl hx (by omega)
  · rw [if_pos rfl]
    exact get_first p xs n c w hb hn hf
end Go.Proofs.YthpadbeilecpeaaDoor
