/- capa: CapaStays' walk. -/
import Derived.Test.YtlkpalaakncicaaXH
namespace Go.Proofs.Ytlkpalaakncicaa
open Go.RowKit Go.Maps
set_option linter.unusedVariables false
set_option linter.unusedSimpArgs false
set_option maxRecDepth 100000

def AllC2 (w w' : World) (l : List Ifc) (f : Int → Option Cy) (e : Ending) : Prop := ∃ q k cap ss, e = .returned (.slice q k cap) ∧ ss.length = k ∧ k ≤ cap ∧ l.Perm ss ∧ ss.Pairwise (fun x y : Ifc => x.id < y.id) ∧ CysAt w' q (ss.map (carryV f)) ∧ Below w.heap.size w w' ∧ ∀ b off, q = some ⟨b, off, none⟩ → w.heap.size ≤ b
set_option maxHeartbeats 8000000 in
theorem call2_any (w : World) (B c h b mb nn : Nat) (F : Nat → TrF) (l : List Ifc) (f : Int → Option Cy) (S : Nat → Sr) (H : CapAt w B c h b mb nn F l f S) (hok : okIfs l = true) (hin : ∀ x ∈ l, InIf x) (hf : FOk f) :
    Calls Try.prog 29 #[.pointer (some ⟨c, 0, none⟩)] w fun e w' => AllC2 w w' l f e := by
  have hlen : l.length ≤ 1000 := by have := ((okIfs_iff l).1 hok).1; omega
  have htab := H.tab
  have HK := Lib.hid H
  have HA := Lib.hid (all_ok w B h b F l H.hop hok hin hlen)
  have HIN := Lib.hid hin
  have HF := Lib.hid hf
  have HLE := Lib.hid hlen
  clear H hin hok hf hlen
  go_enter Try.func29, Try.ntmps29
  go_wp2_with fail
  refine (cclosed_any w c h htab).mono ?_
  rintro e w' ⟨rfl, rfl⟩
  go_wp2_with fail
  refine HA.out.mono ?_
  rintro e w1 ⟨q, k, cap, ss, rfl, hk, hperm, hsort, hat, hb⟩
  have HB := Lib.hid hb
  have HKL := Lib.hid hk
  have HPM := Lib.hid hperm
  have HST := Lib.hid hsort
  have HAT := Lib.hid hat
  have HK1 := Lib.hid (HK.out.below hb)
  clear hb hk hperm hsort hat htab HA
  go_wp2_with fail
  go_loopw [3, 14] (fun lv v wr => ∃ (j : Nat) (q2 : Option Addr) (cap2 : Nat), j ≤ k ∧ v = .int .i64 j ∧ lv = .slice q2 j cap2 ∧ CysOwn wr w1.heap.size q2 j cap2 ((ss.take j).map (carryV f)) ∧ Below w1.heap.size w1 wr) (fun _ v _ => k - (intOf v).toNat)
  case atStart => exact ⟨0, none, 0, Nat.zero_le _, rfl, rfl, LOwn.nil _ _ _ _ _ _, Below.refl _ _⟩
  case round =>
    obtain ⟨j, q2, cap2, hj, rfl, rfl, hown, hbr⟩ := hrel
    have HOWN := Lib.hid hown
    have HBR := Lib.hid hbr
    have HK2 := Lib.hid (HK1.out.below hbr)
    have HAT2 := Lib.hid (HAT.out.below hbr)
    have hcap := hown.cap_
    clear hown hbr
    by_cases hlt : j < k
    · have hlt' : (j : Int) < (k : Int) := by omega
      have j0 : (0 : Int) ≤ (j : Int) := by omega
      obtain ⟨b', off, rfl, c0, c1, c2, c3, c4⟩ := if_cell HAT2.out HKL.out hlt
      have hjl : j < ss.length := by rw [HKL.out]; exact hlt
      have hxin := HIN.out (ss.getD j Ifc.zero) (HPM.out.mem_iff.2 (by simp [List.getD, hjl]))
      have HTK := Lib.hid (show (ss.take (j + 1)).map (carryV f) = (ss.take j).map (carryV f) ++ [carryV f (ss.getD j Ifc.zero)] from by
        rw [List.take_add_one, List.map_append]
        simp [List.getD, hjl])
      obtain ⟨x, hx⟩ : ∃ x, ss.getD j Ifc.zero = x := ⟨_, rfl⟩
      rw [hx] at c0 c1 c2 c3 c4 hxin HTK
      have HRI := Lib.hid (carry_in HF.out hxin)
      obtain ⟨xi, xr, xa, xn, xc⟩ := x
      dsimp only at c0 c1 c2 c3 c4
      have hbu := newB wr (.cells #[.int .i64 xi, .int .i64 xr, .int .u32 xa, .int .i64 xn, .int .i64 xc] 34)
      have hbx := Blk.new wr 34 [.int .i64 xi, .int .i64 xr, .int .u32 xa, .int .i64 xn, .int .i64 xc]
      obtain ⟨y0, y1, y2, y3, y4⟩ := if_boxes hbx
      have hca := ccarry_any _ B c h b mb nn F l f S (HK2.out.below hbu) ⟨xi, xr, xa, xn, xc⟩ hxin
      obtain ⟨⟨r0, r1, r2⟩, hr⟩ : ∃ r, carryV f ⟨xi, xr, xa, xn, xc⟩ = r := ⟨_, rfl⟩
      rw [hr] at hca HTK HRI
      have HCA := Lib.hid (show Calls Try.prog 52 #[.pointer (some ⟨c, 0, none⟩), .agg #[.int .i64 xi, .int .i64 xr, .int .u32 xa, .int .i64 xn, .int .i64 xc]] (wr.alloc (.cells #[.int .i64 xi, .int .i64 xr, .int .u32 xa, .int .i64 xn, .int .i64 xc] 34)) fun e w' => e = .returned (.agg #[.int .i64 r0, .int .i64 r1, .bool r2]) ∧ Below (wr.alloc (.cells #[.int .i64 xi, .int .i64 xr, .int .u32 xa, .int .i64 xn, .int .i64 xc] 34)).heap.size (wr.alloc (.cells #[.int .i64 xi, .int .i64 xr, .int .u32 xa, .int .i64 xn, .int .i64 xc] 34)) w' from hca)
      have HBU := Lib.hid hbu
      clear hx hxin hbu hbx hca hr
      go_wp2_with fail
      refine HCA.out.mono ?_
      rintro e U1 ⟨rfl, hb⟩
      have hb1 := HBU.out.trans (hb.mono HBU.out.size)
      have hb2 := newB U1 (.cells #[.int .i64 r0, .int .i64 r1, .bool r2] 67)
      have hb3 := hb1.trans (hb2.mono hb1.size)
      have hlit := LOwn.lit rowCy U1 w1.heap.size [(⟨r0, r1, r2⟩ : Cy)] (fun y hy => by simp at hy; rw [hy]; exact HRI.out) (Nat.le_trans HBR.out.size hb1.size) (by unfold maxLen; simp)
      have LIT := Lib.hid (show CysAt (U1.alloc (.cells #[.int .i64 r0, .int .i64 r1, .bool r2] 67)) (some ⟨U1.heap.size, 0, none⟩) [⟨r0, r1, r2⟩] from hlit.at rowCy)
      have OW := Lib.hid (HOWN.out.below hb3)
      have HB3 := Lib.hid (HBR.out.trans (hb3.mono HBR.out.size))
      have HSZ := Lib.hid (show w1.heap.size ≤ (U1.alloc (.cells #[.int .i64 r0, .int .i64 r1, .bool r2] 67)).heap.size from Nat.le_trans HBR.out.size hb3.size)
      clear hb hb1 hb2 hb3 hlit c0 c1 c2 c3 c4 y0 y1 y2 y3 y4
      have hkk : k ≤ 1000 := by have := HKL.out; have := HPM.out.length_eq; have := HLE.out; omega
      go_wp2_with (refine wpList_appL (o := ⟨some 23, _, _, _, _, _⟩) rowCy (by kernel_rfl) (.tmp 18) (.tmp 22) rfl w1.heap.size q2 j cap2 _ OW.out rfl (some ⟨U1.heap.size, 0, none⟩) 1 1 [⟨r0, r1, r2⟩] LIT.out rfl rfl (j + 1) rfl (by omega) HSZ.out ?_; intro q3 cap3 w3 hO3 hB3)
      go_roundw
      case rel => exact ⟨j + 1, q3, cap3, by omega, by go_num, rfl, by rw [HTK.out]; exact hO3.out, HB3.out.trans hB3.out⟩
      case measure => simp [intOf]; omega
    · obtain rfl : j = k := by omega
      go_wp2_with fail
      go_ret
      have ho := HOWN.out
      rw [List.take_of_length_le (by rw [HKL.out]; exact Nat.le_refl _)] at ho
      exact ⟨q2, j, cap2, ss, rfl, HKL.out, hcap.1, HPM.out, HST.out, ho.at rowCy, HB.out.trans (HBR.out.mono HB.out.size), fun b off e => Nat.le_trans HB.out.size (ho.lo b off e)⟩
theorem fok_set {f : Int → Option Cy} (hf : FOk f) : ∀ (L : List Cy), (∀ y ∈ L, InCy y) → FOk (setC f L) := by
  intro L
  induction L generalizing f with
  | nil => intro _; exact hf
  | cons y t ih =>
    intro hL
    refine ih (f := putF f y.i y) (fun i z hz => ?_) (fun z hz => hL z (List.mem_cons_of_mem _ hz))
    unfold putF at hz
    split at hz
    · rename_i e; cases hz; exact ⟨e.symm, hL y List.mem_cons_self⟩
    · exact hf i z hz
theorem fok_take {l : List Ifc} {S : Nat → Sr} {f : Int → Option Cy} (hf : FOk f) (src seq : Int) (L : List Cy) (now : Int) (hL : ∀ y ∈ L, InCy y) : FOk (takeF l S f src seq L now) := by
  unfold takeF
  split
  · exact fok_set hf L hL
  · exact hf
theorem set_other {f : Int → Option Cy} : ∀ (L : List Cy) (i : Int), L.any (fun y => y.i == i) = false → setC f L i = f i := by
  intro L
  induction L generalizing f with
  | nil => intro i _; rfl
  | cons y t ih =>
    intro i h
    rw [List.any_cons, Bool.or_eq_false_iff] at h
    show setC (putF f y.i y) t i = f i
    rw [ih i h.2]
    unfold putF
    rw [if_neg]
    intro e
    have := h.1
    rw [e] at this
    simp at this
/-- What is not told of stays. -/
theorem stays_fact {l : List Ifc} {S : Nat → Sr} {f : Int → Option Cy} (src seq : Int) (L : List Cy) (now : Int) (x : Ifc) (h : takeE l S src seq L now ≠ 0 ∨ L.any (fun y => y.i == x.id) = false) : carryV (takeF l S f src seq L now) x = carryV f x := by
  unfold carryV takeF
  split
  · rename_i h0
    rcases h with h | h
    · exact absurd h0 h
    · rw [set_other L x.id h]
  · rfl
theorem carry_id {f : Int → Option Cy} (hf : FOk f) (x : Ifc) : (carryV f x).i = x.id := by
  unfold carryV
  rcases h : f x.id with _ | y
  · rfl
  · exact (hf _ _ h).1
theorem LSl.lem {w W : World} {l : List Ifc} {c h b mb N : Nat} {F : Nat → TrF} {f : Int → Option Cy} {S : Nat → Sr} (H : LSl w W l c h b mb N F f S) : w.heap.size ≤ mb := by
  obtain ⟨⟨nn, h1, h2⟩, h3⟩ := H
  exact h2.bm
theorem LSl.ltm {w W : World} {l : List Ifc} {c h b mb N : Nat} {F : Nat → TrF} {f : Int → Option Cy} {S : Nat → Sr} (H : LSl w W l c h b mb N F f S) : mb < W.heap.size := by
  obtain ⟨⟨nn, h1, h2⟩, h3⟩ := H
  obtain ⟨s, hm⟩ := h2.map
  exact hm.lt
theorem LSl.all2 {w W : World} {l : List Ifc} {c h b mb N : Nat} {F : Nat → TrF} {f : Int → Option Cy} {S : Nat → Sr} (H : LSl w W l c h b mb N F f S) (hok : okIfs l = true) (hin : ∀ x ∈ l, InIf x) (hf : FOk f) :
    Calls Try.prog 29 #[.pointer (some ⟨c, 0, none⟩)] W fun e w' => AllC2 W w' l f e := by
  obtain ⟨⟨nn, h1, h2⟩, h3⟩ := H
  exact call2_any W _ c h b mb nn F _ f S h2 hok hin hf
theorem fok_none : FOk (fun _ => none) := fun i y h => by cases h
set_option maxHeartbeats 16000000 in
theorem stays_walk (w : World) (p : Option Addr) (l : List Ifc) (n c' : Nat) (hl : IfsAt w p l) (hn : l.length = n) (hm : n ≤ maxLen) (q : Option Addr) (os : List Ot) (m d : Nat) (ho : LAt otC (fun _ => True) Ot.zero 4 w q os) (hoo : ∀ o ∈ os, OtAt w o) (hmo : os.length = m) (hmm : m ≤ maxLen) (o : Ot) (hO : OtAt w o) :
    Calls Try.prog 5 #[.slice p n c', .slice q m d, .agg #[.int .i64 o.src, .int .i64 o.seq, .slice o.p o.L.length o.cap, .int .i64 o.now]] w fun e w' => e = .returned (.bool true) ∧ Below w.heap.size w w' := by
  obtain ⟨os_, oq, op, oL, oc, onow⟩ := o
  obtain ⟨oN, hoN⟩ : ∃ N, oL.length = N := ⟨_, rfl⟩
  dsimp only
  rw [hoN]
  have hb1 := newB w (.cells #[.int .i64 os_, .int .i64 oq, .slice op oN oc, .int .i64 onow] 55)
  have hX := Blk.new w 55 [.int .i64 os_, .int .i64 oq, .slice op oN oc, .int .i64 onow]
  have HBR := Lib.hid hb1
  obtain ⟨P, hP⟩ : ∃ P, w.heap.size = P := ⟨_, rfl⟩
  obtain ⟨W1, hW1⟩ : ∃ W1, w.alloc (.cells #[.int .i64 os_, .int .i64 oq, .slice op oN oc, .int .i64 onow] 55) = W1 := ⟨_, rfl⟩
  rw [hW1] at hb1 hX
  rw [hP] at hX
  have HX1 := Lib.hid hX
  have HB1 := Lib.hid hb1
  have HW1 := Lib.hid hW1
  have HPE := Lib.hid hP
  have HL := Lib.hid hl
  have HN := Lib.hid hn
  have HM := Lib.hid hm
  have HO := Lib.hid ho
  have HOO := Lib.hid hoo
  have HMO := Lib.hid hmo
  have HOA := Lib.hid hO.at_
  have HON := Lib.hid hoN
  have hck := rcheckI_any p l n c' W1 (hl.below hb1) hn hm
  obtain ⟨ok, hok⟩ : ∃ o, okIfs l = o := ⟨_, rfl⟩
  rw [hok] at hck
  have HCK := Lib.hid hck
  have HOK := Lib.hid hok
  unfold maxLen at hmm
  have hoNm : oN ≤ 2 ^ 63 - 1 := by have := hO.le; have := hO.max; unfold maxLen at this; simp only at *; omega
  clear hb1 hX hW1 hP hl hn ho hoo hmo hck hok hO hoN
  by_cases h100 : n ≤ 100
  rotate_left
  · have t0 : decide ((100 : Int) < (n : Int)) = true := decide_eq_true (by omega)
    go_enter Try.func5, Try.ntmps5
    go_wp2_with (go_at_call 19; refine (lives18_any _).mono ?_; rintro e w3 ⟨rfl, hb3⟩)
    go_ret
    exact ⟨rfl, HBR.out.trans (hb3.mono HBR.out.size)⟩
  have t0 : decide ((100 : Int) < (n : Int)) = false := decide_eq_false (by omega)
  by_cases hgood : ok = true ∧ m ≤ 40 ∧ oN ≤ 100
  rotate_left
  · rcases ok with _ | _
    · go_enter Try.func5, Try.ntmps5
      go_wp2_with fail
      rw [HW1.out, HPE.out]
      refine HCK.out.mono ?_
      rintro e w2 ⟨rfl, hb⟩
      have HB2 := Lib.hid (HB1.out.trans (hb.mono HB1.out.size))
      clear hb
      go_wp2_with (go_at_call 19; refine (lives18_any _).mono ?_; rintro e w3 ⟨rfl, hb3⟩)
      go_ret
      exact ⟨rfl, HB2.out.trans (hb3.mono HB2.out.size)⟩
    · have hcase : (40 < m) ∨ (m ≤ 40 ∧ 100 < oN) := by simp only [true_and] at hgood; omega
      rcases hcase with h40 | ⟨h40, h1⟩
      · have t1 : decide ((40 : Int) < (m : Int)) = true := decide_eq_true (by omega)
        go_enter Try.func5, Try.ntmps5
        go_wp2_with fail
        rw [HW1.out, HPE.out]
        refine HCK.out.mono ?_
        rintro e w2 ⟨rfl, hb⟩
        have HB2 := Lib.hid (HB1.out.trans (hb.mono HB1.out.size))
        clear hb
        go_wp2_with (go_at_call 19; refine (lives18_any _).mono ?_; rintro e w3 ⟨rfl, hb3⟩)
        go_ret
        exact ⟨rfl, HB2.out.trans (hb3.mono HB2.out.size)⟩
      · have t1 : decide ((40 : Int) < (m : Int)) = false := decide_eq_false (by omega)
        have t2 : decide ((100 : Int) < (oN : Int)) = true := decide_eq_true (by omega)
        go_enter Try.func5, Try.ntmps5
        go_wp2_with fail
        rw [HW1.out, HPE.out]
        refine HCK.out.mono ?_
        rintro e w2 ⟨rfl, hb⟩
        have HB2 := Lib.hid (HB1.out.trans (hb.mono HB1.out.size))
        have x2 := (HX1.out.next hb).cell 2 (by simp)
        simp only [List.getD_cons_zero, List.getD_cons_succ] at x2
        clear hb
        go_wp2_with (go_at_call 19; refine (lives18_any _).mono ?_; rintro e w3 ⟨rfl, hb3⟩)
        go_ret
        exact ⟨rfl, HB2.out.trans (hb3.mono HB2.out.size)⟩
  obtain ⟨rfl, h40, hoN100⟩ := hgood
  have t1 : decide ((40 : Int) < (m : Int)) = false := decide_eq_false (by omega)
  have t2 : decide ((100 : Int) < (oN : Int)) = false := decide_eq_false (by omega)
  have HIN := Lib.hid HL.out.ok
  go_enter Try.func5, Try.ntmps5
  go_wp2_with fail
  rw [HW1.out, HPE.out]
  refine HCK.out.mono ?_
  rintro e w2 ⟨rfl, hb⟩
  have HB2 := Lib.hid (HB1.out.trans (hb.mono HB1.out.size))
  have HX2 := Lib.hid (HX1.out.next hb)
  have x2 := (HX1.out.next hb).cell 2 (by simp)
  simp only [List.getD_cons_zero, List.getD_cons_succ] at x2
  have HNW := Lib.hid (news_any w w2 HB2.out p l n c' (HL.out.below HB2.out) HN.out HOK.out)
  clear hb HCK HX1
  go_wp2_with fail
  refine HNW.out.mono ?_
  rintro e w3 ⟨h, b, F, rfl, hb, hN2⟩
  have HX3 := Lib.hid (HX2.out.next hb)
  have HN2 := Lib.hid hN2
  clear hb hN2 HNW HX2 x2
  go_wp2_with fail
  refine HN2.out.mono ?_
  rintro e w4 ⟨c, mb, rfl, hb, hls⟩
  have HX4 := Lib.hid (HX3.out.next hb)
  have HL4 := Lib.hid hls
  have HLV := Lib.hid (lives18_any w4)
  clear hb hls HN2 HX3
  go_wp2_with fail
  refine HLV.out.mono ?_
  rintro e w5 ⟨rfl, hb⟩
  have HX5 := Lib.hid (HX4.out.next hb)
  have HL5 := Lib.hid (HL4.out.next hb)
  clear hb HLV HX4 HL4
  go_wp2_with fail
  go_loopw [11] (fun v wr => ∃ (i : Nat) (f : Int → Option Cy) (S : Nat → Sr), i ≤ m ∧ v = .int .i64 i ∧ LSl w wr l c h b mb (256 * i) F f S ∧ FOk f ∧ Blk wr P 55 [.int .i64 os_, .int .i64 oq, .slice op oN oc, .int .i64 onow]) (fun v _ => m - (intOf v).toNat)
  case atStart => exact ⟨0, _, _, Nat.zero_le _, rfl, HL5.out, fok_none, HX5.out⟩
  case round =>
    obtain ⟨i, f, S, hi, rfl, hls, hfok, hXr⟩ := hrel
    have HLS := Lib.hid hls
    have HFK := Lib.hid hfok
    have HXR := Lib.hid hXr
    clear hls hfok hXr
    by_cases hlt : i < m
    · have hlt' : (i : Int) < (m : Int) := by omega
      have i0 : (0 : Int) ≤ (i : Int) := by omega
      obtain ⟨b', off, rfl, hc⟩ := (HO.out.below HLS.out.2).cell HMO.out hlt
      have hoi := HOO.out (os.getD i Ot.zero) (by simp [List.getD, show i < os.length by rw [HMO.out]; exact hlt])
      obtain ⟨x, hx⟩ : ∃ x, os.getD i Ot.zero = x := ⟨_, rfl⟩
      rw [hx] at hc hoi
      obtain ⟨xs, xq, xp, xL, xcp, xnow⟩ := x
      obtain ⟨xN, hxN⟩ : ∃ N, xL.length = N := ⟨_, rfl⟩
      have e0 := hc 0 _ rfl
      have e1 := hc 1 _ rfl
      have e2 := hc 2 _ rfl
      have e3 := hc 3 _ rfl
      dsimp only at e0 e1 e2 e3
      rw [hxN] at e2
      have HXN := Lib.hid hxN
      have HOI := Lib.hid hoi
      clear hx hc hoi hxN
      by_cases hx100 : xN ≤ 100
      · have t3 : decide ((100 : Int) < (xN : Int)) = false := decide_eq_false (by omega)
        have hbl : b' < w.heap.size := LAt.lt rowOt HO.out (by intro e; have := HMO.out; rw [e] at this; simp at this; omega) rfl
        have HSC := Lib.hid (fun (U : World) (hU : Below w.heap.size wr U) => show U.cell? ⟨b', off + i * 4, none⟩ = some (.int .i64 xs) ∧ U.cell? ⟨b', off + i * 4 + 1, none⟩ = some (.int .i64 xq) ∧ U.cell? ⟨b', off + i * 4 + 2, none⟩ = some (.slice xp xN xcp) ∧ U.cell? ⟨b', off + i * 4 + 3, none⟩ = some (.int .i64 xnow) from ⟨(hU.cell (p := ⟨b', off + i * 4, none⟩) hbl).trans e0, (hU.cell (p := ⟨b', off + i * 4 + 1, none⟩) hbl).trans e1, (hU.cell (p := ⟨b', off + i * 4 + 2, none⟩) hbl).trans e2, (hU.cell (p := ⟨b', off + i * 4 + 3, none⟩) hbl).trans e3⟩)
        have hdr : Below wr.heap.size wr wr.drew := (Below.refl _ _).drew
        have hT := (HLS.out.next hdr).take (by omega) xs xq xnow xp xL xN xcp (HOI.out.at_.below (HLS.out.next hdr).2) HXN.out (by unfold maxLen; omega) (fun hne b9 o9 e9 => by have := LAt.lt rowCy HOI.out.at_ hne e9; have := HLS.out.le; omega)
        obtain ⟨E, hE⟩ : ∃ E, takeE l S xs xq xL xnow = E := ⟨_, rfl⟩
        rw [hE] at hT
        have HT := Lib.hid hT
        have HF2 := Lib.hid (fok_take (l := l) (S := S) HFK.out xs xq xL xnow HOI.out.at_.ok)
        have HBW := Lib.hid HLS.out.2
        have HXD := Lib.hid (HXR.out.next hdr)
        have HLD := Lib.hid (HLS.out.next hdr)
        have hS := HSC.out _ (Below.refl _ _).drew
        clear hT hE hdr hbl
        go_wp2_with fail
        clear e0 e1 e2 e3
        go_region_held_law (fun W => W.cell? ⟨b', off + i * 4, none⟩ = some (.int .i64 xs) ∧ W.cell? ⟨b', off + i * 4 + 1, none⟩ = some (.int .i64 xq) ∧ W.cell? ⟨b', off + i * 4 + 2, none⟩ = some (.slice xp xN xcp) ∧ W.cell? ⟨b', off + i * 4 + 3, none⟩ = some (.int .i64 xnow)) (with_reducible assumption) (first | (go_at_call 24; (with_reducible refine HT.out.mono ?_); rintro e v ⟨rfl, htn, hls⟩; have HLN := Lib.hid hls; have HTN := Lib.hid htn; have hS := HSC.out _ ((Below.refl w.heap.size wr).drew.trans (htn.below HBW.out.size (fun q9 hq9 => by rcases hq9 with e9 | e9 <;> rw [e9] <;> first | exact HLD.out.le | exact HLD.out.lem))); clear htn hls))
        all_goals
          clear hS
          go_wp2_with fail
          go_roundw
          case rel => exact ⟨i + 1, _, _, by omega, by go_num, by rw [Nat.mul_add]; exact HLN.out, HF2.out, HLD.out.other HXD.out (by decide) HTN.out⟩
          case measure => simp [intOf]; omega
      · have t3 : decide ((100 : Int) < (xN : Int)) = true := decide_eq_true (by omega)
        have HBX := Lib.hid HLS.out.2
        go_wp2_with fail
        go_ret
        exact ⟨rfl, HBX.out⟩
    · obtain rfl : i = m := by omega
      have HA := Lib.hid (HLS.out.all2 HOK.out HIN.out HFK.out)
      go_wp2_with fail
      refine HA.out.mono ?_
      rintro e w6 ⟨q1, k1, cap1, ss, rfl, hk1, hcap1, hperm1, hsort1, hat1, hb, hlo1⟩
      have HL6 := Lib.hid (HLS.out.next hb)
      have HX6 := Lib.hid (HXR.out.next hb)
      have HAT1 := Lib.hid hat1
      have HK1 := Lib.hid hk1
      have HPM1 := Lib.hid hperm1
      have HST1 := Lib.hid hsort1
      have HLO1 := Lib.hid (show ∀ b off, q1 = some ⟨b, off, none⟩ → ¬ (b = c ∨ b = mb) from fun b9 o9 e9 hor => by
        have h1 := hlo1 b9 o9 e9
        have h2 := HLS.out.lt
        have h3 := HLS.out.ltm
        omega)
      clear hk1 hcap1 hperm1 hsort1 hat1 hb hlo1 HA
      have hdr : Below w6.heap.size w6 w6.drew := (Below.refl _ _).drew
      have hT := fun (U : World) (hU : Below w6.heap.size w6 U) => (HL6.out.next hU).take (by omega) os_ oq onow op oL oN oc (HOA.out.below (HL6.out.next hU).2) HON.out (by unfold maxLen; omega) (fun hne b9 o9 e9 => by have := LAt.lt rowCy HOA.out hne e9; have := HL6.out.le; omega)
      obtain ⟨E, hE⟩ : ∃ E, takeE l S os_ oq oL onow = E := ⟨_, rfl⟩
      rw [hE] at hT
      have HT := Lib.hid hT
      have HEE := Lib.hid hE
      have HF2 := Lib.hid (fok_take (l := l) (S := S) HFK.out os_ oq oL onow HOA.out.ok)
      have x0 : w6.cell? ⟨P, 0, none⟩ = some (.int .i64 os_) := HX6.out.cell 0 (by simp)
      have x1 : w6.cell? ⟨P, 1, none⟩ = some (.int .i64 oq) := HX6.out.cell 1 (by simp)
      have x2 : w6.cell? ⟨P, 2, none⟩ = some (.slice op oN oc) := HX6.out.cell 2 (by simp)
      have x3 : w6.cell? ⟨P, 3, none⟩ = some (.int .i64 onow) := HX6.out.cell 3 (by simp)
      clear hT hE hdr
      go_wp2_with fail
      refine (HT.out w6 (Below.refl _ _)).mono ?_
      rintro e w7 ⟨rfl, htn, hls⟩
      have HL7 := Lib.hid hls
      have HX7 := Lib.hid (HL6.out.other HX6.out (by decide) htn)
      have HAT17 := Lib.hid (HAT1.out.turns htn HLO1.out)
      have HA := Lib.hid (hls.all2 HOK.out HIN.out HF2.out)
      clear htn hls x0 x1 x2 x3 HT
      go_wp2_with fail
      refine HA.out.mono ?_
      rintro e w8 ⟨q2, k2, cap2, ss2, rfl, hk2, hcap2, hperm2, hsort2, hat2, hb, _⟩
      obtain rfl : ss = ss2 := sorted_one HST1.out hsort2 (HPM1.out.symm.trans hperm2)
      obtain rfl : k1 = k2 := HK1.out.symm.trans hk2
      obtain rfl : k1 = n := by rw [← HK1.out, ← HPM1.out.length_eq, HN.out]
      have HL8 := Lib.hid (HL7.out.next hb)
      have HX8 := Lib.hid (HX7.out.next hb)
      have HW := Lib.hid (HAT17.out.below hb)
      have HNW8 := Lib.hid hat2
      clear hk2 hcap2 hperm2 hsort2 hat2 hb HA HL7 HX7 HAT17 HAT1
      have hnn : ((k1 : Int) != (k1 : Int)) = false := by simp
      have HB8 := Lib.hid HL8.out.2
      have HWL := Lib.hid (show (ss.map (carryV f)).length = k1 by rw [List.length_map]; exact HK1.out)
      have HWL2 := Lib.hid (show (ss.map (carryV (takeF l S f os_ oq oL onow))).length = k1 by rw [List.length_map]; exact HK1.out)
      have HFACT := Lib.hid (fun (i : Nat) (hi : i < k1) => show (E ≠ 0 ∨ oL.any (fun y => y.i == ((ss.map (carryV f)).getD i Cy.zero).i) = false) → (ss.map (carryV (takeF l S f os_ oq oL onow))).getD i Cy.zero = (ss.map (carryV f)).getD i Cy.zero from by
        have hi' : i < ss.length := by rw [HK1.out]; exact hi
        have e1 : ∀ g : Ifc → Cy, (ss.map g).getD i Cy.zero = g (ss.getD i Ifc.zero) := fun g => by simp [List.getD, List.getElem?_map, hi']
        rw [e1, e1, carry_id HFK.out]
        intro h
        exact stays_fact os_ oq oL onow _ (by rw [HEE.out]; exact h))
      clear HFK HF2 HL6 HX6 HLO1 HPM1 HST1 HL8 HEE
      go_wp2_with fail
      go_loopw [15, 16, 17] (fun v _ _ wr => ∃ i : Nat, i ≤ k1 ∧ v = .int .i64 i ∧ Below w8.heap.size w8 wr) (fun v _ _ _ => k1 - (intOf v).toNat)
      case atStart => exact ⟨0, Nat.zero_le _, rfl, Below.refl _ _⟩
      case round =>
        obtain ⟨i9, hi9, rfl, hB⟩ := hrel
        have HB := Lib.hid hB
        clear hB
        by_cases hlt : i9 < k1
        · have hlt' : (i9 : Int) < (k1 : Int) := by omega
          have hfact := HFACT.out i9 hlt
          obtain ⟨b1, off1, rfl, c0, c1, c2⟩ := cy_cell HW.out HWL.out hlt
          obtain ⟨b2, off2, rfl, d0, d1, d2⟩ := cy_cell HNW8.out HWL2.out hlt
          obtain ⟨z, hz⟩ : ∃ z, (ss.map (carryV f)).getD i9 Cy.zero = z := ⟨_, rfl⟩
          obtain ⟨y, hy⟩ : ∃ z, (ss.map (carryV (takeF l S f os_ oq oL onow))).getD i9 Cy.zero = z := ⟨_, rfl⟩
          rw [hz] at c0 c1 c2 hfact
          rw [hy] at d0 d1 d2 hfact
          obtain ⟨z0, z1, z2⟩ := z
          obtain ⟨y0, y1, y2⟩ := y
          simp only at c0 c1 c2 d0 d1 d2
          have p2 := HX8.out.cell 2 (by simp)
          simp only [List.getD_cons_zero, List.getD_cons_succ] at p2
          have HSZ := Lib.hid (fun (U : World) (hU : Below w8.heap.size w8 U) => show U.cell? ⟨b1, off1 + i9 * 3, none⟩ = some (.int .i64 z0) ∧ U.cell? ⟨b1, off1 + i9 * 3 + 1, none⟩ = some (.int .i64 z1) ∧ U.cell? ⟨b1, off1 + i9 * 3 + 2, none⟩ = some (.bool z2) ∧ U.cell? ⟨b2, off2 + i9 * 3, none⟩ = some (.int .i64 y0) ∧ U.cell? ⟨b2, off2 + i9 * 3 + 1, none⟩ = some (.int .i64 y1) ∧ U.cell? ⟨b2, off2 + i9 * 3 + 2, none⟩ = some (.bool y2) from ⟨kept hU c0, kept hU c1, kept hU c2, kept hU d0, kept hU d1, kept hU d2⟩)
          have HP2 := Lib.hid (fun (U : World) (hU : Below w8.heap.size w8 U) => show U.cell? ⟨P, 2, none⟩ = some (.slice op oN oc) from kept hU p2)
          have HFA := Lib.hid hfact
          clear hz hy hfact c0 c1 c2 d0 d1 d2 p2
          go_wp2_with fail
          go_loopw [16, 17] (fun t v wr => ∃ k : Nat, k ≤ oN ∧ v = .int .i64 k ∧ t = .bool ((oL.take k).any (fun y => y.i == z0)) ∧ Below w8.heap.size w8 wr) (fun _ v _ => oN - (intOf v).toNat)
          case atStart => exact ⟨0, Nat.zero_le _, rfl, rfl, HB.out⟩
          case round =>
            obtain ⟨k9, hk9, rfl, rfl, hB⟩ := hrel
            have HB' := Lib.hid hB
            clear hB
            by_cases hkl : k9 < oN
            · have hkl' : (k9 : Int) < (oN : Int) := by omega
              obtain ⟨b3, off3, rfl, e0, _, _⟩ := cy_cell (HOA.out.below (HB8.out.trans (HB'.out.mono HB8.out.size))) HON.out hkl
              have hst : (oL.take (k9 + 1)).any (fun y => y.i == z0) = ((oL.take k9).any (fun y => y.i == z0) || ((oL.getD k9 Cy.zero).i == z0)) := by
                rw [List.take_add_one, List.any_append]
                simp [List.getD, show k9 < oL.length by rw [HON.out]; exact hkl]
              obtain ⟨x0, hx⟩ : ∃ z, (oL.getD k9 Cy.zero).i = z := ⟨_, rfl⟩
              rw [hx] at e0 hst
              obtain ⟨t, ht⟩ : ∃ z, (oL.take k9).any (fun y => y.i == z0) = z := ⟨_, rfl⟩
              rw [ht] at hst ⊢
              have HST := Lib.hid hst
              have p2 := HP2.out _ HB'.out
              obtain ⟨c0, _⟩ := HSZ.out _ HB'.out
              obtain ⟨te, hte⟩ : ∃ z, (x0 == z0) = z := ⟨_, rfl⟩
              clear hx ht hst
              rcases t with _ | _
              · rcases te with _ | _
                all_goals
                  have td : decide (x0 = z0) = _ := hte
                  go_wp2_with fail
                  go_quiet (fail)
                  go_wp2_with fail
                  go_roundw
                  case rel => exact ⟨k9 + 1, by omega, by go_num, by rw [HST.out, hte]; rfl, HB'.out.trans ((below_dN _ _ _).mono HB'.out.size)⟩
                  case measure => simp [intOf]; omega
              · go_wp2_with fail
                go_quiet (fail)
                go_wp2_with fail
                go_roundw
                case rel => exact ⟨k9 + 1, by omega, by go_num, by rw [HST.out]; rfl, HB'.out.trans ((below_dN _ _ _).mono HB'.out.size)⟩
                case measure => simp [intOf]; omega
            · obtain rfl : k9 = oN := by omega
              rw [List.take_of_length_le (by rw [HON.out]; exact Nat.le_refl _)]
              obtain ⟨t, ht⟩ : ∃ z, oL.any (fun y => y.i == z0) = z := ⟨_, rfl⟩
              rw [ht]
              have HTT := Lib.hid ht
              obtain ⟨c0, c1, c2, d0, d1, d2⟩ := HSZ.out _ HB'.out
              have p2 := HP2.out _ HB'.out
              have hg := cy_eqGuard
              have hq : ∀ u, (binOp .neq 67 (.agg #[.int .i64 z0, .int .i64 z1, .bool z2]) (.agg #[.int .i64 y0, .int .i64 y1, .bool y2])).run Try.prog u = .ok (.bool (!eqC ⟨z0, z1, z2⟩ ⟨y0, y1, y2⟩)) u := fun u => cy_neq ⟨z0, z1, z2⟩ ⟨y0, y1, y2⟩ u
              clear ht
              by_cases hsame : (⟨z0, z1, z2⟩ : Cy) = ⟨y0, y1, y2⟩
              · rw [(eqC_iff _ _).2 hsame] at hq
                clear hsame
                go_wp2_with fail
                go_quiet (fail)
                go_wp2_with fail
                go_roundw
                case rel => exact ⟨i9 + 1, by omega, by go_num, HB'.out.trans ((below_dN _ _ _).mono HB'.out.size)⟩
                case measure => simp [intOf]; omega
              · have hne : eqC ⟨z0, z1, z2⟩ ⟨y0, y1, y2⟩ = false := by
                  rcases h : eqC ⟨z0, z1, z2⟩ ⟨y0, y1, y2⟩ with _ | _
                  · rfl
                  · exact absurd ((eqC_iff _ _).1 h) hsame
                rw [hne] at hq
                have hE0 : E = 0 := by
                  rcases Classical.em (E = 0) with h | h
                  · exact h
                  · exact absurd (HFA.out (.inl h)).symm hsame
                subst hE0
                obtain rfl : t = true := by
                  rcases t with _ | _
                  · exact absurd (HFA.out (.inr HTT.out)).symm hsame
                  · rfl
                clear hsame hne
                go_wp2_with fail
                go_quiet (fail)
                go_wp2_with fail
                go_roundw
                case rel => exact ⟨i9 + 1, by omega, by go_num, HB'.out.trans ((below_dN _ _ _).mono HB'.out.size)⟩
                case measure => simp [intOf]; omega
        · obtain rfl : i9 = k1 := by omega
          go_wp2_with fail
          go_ret
          exact ⟨rfl, HB8.out.trans (HB.out.mono HB8.out.size)⟩
theorem stays_arg (w : World) (x : Option Addr × List Ifc × Nat) (hx : IfsArg w x) (y : Option Addr × List Ot × Nat) (hy : OtsArg w y) (o : Ot) (ho : OtAt w o) :
    Calls Try.prog 5 #[.slice x.1 x.2.1.length x.2.2, .slice y.1 y.2.1.length y.2.2, .agg #[.int .i64 o.src, .int .i64 o.seq, .slice o.p o.L.length o.cap, .int .i64 o.now]] w fun e w' => e = .returned (.bool true) ∧ Below w.heap.size w w' :=
  stays_walk w x.1 x.2.1 _ _ hx.at_ rfl (Nat.le_trans hx.le hx.max) y.1 y.2.1 _ _ hy.at_ hy.ok rfl (Nat.le_trans hy.le hy.max) o ho
end Go.Proofs.Ytlkpalaakncicaa
