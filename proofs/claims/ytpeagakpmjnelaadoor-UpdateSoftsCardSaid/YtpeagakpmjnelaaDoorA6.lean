/- attr: Put. -/
import Derived.Test.YtpeagakpmjnelaaDoorA5
namespace Go.Proofs.YtpeagakpmjnelaaDoor.Ax
open Go.RowKit
set_option maxRecDepth 100000

def medL (n : Int) : List Int := if 0 ≤ n then attrL 128 4 (putL n 4) else []
def prefL (n : Int) : List Int := if 0 ≤ n then attrL 64 5 (putL n 4) else []
def commsL (l : List Int) : List Int := if 0 < l.length then attrL 192 8 (numsL 4 l) else []
/-- The bytes of attributes. -/
def putA (a : At) (four : Bool) : List Int := attrL 64 1 [a.origin] ++ attrL 64 2 (segsL four a.path) ++ attrL 64 3 (putL a.next 4) ++ medL a.med ++ prefL a.pref ++ commsL a.comms
theorem attribute_new (K : Int) (k m : Nat) (hK : K = k) (fl : Int) (p : Option Addr) (xs : List Int) (n c : Nat) (w : World) (ht : Tab w) (hk : k < 9) (hfl : flagsL.getD k 0 = fl) (h3 : fl = 64 ∨ (fl = 128 ∧ n ≤ 255) ∨ fl = 192) (hb : BytesAt w p xs) (hn : xs.length = n) (hl : n ≤ 65535) (hm : attrN n = m) :
    Calls Tryd.prog 71 #[.int .i64 K, .slice p n c] w fun e w' => RetBn w w' (attrL fl K xs) m e := by
  subst hK hm
  exact attribute_any k fl p xs n c w ht hk hfl h3 hb hn hl
/-- What attributes that may be say of their parts. -/
structure PartsA (a : At) (four : Bool) : Prop where
  o0 : 0 ≤ a.origin
  o1 : a.origin ≤ 2
  path : okPath a.path four = true
  m0 : -1 ≤ a.med
  m1 : a.med ≤ 4294967295
  p0 : -1 ≤ a.pref
  p1 : a.pref ≤ 4294967295
  c0 : a.comms.length ≤ 32
  c1 : FitAll 4 a.comms
theorem okA_parts {a : At} {four : Bool} (h : okA a four = true) : PartsA a four ∧ a.next ≠ 0 := by
  unfold okA okComms at h
  simp only [Bool.and_eq_true, Bool.not_eq_true', decide_eq_true_eq, beq_eq_false_iff_ne] at h
  obtain ⟨h0, h1, h2, h3, h4, h5, h6⟩ := h
  have a0 := oddB_no h0
  have a3 := oddB_no h3
  have a4 := oddB_no h4
  refine ⟨⟨a0.1, a0.2, h1, a3.1, a3.2, a4.1, a4.2, h5, fun i hi => ?_⟩, h2⟩
  have := oddB_no (any_false h6 (getD_mem hi 0))
  exact fit_four this.1 this.2
theorem segsL_le {l : List Seg} {four : Bool} (h : okPath l four = true) : (segsL four l).length ≤ 2064 := by
  obtain ⟨h8, hs⟩ := okPath_yes h
  have key : ∀ k, k ≤ l.length → (segsL four (l.take k)).length ≤ 258 * k := by
    intro k
    induction k with
    | zero => intro _; simp [segsL]
    | succ k ih =>
      intro hk
      rw [segsL_snoc four l k (by omega), List.length_append, segL_len]
      have h1 := ih (by omega)
      have h2 := (hs k (by omega)).most
      have h3 : wideA four * (l.getD k Seg.none).nums.length ≤ 4 * 64 := Nat.mul_le_mul (wideA_bd four).2 h2
      omega
  have := key l.length (Nat.le_refl _)
  rw [List.take_length] at this
  omega
theorem putA_no (a : At) (l : Loc) (four : Bool) (w : World) (ha : AtAt w a l) (hk : okA a four = false) :
    Calls Tryd.prog 51 #[.agg (atL a l).toArray, .bool four] w fun e w' => e = .returned (.tuple #[.slice none 0 0, .int .i64 50]) ∧ Below w.heap.size w w' := by
  have HN := Lib.hid (new_below w (.cells (atL a l).toArray 27))
  have HC := Lib.hid (checkA_any a l four _ (ha.below HN.out))
  rw [show errA a four = 50 by simp [errA, hk]] at HC
  obtain ⟨origin, path, next, med, pref, comms⟩ := a
  obtain ⟨pp, pn, pc, cp, cn, cc⟩ := l
  simp only [atL] at *
  clear hk ha
  go_enter Tryd.func51, Tryd.ntmps51
  go_wp2_with fail
  refine HC.out.mono ?_; rintro e w1 ⟨rfl, hb⟩
  have HB := Lib.hid (HN.out.trans (hb.mono HN.out.size))
  clear hb HC
  go_wp2_with fail
  go_ret2
  exact ⟨rfl, HB.out⟩

set_option maxRecDepth 100000 in
set_option maxHeartbeats 4000000 in
theorem putA_000 (origin next med pref : Int) (path : List Seg) (comms : List Int) (pp cp : Option Addr) (pn pc cn cc : Nat) (four : Bool) (w : World) (ht : Tab w) (ha : AtAt w ⟨origin, path, next, med, pref, comms⟩ ⟨pp, pn, pc, cp, cn, cc⟩) (hk : okA ⟨origin, path, next, med, pref, comms⟩ four = true) (hm : med < 0) (hp : pref < 0) (hc : cn < 1) :
    Calls Tryd.prog 51 #[.agg #[.int .i64 origin, .slice pp pn pc, .int .u32 next, .int .i64 med, .int .i64 pref, .slice cp cn cc], .bool four] w fun e w' => ∃ p cap, e = .returned (.tuple #[.slice p (putA ⟨origin, path, next, med, pref, comms⟩ four).length cap, .int .i64 0]) ∧ Own w' w.heap.size p cap (putA ⟨origin, path, next, med, pref, comms⟩ four) ∧ Below w.heap.size w w' := by
  obtain ⟨hpa, _⟩ := okA_parts hk
  have hsl := segsL_le hpa.path
  simp only at hsl
  have S0 := BoxSt.new ha
  obtain ⟨W, hW⟩ : ∃ W, w.alloc (.cells #[.int .i64 origin, .slice pp pn pc, .int .u32 next, .int .i64 med, .int .i64 pref, .slice cp cn cc] 27) = W := ⟨_, rfl⟩
  rw [show (atL ⟨origin, path, next, med, pref, comms⟩ ⟨pp, pn, pc, cp, cn, cc⟩).toArray = #[.int .i64 origin, .slice pp pn pc, .int .u32 next, .int .i64 med, .int .i64 pref, .slice cp cn cc] from rfl, hW] at S0
  have HC := Lib.hid (show Calls Tryd.prog 70 #[.agg #[.int .i64 origin, .slice pp pn pc, .int .u32 next, .int .i64 med, .int .i64 pref, .slice cp cn cc], .bool four] W fun e w' => e = .returned (.int .i64 0) ∧ Below W.heap.size W w' from by
    have := checkA_any _ _ four W S0.ad
    rw [show errA ⟨origin, path, next, med, pref, comms⟩ four = 0 by simp [errA, hk]] at this
    exact this)
  obtain ⟨po, hpo⟩ : ∃ po, putA ⟨origin, path, next, med, pref, comms⟩ four = po := ⟨_, rfl⟩
  obtain ⟨sg, hsg⟩ : ∃ sg, segsL four path = sg := ⟨_, rfl⟩
  obtain ⟨sl, hsn⟩ : ∃ sl, sg.length = sl := ⟨_, rfl⟩
  obtain ⟨sa, hsa⟩ : ∃ sa, attrN sl = sa := ⟨_, rfl⟩
  rw [hsg, hsn] at hsl
  have hsa' : sa ≤ 2068 := by rw [← hsa]; unfold attrN; split <;> omega
  have HPO := Lib.hid (show po = attrL 64 1 [origin] ++ attrL 64 2 sg ++ attrL 64 3 (putL next 4) ++ medL med ++ prefL pref ++ commsL comms from by rw [← hpo, ← hsg]; rfl)
  rw [hpo]
  have HSG := Lib.hid hsg
  have HSN := Lib.hid hsn
  have HSA := Lib.hid hsa
  have HPA := Lib.hid hpa
  have hob : 0 ≤ origin ∧ origin ≤ 255 := ⟨hpa.o0, by have := hpa.o1; simp only at this; omega⟩
  have hnb : 0 ≤ next ∧ next ≤ 4294967295 := ⟨S0.ad.n0, S0.ad.n1⟩
  have hmb : med ≤ 4294967295 := hpa.m1
  have hqb : pref ≤ 4294967295 := hpa.p1
  have hcb : cn ≤ 32 := by have h1 := S0.ad.cn; have h2 := hpa.c0; simp only at h1 h2; omega
  have HT := Lib.hid (ht.below S0.bel)
  have HS0 := Lib.hid S0
  have HW := Lib.hid hW
  have HSZ := Lib.hid (show w.heap.size < W.heap.size from S0.kb.lt)
  clear hk hpa S0 hW hpo hsg hsn hsa ht ha
  go_enter Tryd.func51, Tryd.ntmps51
  go_wp2_with fail
  rw [HW.out]
  refine HC.out.mono ?_; rintro e w1 ⟨rfl, hb⟩
  have S1 := Lib.hid (HS0.out.next hb)
  have HT1 := Lib.hid (HT.out.below hb)
  have hgz : w.heap.size < w1.heap.size := Nat.lt_of_lt_of_le HSZ.out hb.size
  clear hb HC HS0 HT
  have c0 := S1.out.kb.cell 0 (by simp [atL])
  simp only [atL, List.getD_cons_zero] at c0
  have HI := Lib.hid (ints1 w1 origin)
  have HN := Lib.hid (new_below w1 (.cells #[.int .i64 origin] 3))
  go_wp2_with fail
  (with_reducible refine (numbers_new 1 1 rfl _ [origin] 1 1 1 _ (by omega) (by omega) HI.out rfl (by omega) rfl (fit1 (fit_byte hob.1 hob.2))).mono ?_); rintro e w2 ⟨q2, cap2, rfl, hO, hb⟩
  rw [nums1_one hob] at hO
  have B2 := Lib.hid (HN.out.trans (hb.mono HN.out.size))
  have Y2 := Lib.hid hO.bytes
  clear hO hb c0 HI HN
  go_wp2_with fail
  (with_reducible refine (attribute_new 1 1 4 rfl 64 q2 [origin] 1 cap2 w2 (HT1.out.below B2.out) (by omega) rfl (.inl rfl) Y2.out rfl (by omega) rfl).mono ?_); rintro e w3 ⟨q, cap, rfl, hO, hb⟩
  have G := Lib.hid (show GrowSt w1 w1.heap.size w.heap.size 27 [.int .i64 origin, .slice pp pn pc, .int .u32 next, .int .i64 med, .int .i64 pref, .slice cp cn cc] w3 q cap (attrL 64 1 [origin]) from ⟨hO.mono B2.out.size, (S1.out.kb.next B2.out).next hb, B2.out.trans (hb.mono B2.out.size), hgz, Nat.le_trans B2.out.size hb.size⟩)
  clear hO hb B2 Y2
  have HL := Lib.hid (show (attrL 64 1 [origin]).length = 4 from by rw [attrL_len]; rfl)
  have c1 := G.out.blk.cell 1 (by simp)
  go_wp2_with fail
  (with_reducible refine (segments_any pp path pn pc four _ (S1.out.ad.below G.out.bel).path S1.out.ad.pn HPA.out.path).mono ?_); rintro e x1 ⟨qy, capy, rfl, hO, hb⟩
  rw [HSG.out] at hO ⊢
  rw [HSN.out]
  have G' := Lib.hid (G.out.next hb)
  have Y := Lib.hid hO.bytes
  clear hO hb c1
  go_wp2_with fail
  (with_reducible refine (attribute_new 2 2 sa rfl 64 qy sg sl capy _ (HT1.out.below G'.out.bel) (by omega) rfl (.inl rfl) Y.out HSN.out (by omega) HSA.out).mono ?_); rintro e x2 ⟨qx, capx, rfl, hO, hb⟩
  have G := Lib.hid (G'.out.next hb)
  have YX := Lib.hid hO.bytes
  have LX := Lib.hid (show (attrL 64 2 sg).length = sa from by rw [attrL_len, HSN.out, HSA.out])
  clear hO hb G' Y
  go_wp2_with (refine wpList_appo (o := ⟨some 25, _, _, _, _, _⟩) (by rfl) (.tmp 19) (.tmp 24) (by rfl) w1.heap.size q cap (attrL 64 1 [origin]) G.out.own (4) HL.out (by rfl) qx (sa) capx (attrL 64 2 sg) YX.out LX.out (by rfl) (4 + sa) (by rfl) (by omega) G.out.hB ?_; intro q4 cap4 w4 hO4 hB4 hG4; have G4 := Lib.hid (G.out.app hO4.out hB4.out); have d2 := G4.out.blk.cell 2 (by simp))
  have HL := Lib.hid (show ((attrL 64 1 [origin] ++ attrL 64 2 sg)).length = 4 + sa from by rw [List.length_append, HL.out, LX.out])
  have G := G4
  clear YX LX G4 hO4 hB4 hG4
  have HI := Lib.hid (ints1 w4 next)
  have HN := Lib.hid (new_below w4 (.cells #[.int .i64 next] 3))
  (with_reducible refine (numbers_new 4 4 rfl _ [next] 1 1 4 _ (by omega) (by omega) HI.out rfl (by omega) rfl (fit1 (fit_four hnb.1 hnb.2))).mono ?_); rintro e x1 ⟨qy, capy, rfl, hO, hb⟩
  rw [nums_one] at hO
  have G' := Lib.hid ((G.out.next HN.out).next hb)
  have Y := Lib.hid hO.bytes
  clear hO hb HI HN d2
  go_wp2_with fail
  (with_reducible refine (attribute_new 3 3 7 rfl 64 qy (putL next 4) 4 capy _ (HT1.out.below G'.out.bel) (by omega) rfl (.inl rfl) Y.out (putL_len ..) (by omega) rfl).mono ?_); rintro e x2 ⟨qx, capx, rfl, hO, hb⟩
  have G := Lib.hid (G'.out.next hb)
  have YX := Lib.hid hO.bytes
  have LX := Lib.hid (show (attrL 64 3 (putL next 4)).length = 7 from by rw [attrL_len, putL_len]; rfl)
  clear hO hb G' Y
  go_wp2_with (refine wpList_appo (o := ⟨some 33, _, _, _, _, _⟩) (by rfl) (.tmp 26) (.tmp 32) (by rfl) w1.heap.size q4 cap4 ((attrL 64 1 [origin] ++ attrL 64 2 sg)) G.out.own (4 + sa) HL.out (by rfl) qx (7) capx (attrL 64 3 (putL next 4)) YX.out LX.out (by rfl) (4 + sa + 7) (by rfl) (by omega) G.out.hB ?_; intro q5 cap5 w5 hO5 hB5 hG5; have G5 := Lib.hid (G.out.app hO5.out hB5.out); have d3 := G5.out.blk.cell 3 (by simp); have d4 := G5.out.blk.cell 4 (by simp); have d5 := G5.out.blk.cell 5 (by simp))
  have HL := Lib.hid (show (((attrL 64 1 [origin] ++ attrL 64 2 sg) ++ attrL 64 3 (putL next 4))).length = 4 + sa + 7 from by rw [List.length_append, HL.out, LX.out])
  have G := G5
  clear YX LX G5 hO5 hB5 hG5
  have HFIN := Lib.hid (show po = ((attrL 64 1 [origin] ++ attrL 64 2 sg) ++ attrL 64 3 (putL next 4)) from by
    rw [HPO.out, show medL med = [] from by unfold medL; exact if_neg (by omega), show prefL pref = [] from by unfold prefL; exact if_neg (by omega), show commsL comms = [] from by unfold commsL; have := S1.out.ad.cn; simp only at this; exact if_neg (by omega)]; simp only [List.append_nil])
  have HLEN := Lib.hid (show po.length = 4 + sa + 7 from by rw [HFIN.out]; exact HL.out)
  go_ret2
  exact ⟨q5, cap5, by rw [HLEN.out]; rfl, by rw [HFIN.out]; exact G.out.own.mono (Nat.le_of_lt hgz), S1.out.bel.trans (G.out.bel.mono (Nat.le_of_lt hgz))⟩

set_option maxRecDepth 100000 in
set_option maxHeartbeats 4000000 in
theorem putA_001 (origin next med pref : Int) (path : List Seg) (comms : List Int) (pp cp : Option Addr) (pn pc cn cc : Nat) (four : Bool) (w : World) (ht : Tab w) (ha : AtAt w ⟨origin, path, next, med, pref, comms⟩ ⟨pp, pn, pc, cp, cn, cc⟩) (hk : okA ⟨origin, path, next, med, pref, comms⟩ four = true) (hm : med < 0) (hp : pref < 0) (hc : 0 < cn) :
    Calls Tryd.prog 51 #[.agg #[.int .i64 origin, .slice pp pn pc, .int .u32 next, .int .i64 med, .int .i64 pref, .slice cp cn cc], .bool four] w fun e w' => ∃ p cap, e = .returned (.tuple #[.slice p (putA ⟨origin, path, next, med, pref, comms⟩ four).length cap, .int .i64 0]) ∧ Own w' w.heap.size p cap (putA ⟨origin, path, next, med, pref, comms⟩ four) ∧ Below w.heap.size w w' := by
  obtain ⟨hpa, _⟩ := okA_parts hk
  have hsl := segsL_le hpa.path
  simp only at hsl
  have S0 := BoxSt.new ha
  obtain ⟨W, hW⟩ : ∃ W, w.alloc (.cells #[.int .i64 origin, .slice pp pn pc, .int .u32 next, .int .i64 med, .int .i64 pref, .slice cp cn cc] 27) = W := ⟨_, rfl⟩
  rw [show (atL ⟨origin, path, next, med, pref, comms⟩ ⟨pp, pn, pc, cp, cn, cc⟩).toArray = #[.int .i64 origin, .slice pp pn pc, .int .u32 next, .int .i64 med, .int .i64 pref, .slice cp cn cc] from rfl, hW] at S0
  have HC := Lib.hid (show Calls Tryd.prog 70 #[.agg #[.int .i64 origin, .slice pp pn pc, .int .u32 next, .int .i64 med, .int .i64 pref, .slice cp cn cc], .bool four] W fun e w' => e = .returned (.int .i64 0) ∧ Below W.heap.size W w' from by
    have := checkA_any _ _ four W S0.ad
    rw [show errA ⟨origin, path, next, med, pref, comms⟩ four = 0 by simp [errA, hk]] at this
    exact this)
  obtain ⟨po, hpo⟩ : ∃ po, putA ⟨origin, path, next, med, pref, comms⟩ four = po := ⟨_, rfl⟩
  obtain ⟨sg, hsg⟩ : ∃ sg, segsL four path = sg := ⟨_, rfl⟩
  obtain ⟨sl, hsn⟩ : ∃ sl, sg.length = sl := ⟨_, rfl⟩
  obtain ⟨sa, hsa⟩ : ∃ sa, attrN sl = sa := ⟨_, rfl⟩
  rw [hsg, hsn] at hsl
  have hsa' : sa ≤ 2068 := by rw [← hsa]; unfold attrN; split <;> omega
  have HPO := Lib.hid (show po = attrL 64 1 [origin] ++ attrL 64 2 sg ++ attrL 64 3 (putL next 4) ++ medL med ++ prefL pref ++ commsL comms from by rw [← hpo, ← hsg]; rfl)
  rw [hpo]
  have HSG := Lib.hid hsg
  have HSN := Lib.hid hsn
  have HSA := Lib.hid hsa
  have HPA := Lib.hid hpa
  have hob : 0 ≤ origin ∧ origin ≤ 255 := ⟨hpa.o0, by have := hpa.o1; simp only at this; omega⟩
  have hnb : 0 ≤ next ∧ next ≤ 4294967295 := ⟨S0.ad.n0, S0.ad.n1⟩
  have hmb : med ≤ 4294967295 := hpa.m1
  have hqb : pref ≤ 4294967295 := hpa.p1
  have hcb : cn ≤ 32 := by have h1 := S0.ad.cn; have h2 := hpa.c0; simp only at h1 h2; omega
  have HT := Lib.hid (ht.below S0.bel)
  have HS0 := Lib.hid S0
  have HW := Lib.hid hW
  have HSZ := Lib.hid (show w.heap.size < W.heap.size from S0.kb.lt)
  clear hk hpa S0 hW hpo hsg hsn hsa ht ha
  go_enter Tryd.func51, Tryd.ntmps51
  go_wp2_with fail
  rw [HW.out]
  refine HC.out.mono ?_; rintro e w1 ⟨rfl, hb⟩
  have S1 := Lib.hid (HS0.out.next hb)
  have HT1 := Lib.hid (HT.out.below hb)
  have hgz : w.heap.size < w1.heap.size := Nat.lt_of_lt_of_le HSZ.out hb.size
  clear hb HC HS0 HT
  have c0 := S1.out.kb.cell 0 (by simp [atL])
  simp only [atL, List.getD_cons_zero] at c0
  have HI := Lib.hid (ints1 w1 origin)
  have HN := Lib.hid (new_below w1 (.cells #[.int .i64 origin] 3))
  go_wp2_with fail
  (with_reducible refine (numbers_new 1 1 rfl _ [origin] 1 1 1 _ (by omega) (by omega) HI.out rfl (by omega) rfl (fit1 (fit_byte hob.1 hob.2))).mono ?_); rintro e w2 ⟨q2, cap2, rfl, hO, hb⟩
  rw [nums1_one hob] at hO
  have B2 := Lib.hid (HN.out.trans (hb.mono HN.out.size))
  have Y2 := Lib.hid hO.bytes
  clear hO hb c0 HI HN
  go_wp2_with fail
  (with_reducible refine (attribute_new 1 1 4 rfl 64 q2 [origin] 1 cap2 w2 (HT1.out.below B2.out) (by omega) rfl (.inl rfl) Y2.out rfl (by omega) rfl).mono ?_); rintro e w3 ⟨q, cap, rfl, hO, hb⟩
  have G := Lib.hid (show GrowSt w1 w1.heap.size w.heap.size 27 [.int .i64 origin, .slice pp pn pc, .int .u32 next, .int .i64 med, .int .i64 pref, .slice cp cn cc] w3 q cap (attrL 64 1 [origin]) from ⟨hO.mono B2.out.size, (S1.out.kb.next B2.out).next hb, B2.out.trans (hb.mono B2.out.size), hgz, Nat.le_trans B2.out.size hb.size⟩)
  clear hO hb B2 Y2
  have HL := Lib.hid (show (attrL 64 1 [origin]).length = 4 from by rw [attrL_len]; rfl)
  have c1 := G.out.blk.cell 1 (by simp)
  go_wp2_with fail
  (with_reducible refine (segments_any pp path pn pc four _ (S1.out.ad.below G.out.bel).path S1.out.ad.pn HPA.out.path).mono ?_); rintro e x1 ⟨qy, capy, rfl, hO, hb⟩
  rw [HSG.out] at hO ⊢
  rw [HSN.out]
  have G' := Lib.hid (G.out.next hb)
  have Y := Lib.hid hO.bytes
  clear hO hb c1
  go_wp2_with fail
  (with_reducible refine (attribute_new 2 2 sa rfl 64 qy sg sl capy _ (HT1.out.below G'.out.bel) (by omega) rfl (.inl rfl) Y.out HSN.out (by omega) HSA.out).mono ?_); rintro e x2 ⟨qx, capx, rfl, hO, hb⟩
  have G := Lib.hid (G'.out.next hb)
  have YX := Lib.hid hO.bytes
  have LX := Lib.hid (show (attrL 64 2 sg).length = sa from by rw [attrL_len, HSN.out, HSA.out])
  clear hO hb G' Y
  go_wp2_with (refine wpList_appo (o := ⟨some 25, _, _, _, _, _⟩) (by rfl) (.tmp 19) (.tmp 24) (by rfl) w1.heap.size q cap (attrL 64 1 [origin]) G.out.own (4) HL.out (by rfl) qx (sa) capx (attrL 64 2 sg) YX.out LX.out (by rfl) (4 + sa) (by rfl) (by omega) G.out.hB ?_; intro q4 cap4 w4 hO4 hB4 hG4; have G4 := Lib.hid (G.out.app hO4.out hB4.out); have d2 := G4.out.blk.cell 2 (by simp))
  have HL := Lib.hid (show ((attrL 64 1 [origin] ++ attrL 64 2 sg)).length = 4 + sa from by rw [List.length_append, HL.out, LX.out])
  have G := G4
  clear YX LX G4 hO4 hB4 hG4
  have HI := Lib.hid (ints1 w4 next)
  have HN := Lib.hid (new_below w4 (.cells #[.int .i64 next] 3))
  (with_reducible refine (numbers_new 4 4 rfl _ [next] 1 1 4 _ (by omega) (by omega) HI.out rfl (by omega) rfl (fit1 (fit_four hnb.1 hnb.2))).mono ?_); rintro e x1 ⟨qy, capy, rfl, hO, hb⟩
  rw [nums_one] at hO
  have G' := Lib.hid ((G.out.next HN.out).next hb)
  have Y := Lib.hid hO.bytes
  clear hO hb HI HN d2
  go_wp2_with fail
  (with_reducible refine (attribute_new 3 3 7 rfl 64 qy (putL next 4) 4 capy _ (HT1.out.below G'.out.bel) (by omega) rfl (.inl rfl) Y.out (putL_len ..) (by omega) rfl).mono ?_); rintro e x2 ⟨qx, capx, rfl, hO, hb⟩
  have G := Lib.hid (G'.out.next hb)
  have YX := Lib.hid hO.bytes
  have LX := Lib.hid (show (attrL 64 3 (putL next 4)).length = 7 from by rw [attrL_len, putL_len]; rfl)
  clear hO hb G' Y
  go_wp2_with (refine wpList_appo (o := ⟨some 33, _, _, _, _, _⟩) (by rfl) (.tmp 26) (.tmp 32) (by rfl) w1.heap.size q4 cap4 ((attrL 64 1 [origin] ++ attrL 64 2 sg)) G.out.own (4 + sa) HL.out (by rfl) qx (7) capx (attrL 64 3 (putL next 4)) YX.out LX.out (by rfl) (4 + sa + 7) (by rfl) (by omega) G.out.hB ?_; intro q5 cap5 w5 hO5 hB5 hG5; have G5 := Lib.hid (G.out.app hO5.out hB5.out); have d3 := G5.out.blk.cell 3 (by simp); have d4 := G5.out.blk.cell 4 (by simp); have d5 := G5.out.blk.cell 5 (by simp))
  have HL := Lib.hid (show (((attrL 64 1 [origin] ++ attrL 64 2 sg) ++ attrL 64 3 (putL next 4))).length = 4 + sa + 7 from by rw [List.length_append, HL.out, LX.out])
  have G := G5
  clear YX LX G5 hO5 hB5 hG5
  (with_reducible refine (numbers_new 4 4 rfl cp comms cn cc (4 * cn) _ (by omega) (by omega) (S1.out.ad.below G.out.bel).comms S1.out.ad.cn (by omega) rfl HPA.out.c1).mono ?_); rintro e x1 ⟨qy, capy, rfl, hO, hb⟩
  have G' := Lib.hid (G.out.next hb)
  have Y := Lib.hid hO.bytes
  have HY4 := Lib.hid (show (numsL 4 comms).length = 4 * cn from by rw [numsL_len]; have := S1.out.ad.cn; simp only at this; rw [this])
  clear hO hb d3 d4 d5
  obtain ⟨ca, hca⟩ : ∃ ca, attrN (4 * cn) = ca := ⟨_, rfl⟩
  have hca' : ca ≤ 140 := by rw [← hca]; unfold attrN; split <;> omega
  have HCA := Lib.hid hca
  clear hca
  go_wp2_with fail
  (with_reducible refine (attribute_new 8 8 ca rfl 192 qy (numsL 4 comms) (4 * cn) capy _ (HT1.out.below G'.out.bel) (by omega) rfl (.inr (.inr rfl)) Y.out HY4.out (by omega) HCA.out).mono ?_); rintro e x2 ⟨qx, capx, rfl, hO, hb⟩
  have G := Lib.hid (G'.out.next hb)
  have YX := Lib.hid hO.bytes
  have LX := Lib.hid (show (attrL 192 8 (numsL 4 comms)).length = ca from by rw [attrL_len, HY4.out, HCA.out])
  clear hO hb G' Y
  go_wp2_with (refine wpList_appo (o := ⟨some 63, _, _, _, _, _⟩) (by rfl) (.tmp 58) (.tmp 62) (by rfl) w1.heap.size q5 cap5 (((attrL 64 1 [origin] ++ attrL 64 2 sg) ++ attrL 64 3 (putL next 4))) G.out.own (4 + sa + 7) HL.out (by rfl) qx (ca) capx (attrL 192 8 (numsL 4 comms)) YX.out LX.out (by rfl) (4 + sa + 7 + ca) (by rfl) (by omega) G.out.hB ?_; intro q6 cap6 w6 hO6 hB6 hG6; have G6 := Lib.hid (G.out.app hO6.out hB6.out))
  have HL := Lib.hid (show ((((attrL 64 1 [origin] ++ attrL 64 2 sg) ++ attrL 64 3 (putL next 4)) ++ attrL 192 8 (numsL 4 comms))).length = 4 + sa + 7 + ca from by rw [List.length_append, HL.out, LX.out])
  have G := G6
  clear YX LX G6 hO6 hB6 hG6
  have HFIN := Lib.hid (show po = (((attrL 64 1 [origin] ++ attrL 64 2 sg) ++ attrL 64 3 (putL next 4)) ++ attrL 192 8 (numsL 4 comms)) from by
    rw [HPO.out, show medL med = [] from by unfold medL; exact if_neg (by omega), show prefL pref = [] from by unfold prefL; exact if_neg (by omega), show commsL comms = attrL 192 8 (numsL 4 comms) from by unfold commsL; have := S1.out.ad.cn; simp only at this; exact if_pos (by omega)]; simp only [List.append_nil])
  have HLEN := Lib.hid (show po.length = 4 + sa + 7 + ca from by rw [HFIN.out]; exact HL.out)
  go_ret2
  exact ⟨q6, cap6, by rw [HLEN.out]; rfl, by rw [HFIN.out]; exact G.out.own.mono (Nat.le_of_lt hgz), S1.out.bel.trans (G.out.bel.mono (Nat.le_of_lt hgz))⟩

set_option maxRecDepth 100000 in
set_option maxHeartbeats 4000000 in
theorem putA_010 (origin next med pref : Int) (path : List Seg) (comms : List Int) (pp cp : Option Addr) (pn pc cn cc : Nat) (four : Bool) (w : World) (ht : Tab w) (ha : AtAt w ⟨origin, path, next, med, pref, comms⟩ ⟨pp, pn, pc, cp, cn, cc⟩) (hk : okA ⟨origin, path, next, med, pref, comms⟩ four = true) (hm : med < 0) (hp : 0 ≤ pref) (hc : cn < 1) :
    Calls Tryd.prog 51 #[.agg #[.int .i64 origin, .slice pp pn pc, .int .u32 next, .int .i64 med, .int .i64 pref, .slice cp cn cc], .bool four] w fun e w' => ∃ p cap, e = .returned (.tuple #[.slice p (putA ⟨origin, path, next, med, pref, comms⟩ four).length cap, .int .i64 0]) ∧ Own w' w.heap.size p cap (putA ⟨origin, path, next, med, pref, comms⟩ four) ∧ Below w.heap.size w w' := by
  obtain ⟨hpa, _⟩ := okA_parts hk
  have hsl := segsL_le hpa.path
  simp only at hsl
  have S0 := BoxSt.new ha
  obtain ⟨W, hW⟩ : ∃ W, w.alloc (.cells #[.int .i64 origin, .slice pp pn pc, .int .u32 next, .int .i64 med, .int .i64 pref, .slice cp cn cc] 27) = W := ⟨_, rfl⟩
  rw [show (atL ⟨origin, path, next, med, pref, comms⟩ ⟨pp, pn, pc, cp, cn, cc⟩).toArray = #[.int .i64 origin, .slice pp pn pc, .int .u32 next, .int .i64 med, .int .i64 pref, .slice cp cn cc] from rfl, hW] at S0
  have HC := Lib.hid (show Calls Tryd.prog 70 #[.agg #[.int .i64 origin, .slice pp pn pc, .int .u32 next, .int .i64 med, .int .i64 pref, .slice cp cn cc], .bool four] W fun e w' => e = .returned (.int .i64 0) ∧ Below W.heap.size W w' from by
    have := checkA_any _ _ four W S0.ad
    rw [show errA ⟨origin, path, next, med, pref, comms⟩ four = 0 by simp [errA, hk]] at this
    exact this)
  obtain ⟨po, hpo⟩ : ∃ po, putA ⟨origin, path, next, med, pref, comms⟩ four = po := ⟨_, rfl⟩
  obtain ⟨sg, hsg⟩ : ∃ sg, segsL four path = sg := ⟨_, rfl⟩
  obtain ⟨sl, hsn⟩ : ∃ sl, sg.length = sl := ⟨_, rfl⟩
  obtain ⟨sa, hsa⟩ : ∃ sa, attrN sl = sa := ⟨_, rfl⟩
  rw [hsg, hsn] at hsl
  have hsa' : sa ≤ 2068 := by rw [← hsa]; unfold attrN; split <;> omega
  have HPO := Lib.hid (show po = attrL 64 1 [origin] ++ attrL 64 2 sg ++ attrL 64 3 (putL next 4) ++ medL med ++ prefL pref ++ commsL comms from by rw [← hpo, ← hsg]; rfl)
  rw [hpo]
  have HSG := Lib.hid hsg
  have HSN := Lib.hid hsn
  have HSA := Lib.hid hsa
  have HPA := Lib.hid hpa
  have hob : 0 ≤ origin ∧ origin ≤ 255 := ⟨hpa.o0, by have := hpa.o1; simp only at this; omega⟩
  have hnb : 0 ≤ next ∧ next ≤ 4294967295 := ⟨S0.ad.n0, S0.ad.n1⟩
  have hmb : med ≤ 4294967295 := hpa.m1
  have hqb : pref ≤ 4294967295 := hpa.p1
  have hcb : cn ≤ 32 := by have h1 := S0.ad.cn; have h2 := hpa.c0; simp only at h1 h2; omega
  have HT := Lib.hid (ht.below S0.bel)
  have HS0 := Lib.hid S0
  have HW := Lib.hid hW
  have HSZ := Lib.hid (show w.heap.size < W.heap.size from S0.kb.lt)
  clear hk hpa S0 hW hpo hsg hsn hsa ht ha
  go_enter Tryd.func51, Tryd.ntmps51
  go_wp2_with fail
  rw [HW.out]
  refine HC.out.mono ?_; rintro e w1 ⟨rfl, hb⟩
  have S1 := Lib.hid (HS0.out.next hb)
  have HT1 := Lib.hid (HT.out.below hb)
  have hgz : w.heap.size < w1.heap.size := Nat.lt_of_lt_of_le HSZ.out hb.size
  clear hb HC HS0 HT
  have c0 := S1.out.kb.cell 0 (by simp [atL])
  simp only [atL, List.getD_cons_zero] at c0
  have HI := Lib.hid (ints1 w1 origin)
  have HN := Lib.hid (new_below w1 (.cells #[.int .i64 origin] 3))
  go_wp2_with fail
  (with_reducible refine (numbers_new 1 1 rfl _ [origin] 1 1 1 _ (by omega) (by omega) HI.out rfl (by omega) rfl (fit1 (fit_byte hob.1 hob.2))).mono ?_); rintro e w2 ⟨q2, cap2, rfl, hO, hb⟩
  rw [nums1_one hob] at hO
  have B2 := Lib.hid (HN.out.trans (hb.mono HN.out.size))
  have Y2 := Lib.hid hO.bytes
  clear hO hb c0 HI HN
  go_wp2_with fail
  (with_reducible refine (attribute_new 1 1 4 rfl 64 q2 [origin] 1 cap2 w2 (HT1.out.below B2.out) (by omega) rfl (.inl rfl) Y2.out rfl (by omega) rfl).mono ?_); rintro e w3 ⟨q, cap, rfl, hO, hb⟩
  have G := Lib.hid (show GrowSt w1 w1.heap.size w.heap.size 27 [.int .i64 origin, .slice pp pn pc, .int .u32 next, .int .i64 med, .int .i64 pref, .slice cp cn cc] w3 q cap (attrL 64 1 [origin]) from ⟨hO.mono B2.out.size, (S1.out.kb.next B2.out).next hb, B2.out.trans (hb.mono B2.out.size), hgz, Nat.le_trans B2.out.size hb.size⟩)
  clear hO hb B2 Y2
  have HL := Lib.hid (show (attrL 64 1 [origin]).length = 4 from by rw [attrL_len]; rfl)
  have c1 := G.out.blk.cell 1 (by simp)
  go_wp2_with fail
  (with_reducible refine (segments_any pp path pn pc four _ (S1.out.ad.below G.out.bel).path S1.out.ad.pn HPA.out.path).mono ?_); rintro e x1 ⟨qy, capy, rfl, hO, hb⟩
  rw [HSG.out] at hO ⊢
  rw [HSN.out]
  have G' := Lib.hid (G.out.next hb)
  have Y := Lib.hid hO.bytes
  clear hO hb c1
  go_wp2_with fail
  (with_reducible refine (attribute_new 2 2 sa rfl 64 qy sg sl capy _ (HT1.out.below G'.out.bel) (by omega) rfl (.inl rfl) Y.out HSN.out (by omega) HSA.out).mono ?_); rintro e x2 ⟨qx, capx, rfl, hO, hb⟩
  have G := Lib.hid (G'.out.next hb)
  have YX := Lib.hid hO.bytes
  have LX := Lib.hid (show (attrL 64 2 sg).length = sa from by rw [attrL_len, HSN.out, HSA.out])
  clear hO hb G' Y
  go_wp2_with (refine wpList_appo (o := ⟨some 25, _, _, _, _, _⟩) (by rfl) (.tmp 19) (.tmp 24) (by rfl) w1.heap.size q cap (attrL 64 1 [origin]) G.out.own (4) HL.out (by rfl) qx (sa) capx (attrL 64 2 sg) YX.out LX.out (by rfl) (4 + sa) (by rfl) (by omega) G.out.hB ?_; intro q4 cap4 w4 hO4 hB4 hG4; have G4 := Lib.hid (G.out.app hO4.out hB4.out); have d2 := G4.out.blk.cell 2 (by simp))
  have HL := Lib.hid (show ((attrL 64 1 [origin] ++ attrL 64 2 sg)).length = 4 + sa from by rw [List.length_append, HL.out, LX.out])
  have G := G4
  clear YX LX G4 hO4 hB4 hG4
  have HI := Lib.hid (ints1 w4 next)
  have HN := Lib.hid (new_below w4 (.cells #[.int .i64 next] 3))
  (with_reducible refine (numbers_new 4 4 rfl _ [next] 1 1 4 _ (by omega) (by omega) HI.out rfl (by omega) rfl (fit1 (fit_four hnb.1 hnb.2))).mono ?_); rintro e x1 ⟨qy, capy, rfl, hO, hb⟩
  rw [nums_one] at hO
  have G' := Lib.hid ((G.out.next HN.out).next hb)
  have Y := Lib.hid hO.bytes
  clear hO hb HI HN d2
  go_wp2_with fail
  (with_reducible refine (attribute_new 3 3 7 rfl 64 qy (putL next 4) 4 capy _ (HT1.out.below G'.out.bel) (by omega) rfl (.inl rfl) Y.out (putL_len ..) (by omega) rfl).mono ?_); rintro e x2 ⟨qx, capx, rfl, hO, hb⟩
  have G := Lib.hid (G'.out.next hb)
  have YX := Lib.hid hO.bytes
  have LX := Lib.hid (show (attrL 64 3 (putL next 4)).length = 7 from by rw [attrL_len, putL_len]; rfl)
  clear hO hb G' Y
  go_wp2_with (refine wpList_appo (o := ⟨some 33, _, _, _, _, _⟩) (by rfl) (.tmp 26) (.tmp 32) (by rfl) w1.heap.size q4 cap4 ((attrL 64 1 [origin] ++ attrL 64 2 sg)) G.out.own (4 + sa) HL.out (by rfl) qx (7) capx (attrL 64 3 (putL next 4)) YX.out LX.out (by rfl) (4 + sa + 7) (by rfl) (by omega) G.out.hB ?_; intro q5 cap5 w5 hO5 hB5 hG5; have G5 := Lib.hid (G.out.app hO5.out hB5.out); have d3 := G5.out.blk.cell 3 (by simp); have d4 := G5.out.blk.cell 4 (by simp); have d5 := G5.out.blk.cell 5 (by simp))
  have HL := Lib.hid (show (((attrL 64 1 [origin] ++ attrL 64 2 sg) ++ attrL 64 3 (putL next 4))).length = 4 + sa + 7 from by rw [List.length_append, HL.out, LX.out])
  have G := G5
  clear YX LX G5 hO5 hB5 hG5
  have HI := Lib.hid (ints1 w5 pref)
  have HN := Lib.hid (new_below w5 (.cells #[.int .i64 pref] 3))
  (with_reducible refine (numbers_new 4 4 rfl _ [pref] 1 1 4 _ (by omega) (by omega) HI.out rfl (by omega) rfl (fit1 (fit_four hp hqb))).mono ?_); rintro e x1 ⟨qy, capy, rfl, hO, hb⟩
  rw [nums_one] at hO
  have G' := Lib.hid ((G.out.next HN.out).next hb)
  have Y := Lib.hid hO.bytes
  clear hO hb HI HN d3 d4 d5
  go_wp2_with fail
  (with_reducible refine (attribute_new 5 5 7 rfl 64 qy (putL pref 4) 4 capy _ (HT1.out.below G'.out.bel) (by omega) rfl (.inl rfl) Y.out (putL_len ..) (by omega) rfl).mono ?_); rintro e x2 ⟨qx, capx, rfl, hO, hb⟩
  have G := Lib.hid (G'.out.next hb)
  have YX := Lib.hid hO.bytes
  have LX := Lib.hid (show (attrL 64 5 (putL pref 4)).length = 7 from by rw [attrL_len, putL_len]; rfl)
  clear hO hb G' Y
  go_wp2_with (refine wpList_appo (o := ⟨some 53, _, _, _, _, _⟩) (by rfl) (.tmp 47) (.tmp 52) (by rfl) w1.heap.size q5 cap5 (((attrL 64 1 [origin] ++ attrL 64 2 sg) ++ attrL 64 3 (putL next 4))) G.out.own (4 + sa + 7) HL.out (by rfl) qx (7) capx (attrL 64 5 (putL pref 4)) YX.out LX.out (by rfl) (4 + sa + 7 + 7) (by rfl) (by omega) G.out.hB ?_; intro q6 cap6 w6 hO6 hB6 hG6; have G6 := Lib.hid (G.out.app hO6.out hB6.out); have d5 := G6.out.blk.cell 5 (by simp))
  have HL := Lib.hid (show ((((attrL 64 1 [origin] ++ attrL 64 2 sg) ++ attrL 64 3 (putL next 4)) ++ attrL 64 5 (putL pref 4))).length = 4 + sa + 7 + 7 from by rw [List.length_append, HL.out, LX.out])
  have G := G6
  clear YX LX G6 hO6 hB6 hG6
  have HFIN := Lib.hid (show po = (((attrL 64 1 [origin] ++ attrL 64 2 sg) ++ attrL 64 3 (putL next 4)) ++ attrL 64 5 (putL pref 4)) from by
    rw [HPO.out, show medL med = [] from by unfold medL; exact if_neg (by omega), show prefL pref = attrL 64 5 (putL pref 4) from by unfold prefL; exact if_pos (by omega), show commsL comms = [] from by unfold commsL; have := S1.out.ad.cn; simp only at this; exact if_neg (by omega)]; simp only [List.append_nil])
  have HLEN := Lib.hid (show po.length = 4 + sa + 7 + 7 from by rw [HFIN.out]; exact HL.out)
  go_ret2
  exact ⟨q6, cap6, by rw [HLEN.out]; rfl, by rw [HFIN.out]; exact G.out.own.mono (Nat.le_of_lt hgz), S1.out.bel.trans (G.out.bel.mono (Nat.le_of_lt hgz))⟩

set_option maxRecDepth 100000 in
set_option maxHeartbeats 4000000 in
theorem putA_011 (origin next med pref : Int) (path : List Seg) (comms : List Int) (pp cp : Option Addr) (pn pc cn cc : Nat) (four : Bool) (w : World) (ht : Tab w) (ha : AtAt w ⟨origin, path, next, med, pref, comms⟩ ⟨pp, pn, pc, cp, cn, cc⟩) (hk : okA ⟨origin, path, next, med, pref, comms⟩ four = true) (hm : med < 0) (hp : 0 ≤ pref) (hc : 0 < cn) :
    Calls Tryd.prog 51 #[.agg #[.int .i64 origin, .slice pp pn pc, .int .u32 next, .int .i64 med, .int .i64 pref, .slice cp cn cc], .bool four] w fun e w' => ∃ p cap, e = .returned (.tuple #[.slice p (putA ⟨origin, path, next, med, pref, comms⟩ four).length cap, .int .i64 0]) ∧ Own w' w.heap.size p cap (putA ⟨origin, path, next, med, pref, comms⟩ four) ∧ Below w.heap.size w w' := by
  obtain ⟨hpa, _⟩ := okA_parts hk
  have hsl := segsL_le hpa.path
  simp only at hsl
  have S0 := BoxSt.new ha
  obtain ⟨W, hW⟩ : ∃ W, w.alloc (.cells #[.int .i64 origin, .slice pp pn pc, .int .u32 next, .int .i64 med, .int .i64 pref, .slice cp cn cc] 27) = W := ⟨_, rfl⟩
  rw [show (atL ⟨origin, path, next, med, pref, comms⟩ ⟨pp, pn, pc, cp, cn, cc⟩).toArray = #[.int .i64 origin, .slice pp pn pc, .int .u32 next, .int .i64 med, .int .i64 pref, .slice cp cn cc] from rfl, hW] at S0
  have HC := Lib.hid (show Calls Tryd.prog 70 #[.agg #[.int .i64 origin, .slice pp pn pc, .int .u32 next, .int .i64 med, .int .i64 pref, .slice cp cn cc], .bool four] W fun e w' => e = .returned (.int .i64 0) ∧ Below W.heap.size W w' from by
    have := checkA_any _ _ four W S0.ad
    rw [show errA ⟨origin, path, next, med, pref, comms⟩ four = 0 by simp [errA, hk]] at this
    exact this)
  obtain ⟨po, hpo⟩ : ∃ po, putA ⟨origin, path, next, med, pref, comms⟩ four = po := ⟨_, rfl⟩
  obtain ⟨sg, hsg⟩ : ∃ sg, segsL four path = sg := ⟨_, rfl⟩
  obtain ⟨sl, hsn⟩ : ∃ sl, sg.length = sl := ⟨_, rfl⟩
  obtain ⟨sa, hsa⟩ : ∃ sa, attrN sl = sa := ⟨_, rfl⟩
  rw [hsg, hsn] at hsl
  have hsa' : sa ≤ 2068 := by rw [← hsa]; unfold attrN; split <;> omega
  have HPO := Lib.hid (show po = attrL 64 1 [origin] ++ attrL 64 2 sg ++ attrL 64 3 (putL next 4) ++ medL med ++ prefL pref ++ commsL comms from by rw [← hpo, ← hsg]; rfl)
  rw [hpo]
  have HSG := Lib.hid hsg
  have HSN := Lib.hid hsn
  have HSA := Lib.hid hsa
  have HPA := Lib.hid hpa
  have hob : 0 ≤ origin ∧ origin ≤ 255 := ⟨hpa.o0, by have := hpa.o1; simp only at this; omega⟩
  have hnb : 0 ≤ next ∧ next ≤ 4294967295 := ⟨S0.ad.n0, S0.ad.n1⟩
  have hmb : med ≤ 4294967295 := hpa.m1
  have hqb : pref ≤ 4294967295 := hpa.p1
  have hcb : cn ≤ 32 := by have h1 := S0.ad.cn; have h2 := hpa.c0; simp only at h1 h2; omega
  have HT := Lib.hid (ht.below S0.bel)
  have HS0 := Lib.hid S0
  have HW := Lib.hid hW
  have HSZ := Lib.hid (show w.heap.size < W.heap.size from S0.kb.lt)
  clear hk hpa S0 hW hpo hsg hsn hsa ht ha
  go_enter Tryd.func51, Tryd.ntmps51
  go_wp2_with fail
  rw [HW.out]
  refine HC.out.mono ?_; rintro e w1 ⟨rfl, hb⟩
  have S1 := Lib.hid (HS0.out.next hb)
  have HT1 := Lib.hid (HT.out.below hb)
  have hgz : w.heap.size < w1.heap.size := Nat.lt_of_lt_of_le HSZ.out hb.size
  clear hb HC HS0 HT
  have c0 := S1.out.kb.cell 0 (by simp [atL])
  simp only [atL, List.getD_cons_zero] at c0
  have HI := Lib.hid (ints1 w1 origin)
  have HN := Lib.hid (new_below w1 (.cells #[.int .i64 origin] 3))
  go_wp2_with fail
  (with_reducible refine (numbers_new 1 1 rfl _ [origin] 1 1 1 _ (by omega) (by omega) HI.out rfl (by omega) rfl (fit1 (fit_byte hob.1 hob.2))).mono ?_); rintro e w2 ⟨q2, cap2, rfl, hO, hb⟩
  rw [nums1_one hob] at hO
  have B2 := Lib.hid (HN.out.trans (hb.mono HN.out.size))
  have Y2 := Lib.hid hO.bytes
  clear hO hb c0 HI HN
  go_wp2_with fail
  (with_reducible refine (attribute_new 1 1 4 rfl 64 q2 [origin] 1 cap2 w2 (HT1.out.below B2.out) (by omega) rfl (.inl rfl) Y2.out rfl (by omega) rfl).mono ?_); rintro e w3 ⟨q, cap, rfl, hO, hb⟩
  have G := Lib.hid (show GrowSt w1 w1.heap.size w.heap.size 27 [.int .i64 origin, .slice pp pn pc, .int .u32 next, .int .i64 med, .int .i64 pref, .slice cp cn cc] w3 q cap (attrL 64 1 [origin]) from ⟨hO.mono B2.out.size, (S1.out.kb.next B2.out).next hb, B2.out.trans (hb.mono B2.out.size), hgz, Nat.le_trans B2.out.size hb.size⟩)
  clear hO hb B2 Y2
  have HL := Lib.hid (show (attrL 64 1 [origin]).length = 4 from by rw [attrL_len]; rfl)
  have c1 := G.out.blk.cell 1 (by simp)
  go_wp2_with fail
  (with_reducible refine (segments_any pp path pn pc four _ (S1.out.ad.below G.out.bel).path S1.out.ad.pn HPA.out.path).mono ?_); rintro e x1 ⟨qy, capy, rfl, hO, hb⟩
  rw [HSG.out] at hO ⊢
  rw [HSN.out]
  have G' := Lib.hid (G.out.next hb)
  have Y := Lib.hid hO.bytes
  clear hO hb c1
  go_wp2_with fail
  (with_reducible refine (attribute_new 2 2 sa rfl 64 qy sg sl capy _ (HT1.out.below G'.out.bel) (by omega) rfl (.inl rfl) Y.out HSN.out (by omega) HSA.out).mono ?_); rintro e x2 ⟨qx, capx, rfl, hO, hb⟩
  have G := Lib.hid (G'.out.next hb)
  have YX := Lib.hid hO.bytes
  have LX := Lib.hid (show (attrL 64 2 sg).length = sa from by rw [attrL_len, HSN.out, HSA.out])
  clear hO hb G' Y
  go_wp2_with (refine wpList_appo (o := ⟨some 25, _, _, _, _, _⟩) (by rfl) (.tmp 19) (.tmp 24) (by rfl) w1.heap.size q cap (attrL 64 1 [origin]) G.out.own (4) HL.out (by rfl) qx (sa) capx (attrL 64 2 sg) YX.out LX.out (by rfl) (4 + sa) (by rfl) (by omega) G.out.hB ?_; intro q4 cap4 w4 hO4 hB4 hG4; have G4 := Lib.hid (G.out.app hO4.out hB4.out); have d2 := G4.out.blk.cell 2 (by simp))
  have HL := Lib.hid (show ((attrL 64 1 [origin] ++ attrL 64 2 sg)).length = 4 + sa from by rw [List.length_append, HL.out, LX.out])
  have G := G4
  clear YX LX G4 hO4 hB4 hG4
  have HI := Lib.hid (ints1 w4 next)
  have HN := Lib.hid (new_below w4 (.cells #[.int .i64 next] 3))
  (with_reducible refine (numbers_new 4 4 rfl _ [next] 1 1 4 _ (by omega) (by omega) HI.out rfl (by omega) rfl (fit1 (fit_four hnb.1 hnb.2))).mono ?_); rintro e x1 ⟨qy, capy, rfl, hO, hb⟩
  rw [nums_one] at hO
  have G' := Lib.hid ((G.out.next HN.out).next hb)
  have Y := Lib.hid hO.bytes
  clear hO hb HI HN d2
  go_wp2_with fail
  (with_reducible refine (attribute_new 3 3 7 rfl 64 qy (putL next 4) 4 capy _ (HT1.out.below G'.out.bel) (by omega) rfl (.inl rfl) Y.out (putL_len ..) (by omega) rfl).mono ?_); rintro e x2 ⟨qx, capx, rfl, hO, hb⟩
  have G := Lib.hid (G'.out.next hb)
  have YX := Lib.hid hO.bytes
  have LX := Lib.hid (show (attrL 64 3 (putL next 4)).length = 7 from by rw [attrL_len, putL_len]; rfl)
  clear hO hb G' Y
  go_wp2_with (refine wpList_appo (o := ⟨some 33, _, _, _, _, _⟩) (by rfl) (.tmp 26) (.tmp 32) (by rfl) w1.heap.size q4 cap4 ((attrL 64 1 [origin] ++ attrL 64 2 sg)) G.out.own (4 + sa) HL.out (by rfl) qx (7) capx (attrL 64 3 (putL next 4)) YX.out LX.out (by rfl) (4 + sa + 7) (by rfl) (by omega) G.out.hB ?_; intro q5 cap5 w5 hO5 hB5 hG5; have G5 := Lib.hid (G.out.app hO5.out hB5.out); have d3 := G5.out.blk.cell 3 (by simp); have d4 := G5.out.blk.cell 4 (by simp); have d5 := G5.out.blk.cell 5 (by simp))
  have HL := Lib.hid (show (((attrL 64 1 [origin] ++ attrL 64 2 sg) ++ attrL 64 3 (putL next 4))).length = 4 + sa + 7 from by rw [List.length_append, HL.out, LX.out])
  have G := G5
  clear YX LX G5 hO5 hB5 hG5
  have HI := Lib.hid (ints1 w5 pref)
  have HN := Lib.hid (new_below w5 (.cells #[.int .i64 pref] 3))
  (with_reducible refine (numbers_new 4 4 rfl _ [pref] 1 1 4 _ (by omega) (by omega) HI.out rfl (by omega) rfl (fit1 (fit_four hp hqb))).mono ?_); rintro e x1 ⟨qy, capy, rfl, hO, hb⟩
  rw [nums_one] at hO
  have G' := Lib.hid ((G.out.next HN.out).next hb)
  have Y := Lib.hid hO.bytes
  clear hO hb HI HN d3 d4 d5
  go_wp2_with fail
  (with_reducible refine (attribute_new 5 5 7 rfl 64 qy (putL pref 4) 4 capy _ (HT1.out.below G'.out.bel) (by omega) rfl (.inl rfl) Y.out (putL_len ..) (by omega) rfl).mono ?_); rintro e x2 ⟨qx, capx, rfl, hO, hb⟩
  have G := Lib.hid (G'.out.next hb)
  have YX := Lib.hid hO.bytes
  have LX := Lib.hid (show (attrL 64 5 (putL pref 4)).length = 7 from by rw [attrL_len, putL_len]; rfl)
  clear hO hb G' Y
  go_wp2_with (refine wpList_appo (o := ⟨some 53, _, _, _, _, _⟩) (by rfl) (.tmp 47) (.tmp 52) (by rfl) w1.heap.size q5 cap5 (((attrL 64 1 [origin] ++ attrL 64 2 sg) ++ attrL 64 3 (putL next 4))) G.out.own (4 + sa + 7) HL.out (by rfl) qx (7) capx (attrL 64 5 (putL pref 4)) YX.out LX.out (by rfl) (4 + sa + 7 + 7) (by rfl) (by omega) G.out.hB ?_; intro q6 cap6 w6 hO6 hB6 hG6; have G6 := Lib.hid (G.out.app hO6.out hB6.out); have d5 := G6.out.blk.cell 5 (by simp))
  have HL := Lib.hid (show ((((attrL 64 1 [origin] ++ attrL 64 2 sg) ++ attrL 64 3 (putL next 4)) ++ attrL 64 5 (putL pref 4))).length = 4 + sa + 7 + 7 from by rw [List.length_append, HL.out, LX.out])
  have G := G6
  clear YX LX G6 hO6 hB6 hG6
  (with_reducible refine (numbers_new 4 4 rfl cp comms cn cc (4 * cn) _ (by omega) (by omega) (S1.out.ad.below G.out.bel).comms S1.out.ad.cn (by omega) rfl HPA.out.c1).mono ?_); rintro e x1 ⟨qy, capy, rfl, hO, hb⟩
  have G' := Lib.hid (G.out.next hb)
  have Y := Lib.hid hO.bytes
  have HY4 := Lib.hid (show (numsL 4 comms).length = 4 * cn from by rw [numsL_len]; have := S1.out.ad.cn; simp only at this; rw [this])
  clear hO hb d5
  obtain ⟨ca, hca⟩ : ∃ ca, attrN (4 * cn) = ca := ⟨_, rfl⟩
  have hca' : ca ≤ 140 := by rw [← hca]; unfold attrN; split <;> omega
  have HCA := Lib.hid hca
  clear hca
  go_wp2_with fail
  (with_reducible refine (attribute_new 8 8 ca rfl 192 qy (numsL 4 comms) (4 * cn) capy _ (HT1.out.below G'.out.bel) (by omega) rfl (.inr (.inr rfl)) Y.out HY4.out (by omega) HCA.out).mono ?_); rintro e x2 ⟨qx, capx, rfl, hO, hb⟩
  have G := Lib.hid (G'.out.next hb)
  have YX := Lib.hid hO.bytes
  have LX := Lib.hid (show (attrL 192 8 (numsL 4 comms)).length = ca from by rw [attrL_len, HY4.out, HCA.out])
  clear hO hb G' Y
  go_wp2_with (refine wpList_appo (o := ⟨some 63, _, _, _, _, _⟩) (by rfl) (.tmp 58) (.tmp 62) (by rfl) w1.heap.size q6 cap6 ((((attrL 64 1 [origin] ++ attrL 64 2 sg) ++ attrL 64 3 (putL next 4)) ++ attrL 64 5 (putL pref 4))) G.out.own (4 + sa + 7 + 7) HL.out (by rfl) qx (ca) capx (attrL 192 8 (numsL 4 comms)) YX.out LX.out (by rfl) (4 + sa + 7 + 7 + ca) (by rfl) (by omega) G.out.hB ?_; intro q7 cap7 w7 hO7 hB7 hG7; have G7 := Lib.hid (G.out.app hO7.out hB7.out))
  have HL := Lib.hid (show (((((attrL 64 1 [origin] ++ attrL 64 2 sg) ++ attrL 64 3 (putL next 4)) ++ attrL 64 5 (putL pref 4)) ++ attrL 192 8 (numsL 4 comms))).length = 4 + sa + 7 + 7 + ca from by rw [List.length_append, HL.out, LX.out])
  have G := G7
  clear YX LX G7 hO7 hB7 hG7
  have HFIN := Lib.hid (show po = ((((attrL 64 1 [origin] ++ attrL 64 2 sg) ++ attrL 64 3 (putL next 4)) ++ attrL 64 5 (putL pref 4)) ++ attrL 192 8 (numsL 4 comms)) from by
    rw [HPO.out, show medL med = [] from by unfold medL; exact if_neg (by omega), show prefL pref = attrL 64 5 (putL pref 4) from by unfold prefL; exact if_pos (by omega), show commsL comms = attrL 192 8 (numsL 4 comms) from by unfold commsL; have := S1.out.ad.cn; simp only at this; exact if_pos (by omega)]; simp only [List.append_nil])
  have HLEN := Lib.hid (show po.length = 4 + sa + 7 + 7 + ca from by rw [HFIN.out]; exact HL.out)
  go_ret2
  exact ⟨q7, cap7, by rw [HLEN.out]; rfl, by rw [HFIN.out]; exact G.out.own.mono (Nat.le_of_lt hgz), S1.out.bel.trans (G.out.bel.mono (Nat.le_of_lt hgz))⟩

set_option maxRecDepth 100000 in
set_option maxHeartbeats 4000000 in
theorem putA_100 (origin next med pref : Int) (path : List Seg) (comms : List Int) (pp cp : Option Addr) (pn pc cn cc : Nat) (four : Bool) (w : World) (ht : Tab w) (ha : AtAt w ⟨origin, path, next, med, pref, comms⟩ ⟨pp, pn, pc, cp, cn, cc⟩) (hk : okA ⟨origin, path, next, med, pref, comms⟩ four = true) (hm : 0 ≤ med) (hp : pref < 0) (hc : cn < 1) :
    Calls Tryd.prog 51 #[.agg #[.int .i64 origin, .slice pp pn pc, .int .u32 next, .int .i64 med, .int .i64 pref, .slice cp cn cc], .bool four] w fun e w' => ∃ p cap, e = .returned (.tuple #[.slice p (putA ⟨origin, path, next, med, pref, comms⟩ four).length cap, .int .i64 0]) ∧ Own w' w.heap.size p cap (putA ⟨origin, path, next, med, pref, comms⟩ four) ∧ Below w.heap.size w w' := by
  obtain ⟨hpa, _⟩ := okA_parts hk
  have hsl := segsL_le hpa.path
  simp only at hsl
  have S0 := BoxSt.new ha
  obtain ⟨W, hW⟩ : ∃ W, w.alloc (.cells #[.int .i64 origin, .slice pp pn pc, .int .u32 next, .int .i64 med, .int .i64 pref, .slice cp cn cc] 27) = W := ⟨_, rfl⟩
  rw [show (atL ⟨origin, path, next, med, pref, comms⟩ ⟨pp, pn, pc, cp, cn, cc⟩).toArray = #[.int .i64 origin, .slice pp pn pc, .int .u32 next, .int .i64 med, .int .i64 pref, .slice cp cn cc] from rfl, hW] at S0
  have HC := Lib.hid (show Calls Tryd.prog 70 #[.agg #[.int .i64 origin, .slice pp pn pc, .int .u32 next, .int .i64 med, .int .i64 pref, .slice cp cn cc], .bool four] W fun e w' => e = .returned (.int .i64 0) ∧ Below W.heap.size W w' from by
    have := checkA_any _ _ four W S0.ad
    rw [show errA ⟨origin, path, next, med, pref, comms⟩ four = 0 by simp [errA, hk]] at this
    exact this)
  obtain ⟨po, hpo⟩ : ∃ po, putA ⟨origin, path, next, med, pref, comms⟩ four = po := ⟨_, rfl⟩
  obtain ⟨sg, hsg⟩ : ∃ sg, segsL four path = sg := ⟨_, rfl⟩
  obtain ⟨sl, hsn⟩ : ∃ sl, sg.length = sl := ⟨_, rfl⟩
  obtain ⟨sa, hsa⟩ : ∃ sa, attrN sl = sa := ⟨_, rfl⟩
  rw [hsg, hsn] at hsl
  have hsa' : sa ≤ 2068 := by rw [← hsa]; unfold attrN; split <;> omega
  have HPO := Lib.hid (show po = attrL 64 1 [origin] ++ attrL 64 2 sg ++ attrL 64 3 (putL next 4) ++ medL med ++ prefL pref ++ commsL comms from by rw [← hpo, ← hsg]; rfl)
  rw [hpo]
  have HSG := Lib.hid hsg
  have HSN := Lib.hid hsn
  have HSA := Lib.hid hsa
  have HPA := Lib.hid hpa
  have hob : 0 ≤ origin ∧ origin ≤ 255 := ⟨hpa.o0, by have := hpa.o1; simp only at this; omega⟩
  have hnb : 0 ≤ next ∧ next ≤ 4294967295 := ⟨S0.ad.n0, S0.ad.n1⟩
  have hmb : med ≤ 4294967295 := hpa.m1
  have hqb : pref ≤ 4294967295 := hpa.p1
  have hcb : cn ≤ 32 := by have h1 := S0.ad.cn; have h2 := hpa.c0; simp only at h1 h2; omega
  have HT := Lib.hid (ht.below S0.bel)
  have HS0 := Lib.hid S0
  have HW := Lib.hid hW
  have HSZ := Lib.hid (show w.heap.size < W.heap.size from S0.kb.lt)
  clear hk hpa S0 hW hpo hsg hsn hsa ht ha
  go_enter Tryd.func51, Tryd.ntmps51
  go_wp2_with fail
  rw [HW.out]
  refine HC.out.mono ?_; rintro e w1 ⟨rfl, hb⟩
  have S1 := Lib.hid (HS0.out.next hb)
  have HT1 := Lib.hid (HT.out.below hb)
  have hgz : w.heap.size < w1.heap.size := Nat.lt_of_lt_of_le HSZ.out hb.size
  clear hb HC HS0 HT
  have c0 := S1.out.kb.cell 0 (by simp [atL])
  simp only [atL, List.getD_cons_zero] at c0
  have HI := Lib.hid (ints1 w1 origin)
  have HN := Lib.hid (new_below w1 (.cells #[.int .i64 origin] 3))
  go_wp2_with fail
  (with_reducible refine (numbers_new 1 1 rfl _ [origin] 1 1 1 _ (by omega) (by omega) HI.out rfl (by omega) rfl (fit1 (fit_byte hob.1 hob.2))).mono ?_); rintro e w2 ⟨q2, cap2, rfl, hO, hb⟩
  rw [nums1_one hob] at hO
  have B2 := Lib.hid (HN.out.trans (hb.mono HN.out.size))
  have Y2 := Lib.hid hO.bytes
  clear hO hb c0 HI HN
  go_wp2_with fail
  (with_reducible refine (attribute_new 1 1 4 rfl 64 q2 [origin] 1 cap2 w2 (HT1.out.below B2.out) (by omega) rfl (.inl rfl) Y2.out rfl (by omega) rfl).mono ?_); rintro e w3 ⟨q, cap, rfl, hO, hb⟩
  have G := Lib.hid (show GrowSt w1 w1.heap.size w.heap.size 27 [.int .i64 origin, .slice pp pn pc, .int .u32 next, .int .i64 med, .int .i64 pref, .slice cp cn cc] w3 q cap (attrL 64 1 [origin]) from ⟨hO.mono B2.out.size, (S1.out.kb.next B2.out).next hb, B2.out.trans (hb.mono B2.out.size), hgz, Nat.le_trans B2.out.size hb.size⟩)
  clear hO hb B2 Y2
  have HL := Lib.hid (show (attrL 64 1 [origin]).length = 4 from by rw [attrL_len]; rfl)
  have c1 := G.out.blk.cell 1 (by simp)
  go_wp2_with fail
  (with_reducible refine (segments_any pp path pn pc four _ (S1.out.ad.below G.out.bel).path S1.out.ad.pn HPA.out.path).mono ?_); rintro e x1 ⟨qy, capy, rfl, hO, hb⟩
  rw [HSG.out] at hO ⊢
  rw [HSN.out]
  have G' := Lib.hid (G.out.next hb)
  have Y := Lib.hid hO.bytes
  clear hO hb c1
  go_wp2_with fail
  (with_reducible refine (attribute_new 2 2 sa rfl 64 qy sg sl capy _ (HT1.out.below G'.out.bel) (by omega) rfl (.inl rfl) Y.out HSN.out (by omega) HSA.out).mono ?_); rintro e x2 ⟨qx, capx, rfl, hO, hb⟩
  have G := Lib.hid (G'.out.next hb)
  have YX := Lib.hid hO.bytes
  have LX := Lib.hid (show (attrL 64 2 sg).length = sa from by rw [attrL_len, HSN.out, HSA.out])
  clear hO hb G' Y
  go_wp2_with (refine wpList_appo (o := ⟨some 25, _, _, _, _, _⟩) (by rfl) (.tmp 19) (.tmp 24) (by rfl) w1.heap.size q cap (attrL 64 1 [origin]) G.out.own (4) HL.out (by rfl) qx (sa) capx (attrL 64 2 sg) YX.out LX.out (by rfl) (4 + sa) (by rfl) (by omega) G.out.hB ?_; intro q4 cap4 w4 hO4 hB4 hG4; have G4 := Lib.hid (G.out.app hO4.out hB4.out); have d2 := G4.out.blk.cell 2 (by simp))
  have HL := Lib.hid (show ((attrL 64 1 [origin] ++ attrL 64 2 sg)).length = 4 + sa from by rw [List.length_append, HL.out, LX.out])
  have G := G4
  clear YX LX G4 hO4 hB4 hG4
  have HI := Lib.hid (ints1 w4 next)
  have HN := Lib.hid (new_below w4 (.cells #[.int .i64 next] 3))
  (with_reducible refine (numbers_new 4 4 rfl _ [next] 1 1 4 _ (by omega) (by omega) HI.out rfl (by omega) rfl (fit1 (fit_four hnb.1 hnb.2))).mono ?_); rintro e x1 ⟨qy, capy, rfl, hO, hb⟩
  rw [nums_one] at hO
  have G' := Lib.hid ((G.out.next HN.out).next hb)
  have Y := Lib.hid hO.bytes
  clear hO hb HI HN d2
  go_wp2_with fail
  (with_reducible refine (attribute_new 3 3 7 rfl 64 qy (putL next 4) 4 capy _ (HT1.out.below G'.out.bel) (by omega) rfl (.inl rfl) Y.out (putL_len ..) (by omega) rfl).mono ?_); rintro e x2 ⟨qx, capx, rfl, hO, hb⟩
  have G := Lib.hid (G'.out.next hb)
  have YX := Lib.hid hO.bytes
  have LX := Lib.hid (show (attrL 64 3 (putL next 4)).length = 7 from by rw [attrL_len, putL_len]; rfl)
  clear hO hb G' Y
  go_wp2_with (refine wpList_appo (o := ⟨some 33, _, _, _, _, _⟩) (by rfl) (.tmp 26) (.tmp 32) (by rfl) w1.heap.size q4 cap4 ((attrL 64 1 [origin] ++ attrL 64 2 sg)) G.out.own (4 + sa) HL.out (by rfl) qx (7) capx (attrL 64 3 (putL next 4)) YX.out LX.out (by rfl) (4 + sa + 7) (by rfl) (by omega) G.out.hB ?_; intro q5 cap5 w5 hO5 hB5 hG5; have G5 := Lib.hid (G.out.app hO5.out hB5.out); have d3 := G5.out.blk.cell 3 (by simp); have d4 := G5.out.blk.cell 4 (by simp); have d5 := G5.out.blk.cell 5 (by simp))
  have HL := Lib.hid (show (((attrL 64 1 [origin] ++ attrL 64 2 sg) ++ attrL 64 3 (putL next 4))).length = 4 + sa + 7 from by rw [List.length_append, HL.out, LX.out])
  have G := G5
  clear YX LX G5 hO5 hB5 hG5
  have HI := Lib.hid (ints1 w5 med)
  have HN := Lib.hid (new_below w5 (.cells #[.int .i64 med] 3))
  (with_reducible refine (numbers_new 4 4 rfl _ [med] 1 1 4 _ (by omega) (by omega) HI.out rfl (by omega) rfl (fit1 (fit_four hm hmb))).mono ?_); rintro e x1 ⟨qy, capy, rfl, hO, hb⟩
  rw [nums_one] at hO
  have G' := Lib.hid ((G.out.next HN.out).next hb)
  have Y := Lib.hid hO.bytes
  clear hO hb HI HN d3 d4 d5
  go_wp2_with fail
  (with_reducible refine (attribute_new 4 4 7 rfl 128 qy (putL med 4) 4 capy _ (HT1.out.below G'.out.bel) (by omega) rfl (.inr (.inl ⟨rfl, by omega⟩)) Y.out (putL_len ..) (by omega) rfl).mono ?_); rintro e x2 ⟨qx, capx, rfl, hO, hb⟩
  have G := Lib.hid (G'.out.next hb)
  have YX := Lib.hid hO.bytes
  have LX := Lib.hid (show (attrL 128 4 (putL med 4)).length = 7 from by rw [attrL_len, putL_len]; rfl)
  clear hO hb G' Y
  go_wp2_with (refine wpList_appo (o := ⟨some 43, _, _, _, _, _⟩) (by rfl) (.tmp 37) (.tmp 42) (by rfl) w1.heap.size q5 cap5 (((attrL 64 1 [origin] ++ attrL 64 2 sg) ++ attrL 64 3 (putL next 4))) G.out.own (4 + sa + 7) HL.out (by rfl) qx (7) capx (attrL 128 4 (putL med 4)) YX.out LX.out (by rfl) (4 + sa + 7 + 7) (by rfl) (by omega) G.out.hB ?_; intro q6 cap6 w6 hO6 hB6 hG6; have G6 := Lib.hid (G.out.app hO6.out hB6.out); have d4 := G6.out.blk.cell 4 (by simp); have d5 := G6.out.blk.cell 5 (by simp))
  have HL := Lib.hid (show ((((attrL 64 1 [origin] ++ attrL 64 2 sg) ++ attrL 64 3 (putL next 4)) ++ attrL 128 4 (putL med 4))).length = 4 + sa + 7 + 7 from by rw [List.length_append, HL.out, LX.out])
  have G := G6
  clear YX LX G6 hO6 hB6 hG6
  have HFIN := Lib.hid (show po = (((attrL 64 1 [origin] ++ attrL 64 2 sg) ++ attrL 64 3 (putL next 4)) ++ attrL 128 4 (putL med 4)) from by
    rw [HPO.out, show medL med = attrL 128 4 (putL med 4) from by unfold medL; exact if_pos (by omega), show prefL pref = [] from by unfold prefL; exact if_neg (by omega), show commsL comms = [] from by unfold commsL; have := S1.out.ad.cn; simp only at this; exact if_neg (by omega)]; simp only [List.append_nil])
  have HLEN := Lib.hid (show po.length = 4 + sa + 7 + 7 from by rw [HFIN.out]; exact HL.out)
  go_ret2
  exact ⟨q6, cap6, by rw [HLEN.out]; rfl, by rw [HFIN.out]; exact G.out.own.mono (Nat.le_of_lt hgz), S1.out.bel.trans (G.out.bel.mono (Nat.le_of_lt hgz))⟩

set_option maxRecDepth 100000 in
set_option maxHeartbeats 4000000 in
theorem putA_101 (origin next med pref : Int) (path : List Seg) (comms : List Int) (pp cp : Option Addr) (pn pc cn cc : Nat) (four : Bool) (w : World) (ht : Tab w) (ha : AtAt w ⟨origin, path, next, med, pref, comms⟩ ⟨pp, pn, pc, cp, cn, cc⟩) (hk : okA ⟨origin, path, next, med, pref, comms⟩ four = true) (hm : 0 ≤ med) (hp : pref < 0) (hc : 0 < cn) :
    Calls Tryd.prog 51 #[.agg #[.int .i64 origin, .slice pp pn pc, .int .u32 next, .int .i64 med, .int .i64 pref, .slice cp cn cc], .bool four] w fun e w' => ∃ p cap, e = .returned (.tuple #[.slice p (putA ⟨origin, path, next, med, pref, comms⟩ four).length cap, .int .i64 0]) ∧ Own w' w.heap.size p cap (putA ⟨origin, path, next, med, pref, comms⟩ four) ∧ Below w.heap.size w w' := by
  obtain ⟨hpa, _⟩ := okA_parts hk
  have hsl := segsL_le hpa.path
  simp only at hsl
  have S0 := BoxSt.new ha
  obtain ⟨W, hW⟩ : ∃ W, w.alloc (.cells #[.int .i64 origin, .slice pp pn pc, .int .u32 next, .int .i64 med, .int .i64 pref, .slice cp cn cc] 27) = W := ⟨_, rfl⟩
  rw [show (atL ⟨origin, path, next, med, pref, comms⟩ ⟨pp, pn, pc, cp, cn, cc⟩).toArray = #[.int .i64 origin, .slice pp pn pc, .int .u32 next, .int .i64 med, .int .i64 pref, .slice cp cn cc] from rfl, hW] at S0
  have HC := Lib.hid (show Calls Tryd.prog 70 #[.agg #[.int .i64 origin, .slice pp pn pc, .int .u32 next, .int .i64 med, .int .i64 pref, .slice cp cn cc], .bool four] W fun e w' => e = .returned (.int .i64 0) ∧ Below W.heap.size W w' from by
    have := checkA_any _ _ four W S0.ad
    rw [show errA ⟨origin, path, next, med, pref, comms⟩ four = 0 by simp [errA, hk]] at this
    exact this)
  obtain ⟨po, hpo⟩ : ∃ po, putA ⟨origin, path, next, med, pref, comms⟩ four = po := ⟨_, rfl⟩
  obtain ⟨sg, hsg⟩ : ∃ sg, segsL four path = sg := ⟨_, rfl⟩
  obtain ⟨sl, hsn⟩ : ∃ sl, sg.length = sl := ⟨_, rfl⟩
  obtain ⟨sa, hsa⟩ : ∃ sa, attrN sl = sa := ⟨_, rfl⟩
  rw [hsg, hsn] at hsl
  have hsa' : sa ≤ 2068 := by rw [← hsa]; unfold attrN; split <;> omega
  have HPO := Lib.hid (show po = attrL 64 1 [origin] ++ attrL 64 2 sg ++ attrL 64 3 (putL next 4) ++ medL med ++ prefL pref ++ commsL comms from by rw [← hpo, ← hsg]; rfl)
  rw [hpo]
  have HSG := Lib.hid hsg
  have HSN := Lib.hid hsn
  have HSA := Lib.hid hsa
  have HPA := Lib.hid hpa
  have hob : 0 ≤ origin ∧ origin ≤ 255 := ⟨hpa.o0, by have := hpa.o1; simp only at this; omega⟩
  have hnb : 0 ≤ next ∧ next ≤ 4294967295 := ⟨S0.ad.n0, S0.ad.n1⟩
  have hmb : med ≤ 4294967295 := hpa.m1
  have hqb : pref ≤ 4294967295 := hpa.p1
  have hcb : cn ≤ 32 := by have h1 := S0.ad.cn; have h2 := hpa.c0; simp only at h1 h2; omega
  have HT := Lib.hid (ht.below S0.bel)
  have HS0 := Lib.hid S0
  have HW := Lib.hid hW
  have HSZ := Lib.hid (show w.heap.size < W.heap.size from S0.kb.lt)
  clear hk hpa S0 hW hpo hsg hsn hsa ht ha
  go_enter Tryd.func51, Tryd.ntmps51
  go_wp2_with fail
  rw [HW.out]
  refine HC.out.mono ?_; rintro e w1 ⟨rfl, hb⟩
  have S1 := Lib.hid (HS0.out.next hb)
  have HT1 := Lib.hid (HT.out.below hb)
  have hgz : w.heap.size < w1.heap.size := Nat.lt_of_lt_of_le HSZ.out hb.size
  clear hb HC HS0 HT
  have c0 := S1.out.kb.cell 0 (by simp [atL])
  simp only [atL, List.getD_cons_zero] at c0
  have HI := Lib.hid (ints1 w1 origin)
  have HN := Lib.hid (new_below w1 (.cells #[.int .i64 origin] 3))
  go_wp2_with fail
  (with_reducible refine (numbers_new 1 1 rfl _ [origin] 1 1 1 _ (by omega) (by omega) HI.out rfl (by omega) rfl (fit1 (fit_byte hob.1 hob.2))).mono ?_); rintro e w2 ⟨q2, cap2, rfl, hO, hb⟩
  rw [nums1_one hob] at hO
  have B2 := Lib.hid (HN.out.trans (hb.mono HN.out.size))
  have Y2 := Lib.hid hO.bytes
  clear hO hb c0 HI HN
  go_wp2_with fail
  (with_reducible refine (attribute_new 1 1 4 rfl 64 q2 [origin] 1 cap2 w2 (HT1.out.below B2.out) (by omega) rfl (.inl rfl) Y2.out rfl (by omega) rfl).mono ?_); rintro e w3 ⟨q, cap, rfl, hO, hb⟩
  have G := Lib.hid (show GrowSt w1 w1.heap.size w.heap.size 27 [.int .i64 origin, .slice pp pn pc, .int .u32 next, .int .i64 med, .int .i64 pref, .slice cp cn cc] w3 q cap (attrL 64 1 [origin]) from ⟨hO.mono B2.out.size, (S1.out.kb.next B2.out).next hb, B2.out.trans (hb.mono B2.out.size), hgz, Nat.le_trans B2.out.size hb.size⟩)
  clear hO hb B2 Y2
  have HL := Lib.hid (show (attrL 64 1 [origin]).length = 4 from by rw [attrL_len]; rfl)
  have c1 := G.out.blk.cell 1 (by simp)
  go_wp2_with fail
  (with_reducible refine (segments_any pp path pn pc four _ (S1.out.ad.below G.out.bel).path S1.out.ad.pn HPA.out.path).mono ?_); rintro e x1 ⟨qy, capy, rfl, hO, hb⟩
  rw [HSG.out] at hO ⊢
  rw [HSN.out]
  have G' := Lib.hid (G.out.next hb)
  have Y := Lib.hid hO.bytes
  clear hO hb c1
  go_wp2_with fail
  (with_reducible refine (attribute_new 2 2 sa rfl 64 qy sg sl capy _ (HT1.out.below G'.out.bel) (by omega) rfl (.inl rfl) Y.out HSN.out (by omega) HSA.out).mono ?_); rintro e x2 ⟨qx, capx, rfl, hO, hb⟩
  have G := Lib.hid (G'.out.next hb)
  have YX := Lib.hid hO.bytes
  have LX := Lib.hid (show (attrL 64 2 sg).length = sa from by rw [attrL_len, HSN.out, HSA.out])
  clear hO hb G' Y
  go_wp2_with (refine wpList_appo (o := ⟨some 25, _, _, _, _, _⟩) (by rfl) (.tmp 19) (.tmp 24) (by rfl) w1.heap.size q cap (attrL 64 1 [origin]) G.out.own (4) HL.out (by rfl) qx (sa) capx (attrL 64 2 sg) YX.out LX.out (by rfl) (4 + sa) (by rfl) (by omega) G.out.hB ?_; intro q4 cap4 w4 hO4 hB4 hG4; have G4 := Lib.hid (G.out.app hO4.out hB4.out); have d2 := G4.out.blk.cell 2 (by simp))
  have HL := Lib.hid (show ((attrL 64 1 [origin] ++ attrL 64 2 sg)).length = 4 + sa from by rw [List.length_append, HL.out, LX.out])
  have G := G4
  clear YX LX G4 hO4 hB4 hG4
  have HI := Lib.hid (ints1 w4 next)
  have HN := Lib.hid (new_below w4 (.cells #[.int .i64 next] 3))
  (with_reducible refine (numbers_new 4 4 rfl _ [next] 1 1 4 _ (by omega) (by omega) HI.out rfl (by omega) rfl (fit1 (fit_four hnb.1 hnb.2))).mono ?_); rintro e x1 ⟨qy, capy, rfl, hO, hb⟩
  rw [nums_one] at hO
  have G' := Lib.hid ((G.out.next HN.out).next hb)
  have Y := Lib.hid hO.bytes
  clear hO hb HI HN d2
  go_wp2_with fail
  (with_reducible refine (attribute_new 3 3 7 rfl 64 qy (putL next 4) 4 capy _ (HT1.out.below G'.out.bel) (by omega) rfl (.inl rfl) Y.out (putL_len ..) (by omega) rfl).mono ?_); rintro e x2 ⟨qx, capx, rfl, hO, hb⟩
  have G := Lib.hid (G'.out.next hb)
  have YX := Lib.hid hO.bytes
  have LX := Lib.hid (show (attrL 64 3 (putL next 4)).length = 7 from by rw [attrL_len, putL_len]; rfl)
  clear hO hb G' Y
  go_wp2_with (refine wpList_appo (o := ⟨some 33, _, _, _, _, _⟩) (by rfl) (.tmp 26) (.tmp 32) (by rfl) w1.heap.size q4 cap4 ((attrL 64 1 [origin] ++ attrL 64 2 sg)) G.out.own (4 + sa) HL.out (by rfl) qx (7) capx (attrL 64 3 (putL next 4)) YX.out LX.out (by rfl) (4 + sa + 7) (by rfl) (by omega) G.out.hB ?_; intro q5 cap5 w5 hO5 hB5 hG5; have G5 := Lib.hid (G.out.app hO5.out hB5.out); have d3 := G5.out.blk.cell 3 (by simp); have d4 := G5.out.blk.cell 4 (by simp); have d5 := G5.out.blk.cell 5 (by simp))
  have HL := Lib.hid (show (((attrL 64 1 [origin] ++ attrL 64 2 sg) ++ attrL 64 3 (putL next 4))).length = 4 + sa + 7 from by rw [List.length_append, HL.out, LX.out])
  have G := G5
  clear YX LX G5 hO5 hB5 hG5
  have HI := Lib.hid (ints1 w5 med)
  have HN := Lib.hid (new_below w5 (.cells #[.int .i64 med] 3))
  (with_reducible refine (numbers_new 4 4 rfl _ [med] 1 1 4 _ (by omega) (by omega) HI.out rfl (by omega) rfl (fit1 (fit_four hm hmb))).mono ?_); rintro e x1 ⟨qy, capy, rfl, hO, hb⟩
  rw [nums_one] at hO
  have G' := Lib.hid ((G.out.next HN.out).next hb)
  have Y := Lib.hid hO.bytes
  clear hO hb HI HN d3 d4 d5
  go_wp2_with fail
  (with_reducible refine (attribute_new 4 4 7 rfl 128 qy (putL med 4) 4 capy _ (HT1.out.below G'.out.bel) (by omega) rfl (.inr (.inl ⟨rfl, by omega⟩)) Y.out (putL_len ..) (by omega) rfl).mono ?_); rintro e x2 ⟨qx, capx, rfl, hO, hb⟩
  have G := Lib.hid (G'.out.next hb)
  have YX := Lib.hid hO.bytes
  have LX := Lib.hid (show (attrL 128 4 (putL med 4)).length = 7 from by rw [attrL_len, putL_len]; rfl)
  clear hO hb G' Y
  go_wp2_with (refine wpList_appo (o := ⟨some 43, _, _, _, _, _⟩) (by rfl) (.tmp 37) (.tmp 42) (by rfl) w1.heap.size q5 cap5 (((attrL 64 1 [origin] ++ attrL 64 2 sg) ++ attrL 64 3 (putL next 4))) G.out.own (4 + sa + 7) HL.out (by rfl) qx (7) capx (attrL 128 4 (putL med 4)) YX.out LX.out (by rfl) (4 + sa + 7 + 7) (by rfl) (by omega) G.out.hB ?_; intro q6 cap6 w6 hO6 hB6 hG6; have G6 := Lib.hid (G.out.app hO6.out hB6.out); have d4 := G6.out.blk.cell 4 (by simp); have d5 := G6.out.blk.cell 5 (by simp))
  have HL := Lib.hid (show ((((attrL 64 1 [origin] ++ attrL 64 2 sg) ++ attrL 64 3 (putL next 4)) ++ attrL 128 4 (putL med 4))).length = 4 + sa + 7 + 7 from by rw [List.length_append, HL.out, LX.out])
  have G := G6
  clear YX LX G6 hO6 hB6 hG6
  (with_reducible refine (numbers_new 4 4 rfl cp comms cn cc (4 * cn) _ (by omega) (by omega) (S1.out.ad.below G.out.bel).comms S1.out.ad.cn (by omega) rfl HPA.out.c1).mono ?_); rintro e x1 ⟨qy, capy, rfl, hO, hb⟩
  have G' := Lib.hid (G.out.next hb)
  have Y := Lib.hid hO.bytes
  have HY4 := Lib.hid (show (numsL 4 comms).length = 4 * cn from by rw [numsL_len]; have := S1.out.ad.cn; simp only at this; rw [this])
  clear hO hb d4 d5
  obtain ⟨ca, hca⟩ : ∃ ca, attrN (4 * cn) = ca := ⟨_, rfl⟩
  have hca' : ca ≤ 140 := by rw [← hca]; unfold attrN; split <;> omega
  have HCA := Lib.hid hca
  clear hca
  go_wp2_with fail
  (with_reducible refine (attribute_new 8 8 ca rfl 192 qy (numsL 4 comms) (4 * cn) capy _ (HT1.out.below G'.out.bel) (by omega) rfl (.inr (.inr rfl)) Y.out HY4.out (by omega) HCA.out).mono ?_); rintro e x2 ⟨qx, capx, rfl, hO, hb⟩
  have G := Lib.hid (G'.out.next hb)
  have YX := Lib.hid hO.bytes
  have LX := Lib.hid (show (attrL 192 8 (numsL 4 comms)).length = ca from by rw [attrL_len, HY4.out, HCA.out])
  clear hO hb G' Y
  go_wp2_with (refine wpList_appo (o := ⟨some 63, _, _, _, _, _⟩) (by rfl) (.tmp 58) (.tmp 62) (by rfl) w1.heap.size q6 cap6 ((((attrL 64 1 [origin] ++ attrL 64 2 sg) ++ attrL 64 3 (putL next 4)) ++ attrL 128 4 (putL med 4))) G.out.own (4 + sa + 7 + 7) HL.out (by rfl) qx (ca) capx (attrL 192 8 (numsL 4 comms)) YX.out LX.out (by rfl) (4 + sa + 7 + 7 + ca) (by rfl) (by omega) G.out.hB ?_; intro q7 cap7 w7 hO7 hB7 hG7; have G7 := Lib.hid (G.out.app hO7.out hB7.out))
  have HL := Lib.hid (show (((((attrL 64 1 [origin] ++ attrL 64 2 sg) ++ attrL 64 3 (putL next 4)) ++ attrL 128 4 (putL med 4)) ++ attrL 192 8 (numsL 4 comms))).length = 4 + sa + 7 + 7 + ca from by rw [List.length_append, HL.out, LX.out])
  have G := G7
  clear YX LX G7 hO7 hB7 hG7
  have HFIN := Lib.hid (show po = ((((attrL 64 1 [origin] ++ attrL 64 2 sg) ++ attrL 64 3 (putL next 4)) ++ attrL 128 4 (putL med 4)) ++ attrL 192 8 (numsL 4 comms)) from by
    rw [HPO.out, show medL med = attrL 128 4 (putL med 4) from by unfold medL; exact if_pos (by omega), show prefL pref = [] from by unfold prefL; exact if_neg (by omega), show commsL comms = attrL 192 8 (numsL 4 comms) from by unfold commsL; have := S1.out.ad.cn; simp only at this; exact if_pos (by omega)]; simp only [List.append_nil])
  have HLEN := Lib.hid (show po.length = 4 + sa + 7 + 7 + ca from by rw [HFIN.out]; exact HL.out)
  go_ret2
  exact ⟨q7, cap7, by rw [HLEN.out]; rfl, by rw [HFIN.out]; exact G.out.own.mono (Nat.le_of_lt hgz), S1.out.bel.trans (G.out.bel.mono (Nat.le_of_lt hgz))⟩

set_option maxRecDepth 100000 in
set_option maxHeartbeats 4000000 in
theorem putA_110 (origin next med pref : Int) (path : List Seg) (comms : List Int) (pp cp : Option Addr) (pn pc cn cc : Nat) (four : Bool) (w : World) (ht : Tab w) (ha : AtAt w ⟨origin, path, next, med, pref, comms⟩ ⟨pp, pn, pc, cp, cn, cc⟩) (hk : okA ⟨origin, path, next, med, pref, comms⟩ four = true) (hm : 0 ≤ med) (hp : 0 ≤ pref) (hc : cn < 1) :
    Calls Tryd.prog 51 #[.agg #[.int .i64 origin, .slice pp pn pc, .int .u32 next, .int .i64 med, .int .i64 pref, .slice cp cn cc], .bool four] w fun e w' => ∃ p cap, e = .returned (.tuple #[.slice p (putA ⟨origin, path, next, med, pref, comms⟩ four).length cap, .int .i64 0]) ∧ Own w' w.heap.size p cap (putA ⟨origin, path, next, med, pref, comms⟩ four) ∧ Below w.heap.size w w' := by
  obtain ⟨hpa, _⟩ := okA_parts hk
  have hsl := segsL_le hpa.path
  simp only at hsl
  have S0 := BoxSt.new ha
  obtain ⟨W, hW⟩ : ∃ W, w.alloc (.cells #[.int .i64 origin, .slice pp pn pc, .int .u32 next, .int .i64 med, .int .i64 pref, .slice cp cn cc] 27) = W := ⟨_, rfl⟩
  rw [show (atL ⟨origin, path, next, med, pref, comms⟩ ⟨pp, pn, pc, cp, cn, cc⟩).toArray = #[.int .i64 origin, .slice pp pn pc, .int .u32 next, .int .i64 med, .int .i64 pref, .slice cp cn cc] from rfl, hW] at S0
  have HC := Lib.hid (show Calls Tryd.prog 70 #[.agg #[.int .i64 origin, .slice pp pn pc, .int .u32 next, .int .i64 med, .int .i64 pref, .slice cp cn cc], .bool four] W fun e w' => e = .returned (.int .i64 0) ∧ Below W.heap.size W w' from by
    have := checkA_any _ _ four W S0.ad
    rw [show errA ⟨origin, path, next, med, pref, comms⟩ four = 0 by simp [errA, hk]] at this
    exact this)
  obtain ⟨po, hpo⟩ : ∃ po, putA ⟨origin, path, next, med, pref, comms⟩ four = po := ⟨_, rfl⟩
  obtain ⟨sg, hsg⟩ : ∃ sg, segsL four path = sg := ⟨_, rfl⟩
  obtain ⟨sl, hsn⟩ : ∃ sl, sg.length = sl := ⟨_, rfl⟩
  obtain ⟨sa, hsa⟩ : ∃ sa, attrN sl = sa := ⟨_, rfl⟩
  rw [hsg, hsn] at hsl
  have hsa' : sa ≤ 2068 := by rw [← hsa]; unfold attrN; split <;> omega
  have HPO := Lib.hid (show po = attrL 64 1 [origin] ++ attrL 64 2 sg ++ attrL 64 3 (putL next 4) ++ medL med ++ prefL pref ++ commsL comms from by rw [← hpo, ← hsg]; rfl)
  rw [hpo]
  have HSG := Lib.hid hsg
  have HSN := Lib.hid hsn
  have HSA := Lib.hid hsa
  have HPA := Lib.hid hpa
  have hob : 0 ≤ origin ∧ origin ≤ 255 := ⟨hpa.o0, by have := hpa.o1; simp only at this; omega⟩
  have hnb : 0 ≤ next ∧ next ≤ 4294967295 := ⟨S0.ad.n0, S0.ad.n1⟩
  have hmb : med ≤ 4294967295 := hpa.m1
  have hqb : pref ≤ 4294967295 := hpa.p1
  have hcb : cn ≤ 32 := by have h1 := S0.ad.cn; have h2 := hpa.c0; simp only at h1 h2; omega
  have HT := Lib.hid (ht.below S0.bel)
  have HS0 := Lib.hid S0
  have HW := Lib.hid hW
  have HSZ := Lib.hid (show w.heap.size < W.heap.size from S0.kb.lt)
  clear hk hpa S0 hW hpo hsg hsn hsa ht ha
  go_enter Tryd.func51, Tryd.ntmps51
  go_wp2_with fail
  rw [HW.out]
  refine HC.out.mono ?_; rintro e w1 ⟨rfl, hb⟩
  have S1 := Lib.hid (HS0.out.next hb)
  have HT1 := Lib.hid (HT.out.below hb)
  have hgz : w.heap.size < w1.heap.size := Nat.lt_of_lt_of_le HSZ.out hb.size
  clear hb HC HS0 HT
  have c0 := S1.out.kb.cell 0 (by simp [atL])
  simp only [atL, List.getD_cons_zero] at c0
  have HI := Lib.hid (ints1 w1 origin)
  have HN := Lib.hid (new_below w1 (.cells #[.int .i64 origin] 3))
  go_wp2_with fail
  (with_reducible refine (numbers_new 1 1 rfl _ [origin] 1 1 1 _ (by omega) (by omega) HI.out rfl (by omega) rfl (fit1 (fit_byte hob.1 hob.2))).mono ?_); rintro e w2 ⟨q2, cap2, rfl, hO, hb⟩
  rw [nums1_one hob] at hO
  have B2 := Lib.hid (HN.out.trans (hb.mono HN.out.size))
  have Y2 := Lib.hid hO.bytes
  clear hO hb c0 HI HN
  go_wp2_with fail
  (with_reducible refine (attribute_new 1 1 4 rfl 64 q2 [origin] 1 cap2 w2 (HT1.out.below B2.out) (by omega) rfl (.inl rfl) Y2.out rfl (by omega) rfl).mono ?_); rintro e w3 ⟨q, cap, rfl, hO, hb⟩
  have G := Lib.hid (show GrowSt w1 w1.heap.size w.heap.size 27 [.int .i64 origin, .slice pp pn pc, .int .u32 next, .int .i64 med, .int .i64 pref, .slice cp cn cc] w3 q cap (attrL 64 1 [origin]) from ⟨hO.mono B2.out.size, (S1.out.kb.next B2.out).next hb, B2.out.trans (hb.mono B2.out.size), hgz, Nat.le_trans B2.out.size hb.size⟩)
  clear hO hb B2 Y2
  have HL := Lib.hid (show (attrL 64 1 [origin]).length = 4 from by rw [attrL_len]; rfl)
  have c1 := G.out.blk.cell 1 (by simp)
  go_wp2_with fail
  (with_reducible refine (segments_any pp path pn pc four _ (S1.out.ad.below G.out.bel).path S1.out.ad.pn HPA.out.path).mono ?_); rintro e x1 ⟨qy, capy, rfl, hO, hb⟩
  rw [HSG.out] at hO ⊢
  rw [HSN.out]
  have G' := Lib.hid (G.out.next hb)
  have Y := Lib.hid hO.bytes
  clear hO hb c1
  go_wp2_with fail
  (with_reducible refine (attribute_new 2 2 sa rfl 64 qy sg sl capy _ (HT1.out.below G'.out.bel) (by omega) rfl (.inl rfl) Y.out HSN.out (by omega) HSA.out).mono ?_); rintro e x2 ⟨qx, capx, rfl, hO, hb⟩
  have G := Lib.hid (G'.out.next hb)
  have YX := Lib.hid hO.bytes
  have LX := Lib.hid (show (attrL 64 2 sg).length = sa from by rw [attrL_len, HSN.out, HSA.out])
  clear hO hb G' Y
  go_wp2_with (refine wpList_appo (o := ⟨some 25, _, _, _, _, _⟩) (by rfl) (.tmp 19) (.tmp 24) (by rfl) w1.heap.size q cap (attrL 64 1 [origin]) G.out.own (4) HL.out (by rfl) qx (sa) capx (attrL 64 2 sg) YX.out LX.out (by rfl) (4 + sa) (by rfl) (by omega) G.out.hB ?_; intro q4 cap4 w4 hO4 hB4 hG4; have G4 := Lib.hid (G.out.app hO4.out hB4.out); have d2 := G4.out.blk.cell 2 (by simp))
  have HL := Lib.hid (show ((attrL 64 1 [origin] ++ attrL 64 2 sg)).length = 4 + sa from by rw [List.length_append, HL.out, LX.out])
  have G := G4
  clear YX LX G4 hO4 hB4 hG4
  have HI := Lib.hid (ints1 w4 next)
  have HN := Lib.hid (new_below w4 (.cells #[.int .i64 next] 3))
  (with_reducible refine (numbers_new 4 4 rfl _ [next] 1 1 4 _ (by omega) (by omega) HI.out rfl (by omega) rfl (fit1 (fit_four hnb.1 hnb.2))).mono ?_); rintro e x1 ⟨qy, capy, rfl, hO, hb⟩
  rw [nums_one] at hO
  have G' := Lib.hid ((G.out.next HN.out).next hb)
  have Y := Lib.hid hO.bytes
  clear hO hb HI HN d2
  go_wp2_with fail
  (with_reducible refine (attribute_new 3 3 7 rfl 64 qy (putL next 4) 4 capy _ (HT1.out.below G'.out.bel) (by omega) rfl (.inl rfl) Y.out (putL_len ..) (by omega) rfl).mono ?_); rintro e x2 ⟨qx, capx, rfl, hO, hb⟩
  have G := Lib.hid (G'.out.next hb)
  have YX := Lib.hid hO.bytes
  have LX := Lib.hid (show (attrL 64 3 (putL next 4)).length = 7 from by rw [attrL_len, putL_len]; rfl)
  clear hO hb G' Y
  go_wp2_with (refine wpList_appo (o := ⟨some 33, _, _, _, _, _⟩) (by rfl) (.tmp 26) (.tmp 32) (by rfl) w1.heap.size q4 cap4 ((attrL 64 1 [origin] ++ attrL 64 2 sg)) G.out.own (4 + sa) HL.out (by rfl) qx (7) capx (attrL 64 3 (putL next 4)) YX.out LX.out (by rfl) (4 + sa + 7) (by rfl) (by omega) G.out.hB ?_; intro q5 cap5 w5 hO5 hB5 hG5; have G5 := Lib.hid (G.out.app hO5.out hB5.out); have d3 := G5.out.blk.cell 3 (by simp); have d4 := G5.out.blk.cell 4 (by simp); have d5 := G5.out.blk.cell 5 (by simp))
  have HL := Lib.hid (show (((attrL 64 1 [origin] ++ attrL 64 2 sg) ++ attrL 64 3 (putL next 4))).length = 4 + sa + 7 from by rw [List.length_append, HL.out, LX.out])
  have G := G5
  clear YX LX G5 hO5 hB5 hG5
  have HI := Lib.hid (ints1 w5 med)
  have HN := Lib.hid (new_below w5 (.cells #[.int .i64 med] 3))
  (with_reducible refine (numbers_new 4 4 rfl _ [med] 1 1 4 _ (by omega) (by omega) HI.out rfl (by omega) rfl (fit1 (fit_four hm hmb))).mono ?_); rintro e x1 ⟨qy, capy, rfl, hO, hb⟩
  rw [nums_one] at hO
  have G' := Lib.hid ((G.out.next HN.out).next hb)
  have Y := Lib.hid hO.bytes
  clear hO hb HI HN d3 d4 d5
  go_wp2_with fail
  (with_reducible refine (attribute_new 4 4 7 rfl 128 qy (putL med 4) 4 capy _ (HT1.out.below G'.out.bel) (by omega) rfl (.inr (.inl ⟨rfl, by omega⟩)) Y.out (putL_len ..) (by omega) rfl).mono ?_); rintro e x2 ⟨qx, capx, rfl, hO, hb⟩
  have G := Lib.hid (G'.out.next hb)
  have YX := Lib.hid hO.bytes
  have LX := Lib.hid (show (attrL 128 4 (putL med 4)).length = 7 from by rw [attrL_len, putL_len]; rfl)
  clear hO hb G' Y
  go_wp2_with (refine wpList_appo (o := ⟨some 43, _, _, _, _, _⟩) (by rfl) (.tmp 37) (.tmp 42) (by rfl) w1.heap.size q5 cap5 (((attrL 64 1 [origin] ++ attrL 64 2 sg) ++ attrL 64 3 (putL next 4))) G.out.own (4 + sa + 7) HL.out (by rfl) qx (7) capx (attrL 128 4 (putL med 4)) YX.out LX.out (by rfl) (4 + sa + 7 + 7) (by rfl) (by omega) G.out.hB ?_; intro q6 cap6 w6 hO6 hB6 hG6; have G6 := Lib.hid (G.out.app hO6.out hB6.out); have d4 := G6.out.blk.cell 4 (by simp); have d5 := G6.out.blk.cell 5 (by simp))
  have HL := Lib.hid (show ((((attrL 64 1 [origin] ++ attrL 64 2 sg) ++ attrL 64 3 (putL next 4)) ++ attrL 128 4 (putL med 4))).length = 4 + sa + 7 + 7 from by rw [List.length_append, HL.out, LX.out])
  have G := G6
  clear YX LX G6 hO6 hB6 hG6
  have HI := Lib.hid (ints1 w6 pref)
  have HN := Lib.hid (new_below w6 (.cells #[.int .i64 pref] 3))
  (with_reducible refine (numbers_new 4 4 rfl _ [pref] 1 1 4 _ (by omega) (by omega) HI.out rfl (by omega) rfl (fit1 (fit_four hp hqb))).mono ?_); rintro e x1 ⟨qy, capy, rfl, hO, hb⟩
  rw [nums_one] at hO
  have G' := Lib.hid ((G.out.next HN.out).next hb)
  have Y := Lib.hid hO.bytes
  clear hO hb HI HN d4 d5
  go_wp2_with fail
  (with_reducible refine (attribute_new 5 5 7 rfl 64 qy (putL pref 4) 4 capy _ (HT1.out.below G'.out.bel) (by omega) rfl (.inl rfl) Y.out (putL_len ..) (by omega) rfl).mono ?_); rintro e x2 ⟨qx, capx, rfl, hO, hb⟩
  have G := Lib.hid (G'.out.next hb)
  have YX := Lib.hid hO.bytes
  have LX := Lib.hid (show (attrL 64 5 (putL pref 4)).length = 7 from by rw [attrL_len, putL_len]; rfl)
  clear hO hb G' Y
  go_wp2_with (refine wpList_appo (o := ⟨some 53, _, _, _, _, _⟩) (by rfl) (.tmp 47) (.tmp 52) (by rfl) w1.heap.size q6 cap6 ((((attrL 64 1 [origin] ++ attrL 64 2 sg) ++ attrL 64 3 (putL next 4)) ++ attrL 128 4 (putL med 4))) G.out.own (4 + sa + 7 + 7) HL.out (by rfl) qx (7) capx (attrL 64 5 (putL pref 4)) YX.out LX.out (by rfl) (4 + sa + 7 + 7 + 7) (by rfl) (by omega) G.out.hB ?_; intro q7 cap7 w7 hO7 hB7 hG7; have G7 := Lib.hid (G.out.app hO7.out hB7.out); have d5 := G7.out.blk.cell 5 (by simp))
  have HL := Lib.hid (show (((((attrL 64 1 [origin] ++ attrL 64 2 sg) ++ attrL 64 3 (putL next 4)) ++ attrL 128 4 (putL med 4)) ++ attrL 64 5 (putL pref 4))).length = 4 + sa + 7 + 7 + 7 from by rw [List.length_append, HL.out, LX.out])
  have G := G7
  clear YX LX G7 hO7 hB7 hG7
  have HFIN := Lib.hid (show po = ((((attrL 64 1 [origin] ++ attrL 64 2 sg) ++ attrL 64 3 (putL next 4)) ++ attrL 128 4 (putL med 4)) ++ attrL 64 5 (putL pref 4)) from by
    rw [HPO.out, show medL med = attrL 128 4 (putL med 4) from by unfold medL; exact if_pos (by omega), show prefL pref = attrL 64 5 (putL pref 4) from by unfold prefL; exact if_pos (by omega), show commsL comms = [] from by unfold commsL; have := S1.out.ad.cn; simp only at this; exact if_neg (by omega)]; simp only [List.append_nil])
  have HLEN := Lib.hid (show po.length = 4 + sa + 7 + 7 + 7 from by rw [HFIN.out]; exact HL.out)
  go_ret2
  exact ⟨q7, cap7, by rw [HLEN.out]; rfl, by rw [HFIN.out]; exact G.out.own.mono (Nat.le_of_lt hgz), S1.out.bel.trans (G.out.bel.mono (Nat.le_of_lt hgz))⟩

set_option maxRecDepth 100000 in
set_option maxHeartbeats 4000000 in
theorem putA_111 (origin next med pref : Int) (path : List Seg) (comms : List Int) (pp cp : Option Addr) (pn pc cn cc : Nat) (four : Bool) (w : World) (ht : Tab w) (ha : AtAt w ⟨origin, path, next, med, pref, comms⟩ ⟨pp, pn, pc, cp, cn, cc⟩) (hk : okA ⟨origin, path, next, med, pref, comms⟩ four = true) (hm : 0 ≤ med) (hp : 0 ≤ pref) (hc : 0 < cn) :
    Calls Tryd.prog 51 #[.agg #[.int .i64 origin, .slice pp pn pc, .int .u32 next, .int .i64 med, .int .i64 pref, .slice cp cn cc], .bool four] w fun e w' => ∃ p cap, e = .returned (.tuple #[.slice p (putA ⟨origin, path, next, med, pref, comms⟩ four).length cap, .int .i64 0]) ∧ Own w' w.heap.size p cap (putA ⟨origin, path, next, med, pref, comms⟩ four) ∧ Below w.heap.size w w' := by
  obtain ⟨hpa, _⟩ := okA_parts hk
  have hsl := segsL_le hpa.path
  simp only at hsl
  have S0 := BoxSt.new ha
  obtain ⟨W, hW⟩ : ∃ W, w.alloc (.cells #[.int .i64 origin, .slice pp pn pc, .int .u32 next, .int .i64 med, .int .i64 pref, .slice cp cn cc] 27) = W := ⟨_, rfl⟩
  rw [show (atL ⟨origin, path, next, med, pref, comms⟩ ⟨pp, pn, pc, cp, cn, cc⟩).toArray = #[.int .i64 origin, .slice pp pn pc, .int .u32 next, .int .i64 med, .int .i64 pref, .slice cp cn cc] from rfl, hW] at S0
  have HC := Lib.hid (show Calls Tryd.prog 70 #[.agg #[.int .i64 origin, .slice pp pn pc, .int .u32 next, .int .i64 med, .int .i64 pref, .slice cp cn cc], .bool four] W fun e w' => e = .returned (.int .i64 0) ∧ Below W.heap.size W w' from by
    have := checkA_any _ _ four W S0.ad
    rw [show errA ⟨origin, path, next, med, pref, comms⟩ four = 0 by simp [errA, hk]] at this
    exact this)
  obtain ⟨po, hpo⟩ : ∃ po, putA ⟨origin, path, next, med, pref, comms⟩ four = po := ⟨_, rfl⟩
  obtain ⟨sg, hsg⟩ : ∃ sg, segsL four path = sg := ⟨_, rfl⟩
  obtain ⟨sl, hsn⟩ : ∃ sl, sg.length = sl := ⟨_, rfl⟩
  obtain ⟨sa, hsa⟩ : ∃ sa, attrN sl = sa := ⟨_, rfl⟩
  rw [hsg, hsn] at hsl
  have hsa' : sa ≤ 2068 := by rw [← hsa]; unfold attrN; split <;> omega
  have HPO := Lib.hid (show po = attrL 64 1 [origin] ++ attrL 64 2 sg ++ attrL 64 3 (putL next 4) ++ medL med ++ prefL pref ++ commsL comms from by rw [← hpo, ← hsg]; rfl)
  rw [hpo]
  have HSG := Lib.hid hsg
  have HSN := Lib.hid hsn
  have HSA := Lib.hid hsa
  have HPA := Lib.hid hpa
  have hob : 0 ≤ origin ∧ origin ≤ 255 := ⟨hpa.o0, by have := hpa.o1; simp only at this; omega⟩
  have hnb : 0 ≤ next ∧ next ≤ 4294967295 := ⟨S0.ad.n0, S0.ad.n1⟩
  have hmb : med ≤ 4294967295 := hpa.m1
  have hqb : pref ≤ 4294967295 := hpa.p1
  have hcb : cn ≤ 32 := by have h1 := S0.ad.cn; have h2 := hpa.c0; simp only at h1 h2; omega
  have HT := Lib.hid (ht.below S0.bel)
  have HS0 := Lib.hid S0
  have HW := Lib.hid hW
  have HSZ := Lib.hid (show w.heap.size < W.heap.size from S0.kb.lt)
  clear hk hpa S0 hW hpo hsg hsn hsa ht ha
  go_enter Tryd.func51, Tryd.ntmps51
  go_wp2_with fail
  rw [HW.out]
  refine HC.out.mono ?_; rintro e w1 ⟨rfl, hb⟩
  have S1 := Lib.hid (HS0.out.next hb)
  have HT1 := Lib.hid (HT.out.below hb)
  have hgz : w.heap.size < w1.heap.size := Nat.lt_of_lt_of_le HSZ.out hb.size
  clear hb HC HS0 HT
  have c0 := S1.out.kb.cell 0 (by simp [atL])
  simp only [atL, List.getD_cons_zero] at c0
  have HI := Lib.hid (ints1 w1 origin)
  have HN := Lib.hid (new_below w1 (.cells #[.int .i64 origin] 3))
  go_wp2_with fail
  (with_reducible refine (numbers_new 1 1 rfl _ [origin] 1 1 1 _ (by omega) (by omega) HI.out rfl (by omega) rfl (fit1 (fit_byte hob.1 hob.2))).mono ?_); rintro e w2 ⟨q2, cap2, rfl, hO, hb⟩
  rw [nums1_one hob] at hO
  have B2 := Lib.hid (HN.out.trans (hb.mono HN.out.size))
  have Y2 := Lib.hid hO.bytes
  clear hO hb c0 HI HN
  go_wp2_with fail
  (with_reducible refine (attribute_new 1 1 4 rfl 64 q2 [origin] 1 cap2 w2 (HT1.out.below B2.out) (by omega) rfl (.inl rfl) Y2.out rfl (by omega) rfl).mono ?_); rintro e w3 ⟨q, cap, rfl, hO, hb⟩
  have G := Lib.hid (show GrowSt w1 w1.heap.size w.heap.size 27 [.int .i64 origin, .slice pp pn pc, .int .u32 next, .int .i64 med, .int .i64 pref, .slice cp cn cc] w3 q cap (attrL 64 1 [origin]) from ⟨hO.mono B2.out.size, (S1.out.kb.next B2.out).next hb, B2.out.trans (hb.mono B2.out.size), hgz, Nat.le_trans B2.out.size hb.size⟩)
  clear hO hb B2 Y2
  have HL := Lib.hid (show (attrL 64 1 [origin]).length = 4 from by rw [attrL_len]; rfl)
  have c1 := G.out.blk.cell 1 (by simp)
  go_wp2_with fail
  (with_reducible refine (segments_any pp path pn pc four _ (S1.out.ad.below G.out.bel).path S1.out.ad.pn HPA.out.path).mono ?_); rintro e x1 ⟨qy, capy, rfl, hO, hb⟩
  rw [HSG.out] at hO ⊢
  rw [HSN.out]
  have G' := Lib.hid (G.out.next hb)
  have Y := Lib.hid hO.bytes
  clear hO hb c1
  go_wp2_with fail
  (with_reducible refine (attribute_new 2 2 sa rfl 64 qy sg sl capy _ (HT1.out.below G'.out.bel) (by omega) rfl (.inl rfl) Y.out HSN.out (by omega) HSA.out).mono ?_); rintro e x2 ⟨qx, capx, rfl, hO, hb⟩
  have G := Lib.hid (G'.out.next hb)
  have YX := Lib.hid hO.bytes
  have LX := Lib.hid (show (attrL 64 2 sg).length = sa from by rw [attrL_len, HSN.out, HSA.out])
  clear hO hb G' Y
  go_wp2_with (refine wpList_appo (o := ⟨some 25, _, _, _, _, _⟩) (by rfl) (.tmp 19) (.tmp 24) (by rfl) w1.heap.size q cap (attrL 64 1 [origin]) G.out.own (4) HL.out (by rfl) qx (sa) capx (attrL 64 2 sg) YX.out LX.out (by rfl) (4 + sa) (by rfl) (by omega) G.out.hB ?_; intro q4 cap4 w4 hO4 hB4 hG4; have G4 := Lib.hid (G.out.app hO4.out hB4.out); have d2 := G4.out.blk.cell 2 (by simp))
  have HL := Lib.hid (show ((attrL 64 1 [origin] ++ attrL 64 2 sg)).length = 4 + sa from by rw [List.length_append, HL.out, LX.out])
  have G := G4
  clear YX LX G4 hO4 hB4 hG4
  have HI := Lib.hid (ints1 w4 next)
  have HN := Lib.hid (new_below w4 (.cells #[.int .i64 next] 3))
  (with_reducible refine (numbers_new 4 4 rfl _ [next] 1 1 4 _ (by omega) (by omega) HI.out rfl (by omega) rfl (fit1 (fit_four hnb.1 hnb.2))).mono ?_); rintro e x1 ⟨qy, capy, rfl, hO, hb⟩
  rw [nums_one] at hO
  have G' := Lib.hid ((G.out.next HN.out).next hb)
  have Y := Lib.hid hO.bytes
  clear hO hb HI HN d2
  go_wp2_with fail
  (with_reducible refine (attribute_new 3 3 7 rfl 64 qy (putL next 4) 4 capy _ (HT1.out.below G'.out.bel) (by omega) rfl (.inl rfl) Y.out (putL_len ..) (by omega) rfl).mono ?_); rintro e x2 ⟨qx, capx, rfl, hO, hb⟩
  have G := Lib.hid (G'.out.next hb)
  have YX := Lib.hid hO.bytes
  have LX := Lib.hid (show (attrL 64 3 (putL next 4)).length = 7 from by rw [attrL_len, putL_len]; rfl)
  clear hO hb G' Y
  go_wp2_with (refine wpList_appo (o := ⟨some 33, _, _, _, _, _⟩) (by rfl) (.tmp 26) (.tmp 32) (by rfl) w1.heap.size q4 cap4 ((attrL 64 1 [origin] ++ attrL 64 2 sg)) G.out.own (4 + sa) HL.out (by rfl) qx (7) capx (attrL 64 3 (putL next 4)) YX.out LX.out (by rfl) (4 + sa + 7) (by rfl) (by omega) G.out.hB ?_; intro q5 cap5 w5 hO5 hB5 hG5; have G5 := Lib.hid (G.out.app hO5.out hB5.out); have d3 := G5.out.blk.cell 3 (by simp); have d4 := G5.out.blk.cell 4 (by simp); have d5 := G5.out.blk.cell 5 (by simp))
  have HL := Lib.hid (show (((attrL 64 1 [origin] ++ attrL 64 2 sg) ++ attrL 64 3 (putL next 4))).length = 4 + sa + 7 from by rw [List.length_append, HL.out, LX.out])
  have G := G5
  clear YX LX G5 hO5 hB5 hG5
  have HI := Lib.hid (ints1 w5 med)
  have HN := Lib.hid (new_below w5 (.cells #[.int .i64 med] 3))
  (with_reducible refine (numbers_new 4 4 rfl _ [med] 1 1 4 _ (by omega) (by omega) HI.out rfl (by omega) rfl (fit1 (fit_four hm hmb))).mono ?_); rintro e x1 ⟨qy, capy, rfl, hO, hb⟩
  rw [nums_one] at hO
  have G' := Lib.hid ((G.out.next HN.out).next hb)
  have Y := Lib.hid hO.bytes
  clear hO hb HI HN d3 d4 d5
  go_wp2_with fail
  (with_reducible refine (attribute_new 4 4 7 rfl 128 qy (putL med 4) 4 capy _ (HT1.out.below G'.out.bel) (by omega) rfl (.inr (.inl ⟨rfl, by omega⟩)) Y.out (putL_len ..) (by omega) rfl).mono ?_); rintro e x2 ⟨qx, capx, rfl, hO, hb⟩
  have G := Lib.hid (G'.out.next hb)
  have YX := Lib.hid hO.bytes
  have LX := Lib.hid (show (attrL 128 4 (putL med 4)).length = 7 from by rw [attrL_len, putL_len]; rfl)
  clear hO hb G' Y
  go_wp2_with (refine wpList_appo (o := ⟨some 43, _, _, _, _, _⟩) (by rfl) (.tmp 37) (.tmp 42) (by rfl) w1.heap.size q5 cap5 (((attrL 64 1 [origin] ++ attrL 64 2 sg) ++ attrL 64 3 (putL next 4))) G.out.own (4 + sa + 7) HL.out (by rfl) qx (7) capx (attrL 128 4 (putL med 4)) YX.out LX.out (by rfl) (4 + sa + 7 + 7) (by rfl) (by omega) G.out.hB ?_; intro q6 cap6 w6 hO6 hB6 hG6; have G6 := Lib.hid (G.out.app hO6.out hB6.out); have d4 := G6.out.blk.cell 4 (by simp); have d5 := G6.out.blk.cell 5 (by simp))
  have HL := Lib.hid (show ((((attrL 64 1 [origin] ++ attrL 64 2 sg) ++ attrL 64 3 (putL next 4)) ++ attrL 128 4 (putL med 4))).length = 4 + sa + 7 + 7 from by rw [List.length_append, HL.out, LX.out])
  have G := G6
  clear YX LX G6 hO6 hB6 hG6
  have HI := Lib.hid (ints1 w6 pref)
  have HN := Lib.hid (new_below w6 (.cells #[.int .i64 pref] 3))
  (with_reducible refine (numbers_new 4 4 rfl _ [pref] 1 1 4 _ (by omega) (by omega) HI.out rfl (by omega) rfl (fit1 (fit_four hp hqb))).mono ?_); rintro e x1 ⟨qy, capy, rfl, hO, hb⟩
  rw [nums_one] at hO
  have G' := Lib.hid ((G.out.next HN.out).next hb)
  have Y := Lib.hid hO.bytes
  clear hO hb HI HN d4 d5
  go_wp2_with fail
  (with_reducible refine (attribute_new 5 5 7 rfl 64 qy (putL pref 4) 4 capy _ (HT1.out.below G'.out.bel) (by omega) rfl (.inl rfl) Y.out (putL_len ..) (by omega) rfl).mono ?_); rintro e x2 ⟨qx, capx, rfl, hO, hb⟩
  have G := Lib.hid (G'.out.next hb)
  have YX := Lib.hid hO.bytes
  have LX := Lib.hid (show (attrL 64 5 (putL pref 4)).length = 7 from by rw [attrL_len, putL_len]; rfl)
  clear hO hb G' Y
  go_wp2_with (refine wpList_appo (o := ⟨some 53, _, _, _, _, _⟩) (by rfl) (.tmp 47) (.tmp 52) (by rfl) w1.heap.size q6 cap6 ((((attrL 64 1 [origin] ++ attrL 64 2 sg) ++ attrL 64 3 (putL next 4)) ++ attrL 128 4 (putL med 4))) G.out.own (4 + sa + 7 + 7) HL.out (by rfl) qx (7) capx (attrL 64 5 (putL pref 4)) YX.out LX.out (by rfl) (4 + sa + 7 + 7 + 7) (by rfl) (by omega) G.out.hB ?_; intro q7 cap7 w7 hO7 hB7 hG7; have G7 := Lib.hid (G.out.app hO7.out hB7.out); have d5 := G7.out.blk.cell 5 (by simp))
  have HL := Lib.hid (show (((((attrL 64 1 [origin] ++ attrL 64 2 sg) ++ attrL 64 3 (putL next 4)) ++ attrL 128 4 (putL med 4)) ++ attrL 64 5 (putL pref 4))).length = 4 + sa + 7 + 7 + 7 from by rw [List.length_append, HL.out, LX.out])
  have G := G7
  clear YX LX G7 hO7 hB7 hG7
  (with_reducible refine (numbers_new 4 4 rfl cp comms cn cc (4 * cn) _ (by omega) (by omega) (S1.out.ad.below G.out.bel).comms S1.out.ad.cn (by omega) rfl HPA.out.c1).mono ?_); rintro e x1 ⟨qy, capy, rfl, hO, hb⟩
  have G' := Lib.hid (G.out.next hb)
  have Y := Lib.hid hO.bytes
  have HY4 := Lib.hid (show (numsL 4 comms).length = 4 * cn from by rw [numsL_len]; have := S1.out.ad.cn; simp only at this; rw [this])
  clear hO hb d5
  obtain ⟨ca, hca⟩ : ∃ ca, attrN (4 * cn) = ca := ⟨_, rfl⟩
  have hca' : ca ≤ 140 := by rw [← hca]; unfold attrN; split <;> omega
  have HCA := Lib.hid hca
  clear hca
  go_wp2_with fail
  (with_reducible refine (attribute_new 8 8 ca rfl 192 qy (numsL 4 comms) (4 * cn) capy _ (HT1.out.below G'.out.bel) (by omega) rfl (.inr (.inr rfl)) Y.out HY4.out (by omega) HCA.out).mono ?_); rintro e x2 ⟨qx, capx, rfl, hO, hb⟩
  have G := Lib.hid (G'.out.next hb)
  have YX := Lib.hid hO.bytes
  have LX := Lib.hid (show (attrL 192 8 (numsL 4 comms)).length = ca from by rw [attrL_len, HY4.out, HCA.out])
  clear hO hb G' Y
  go_wp2_with (refine wpList_appo (o := ⟨some 63, _, _, _, _, _⟩) (by rfl) (.tmp 58) (.tmp 62) (by rfl) w1.heap.size q7 cap7 (((((attrL 64 1 [origin] ++ attrL 64 2 sg) ++ attrL 64 3 (putL next 4)) ++ attrL 128 4 (putL med 4)) ++ attrL 64 5 (putL pref 4))) G.out.own (4 + sa + 7 + 7 + 7) HL.out (by rfl) qx (ca) capx (attrL 192 8 (numsL 4 comms)) YX.out LX.out (by rfl) (4 + sa + 7 + 7 + 7 + ca) (by rfl) (by omega) G.out.hB ?_; intro q8 cap8 w8 hO8 hB8 hG8; have G8 := Lib.hid (G.out.app hO8.out hB8.out))
  have HL := Lib.hid (show ((((((attrL 64 1 [origin] ++ attrL 64 2 sg) ++ attrL 64 3 (putL next 4)) ++ attrL 128 4 (putL med 4)) ++ attrL 64 5 (putL pref 4)) ++ attrL 192 8 (numsL 4 comms))).length = 4 + sa + 7 + 7 + 7 + ca from by rw [List.length_append, HL.out, LX.out])
  have G := G8
  clear YX LX G8 hO8 hB8 hG8
  have HFIN := Lib.hid (show po = (((((attrL 64 1 [origin] ++ attrL 64 2 sg) ++ attrL 64 3 (putL next 4)) ++ attrL 128 4 (putL med 4)) ++ attrL 64 5 (putL pref 4)) ++ attrL 192 8 (numsL 4 comms)) from by
    rw [HPO.out, show medL med = attrL 128 4 (putL med 4) from by unfold medL; exact if_pos (by omega), show prefL pref = attrL 64 5 (putL pref 4) from by unfold prefL; exact if_pos (by omega), show commsL comms = attrL 192 8 (numsL 4 comms) from by unfold commsL; have := S1.out.ad.cn; simp only at this; exact if_pos (by omega)])
  have HLEN := Lib.hid (show po.length = 4 + sa + 7 + 7 + 7 + ca from by rw [HFIN.out]; exact HL.out)
  go_ret2
  exact ⟨q8, cap8, by rw [HLEN.out]; rfl, by rw [HFIN.out]; exact G.out.own.mono (Nat.le_of_lt hgz), S1.out.bel.trans (G.out.bel.mono (Nat.le_of_lt hgz))⟩

theorem putA_ok (a : At) (l : Loc) (four : Bool) (w : World) (ht : Tab w) (ha : AtAt w a l) (hk : okA a four = true) :
    Calls Tryd.prog 51 #[.agg (atL a l).toArray, .bool four] w fun e w' => ∃ p cap, e = .returned (.tuple #[.slice p (putA a four).length cap, .int .i64 0]) ∧ Own w' w.heap.size p cap (putA a four) ∧ Below w.heap.size w w' := by
  obtain ⟨origin, path, next, med, pref, comms⟩ := a
  obtain ⟨pp, pn, pc, cp, cn, cc⟩ := l
  by_cases h0 : 0 ≤ med
  · by_cases h1 : 0 ≤ pref
    · by_cases h2 : 0 < cn
      · exact putA_111 origin next med pref path comms pp cp pn pc cn cc four w ht ha hk (by omega) (by omega) (by omega)
      · exact putA_110 origin next med pref path comms pp cp pn pc cn cc four w ht ha hk (by omega) (by omega) (by omega)
    · by_cases h2 : 0 < cn
      · exact putA_101 origin next med pref path comms pp cp pn pc cn cc four w ht ha hk (by omega) (by omega) (by omega)
      · exact putA_100 origin next med pref path comms pp cp pn pc cn cc four w ht ha hk (by omega) (by omega) (by omega)
  · by_cases h1 : 0 ≤ pref
    · by_cases h2 : 0 < cn
      · exact putA_011 origin next med pref path comms pp cp pn pc cn cc four w ht ha hk (by omega) (by omega) (by omega)
      · exact putA_010 origin next med pref path comms pp cp pn pc cn cc four w ht ha hk (by omega) (by omega) (by omega)
    · by_cases h2 : 0 < cn
      · exact putA_001 origin next med pref path comms pp cp pn pc cn cc four w ht ha hk (by omega) (by omega) (by omega)
      · exact putA_000 origin next med pref path comms pp cp pn pc cn cc four w ht ha hk (by omega) (by omega) (by omega)
end Go.Proofs.YtpeagakpmjnelaaDoor.Ax
