/- The document's path: the walk. -/
import Derived.Test.YtpeagakpmjnelaaDoorUqJ
namespace Go.Proofs.YtpeagakpmjnelaaDoor.Ax
open Go.RowKit
set_option maxRecDepth 100000

theorem step_appi {ops : Array Oper} {o : Oper} {a : Act} {w : World} {K : Act → World → Prop} {Q : Exit → Act → World → Prop} {E : Prop} (hgd : o.guard = none) (s x : Operand)
    (ho : o.op = .call { callee := .builtin .append, args := #[s, x], argTypes := #[25, 25] })
    (B : Nat) (q : Option Addr) (cap n : Nat) (xs : List Int) (hown : w.ownsRow B 3 1 (.slice q n cap) n (xs.map (Value.int .i64))) (hs : a.eval s = .slice q n cap)
    (g : Nat) (y : Int) (hx : a.eval x = .slice (some ⟨g, 0, none⟩) 1 1) (hc : w.cell? ⟨g, 0, none⟩ = some (.int .i64 y)) (h40 : n + 1 ≤ 1099511627776) (hB : B ≤ w.heap.size)
    (h : ∀ q' cap' w', Hid (w'.ownsRow B 3 1 (.slice q' (n + 1) cap') (n + 1) ((xs ++ [y]).map (Value.int .i64))) → Hid (w.grownBy w' (Value.slice q n cap).ownBlock) → K (a.put o.dst (.slice q' (n + 1) cap')) w') :
    if Region.wanted o (yielded ops a.tmps) = true then Oper.wp Tryd.prog o a w K Q else E := by
  have hw : Region.wanted o (yielded ops a.tmps) = true := by simp [Region.wanted, hgd]
  rw [if_pos hw]
  obtain ⟨i0, hi, hz0, hz1, hz2⟩ := info_parts infoInt
  refine wp_append_own w s x 25 ho B 3 i0 (.int .i64 0) 1 8 Tryd.underlying25 hi hz0 hz1 hz2 rfl (by decide) _ n _ hs hown ⟨g, 0, none⟩ 1 1 [.int .i64 y] hx rfl (fun j u hj => ?_) (fun u hu => ?_) (by unfold maxLen; omega) (by omega) hB (fun v' w' h2 h3 _ => ?_)
  · obtain ⟨rfl, rfl⟩ : j = 0 ∧ u = .int .i64 y := by
      match j, hj with
      | 0, hj => simp at hj; exact ⟨rfl, hj.symm⟩
    simpa [Addr.add] using hc
  · simp at hu; subst hu; rfl
  · obtain ⟨q', cap', rfl, _, _⟩ := row_form h2
    exact h q' cap' w' (Lib.hid (by simpa using h2)) (Lib.hid h3)
theorem gb_onto {a b c : World} {r : Option Nat} (h : a.grownBy b r) (k : Below a.heap.size b c) : a.grownBy c r :=
  ⟨k.os.trans h.os, k.tape.trans h.tape, k.output.trans h.output, Nat.le_trans h.size k.size, fun i hi hr => (k.block i hi).trans (h.block i hi hr)⟩
theorem rleft_rel {w : World} {g : Nat} {s : Option (List Int)} (h : RRel w g s) :
    Calls Tryd.prog 39 #[.pointer (some ⟨g, 0, none⟩)] w fun e w' => e = .returned (.int .i64 (leftV s)) ∧ w = w' := by
  obtain ⟨xs, hs, he⟩ := h
  have hk := rleft_any w g xs _ hs
  have hl : (if s.isNone = true then (0 : Int) else xs.length) = leftV s := by
    rcases s with _ | ys
    · rfl
    · obtain rfl := he ys rfl; rfl
  rw [hl] at hk
  exact hk
theorem rbad_cell {w : World} {g : Nat} {s : Option (List Int)} (h : RRel w g s) : w.cell? ⟨g, 1, none⟩ = some (.bool s.isNone) := by
  obtain ⟨xs, ⟨p, cap, hb, _⟩, _⟩ := h
  exact hb.cell 1 (by simp)
theorem numV_one (x : Int) (t : List Int) : numV (some (x :: t)) 1 = x ∧ numNext (some (x :: t)) 1 = some t := by
  have hk : okTake (some (x :: t)) 1 = true := by simp [okTake]; omega
  exact ⟨by simp [numV, wideB, hk, outV, getV], by simp [numNext, wideB, nextV, hk]⟩

theorem sizeW (four : Bool) (w : World) :
    Calls Tryd.prog 47 #[.bool four] w fun e w' => e = .returned (.int .i64 (wideA four : Nat)) ∧ w = w' := by
  have h := size_any four w
  cases four
  · exact h
  · exact h

theorem path_block {w : World} {B n cap : Nat} {q : Option Addr} {l : List Seg} (h : PathOwn w B q n cap l) : ∀ r, (Value.slice q n cap).ownBlock = some r → B ≤ r := by
  obtain ⟨ps, _, _, h3, _⟩ := h
  exact row_block h3
theorem row_not {w : World} {B : Nat} {E : TypeId} {size : Nat} {v : Value} {n : Nat} {xs : List Value} (h : w.ownsRow B E size v n xs) {g : Nat} (hg : g < B) : v.ownBlock = none ∨ v.ownBlock ≠ some g := by
  rcases hv : v.ownBlock with _ | z
  · exact .inl rfl
  · have := row_block h z hv
    exact .inr (by simp; omega)
/-- The numbers of one segment. -/
def INumRel (wb : World) (gs gr : Nat) (set : Bool) (N : Nat) (wide : Nat) (R : List Int × Option (List Int)) (i : Value) (wi : World) : Prop :=
  ∃ (k : Nat) (q : Option Addr) (cap : Nat) (acc : List Int) (st : Option (List Int)), i = .int .i64 k ∧ k ≤ N ∧ Blk wi gs 88 [.bool set, .slice q k cap] ∧ wi.ownsRow (wb.heap.size + 1) 3 1 (.slice q k cap) k (acc.map (Value.int .i64)) ∧ RRel wi gr st ∧ (∀ zs, st = some zs → zs.length ≤ 1000000) ∧ wb.grownBy wi (some gr) ∧ wb.heap.size + 1 ≤ wi.heap.size ∧ (acc ++ (numsS wide (N - k) st).1, (numsS wide (N - k) st).2) = R
theorem numNext_le2 {s : Option (List Int)} {wide : Int} (h : ∀ zs, s = some zs → zs.length ≤ 1000000) : ∀ zs, numNext s wide = some zs → zs.length ≤ 1000000 := by
  intro zs hz
  unfold numNext nextV at hz
  rcases s with _ | ys
  · simp [okTake] at hz
  · have := h ys rfl
    split at hz
    · split at hz
      · simp at hz
        rw [← hz, List.length_drop]; omega
      · cases hz
    · cases hz
def RPathRel (w W : World) (gr : Nat) (four : Bool) (R : Option (List Seg)) (gk : Nat) (v : Value) (wr : World) : Prop :=
  ∃ (acc : List Seg) (m : Nat) (q : Option Addr) (cap : Nat) (ys : List Int) (f : Nat), v = .slice q m cap ∧ m ≤ 8 ∧ PathOwn wr W.heap.size q m cap acc ∧ Below w.heap.size w wr ∧ W.heap.size ≤ wr.heap.size ∧
    RRel wr gr (some ys) ∧ InByte ys ∧ ys.length ≤ 1000000 ∧ ys.length < f ∧ (pathR four f m ys).map (acc ++ ·) = R ∧ gk = ys.length

set_option maxRecDepth 100000 in
set_option maxHeartbeats 4000000 in
theorem rpath_any (four : Bool) (p : Option Addr) (xs : List Int) (n c : Nat) (w : World) (hb : BytesAt w p xs) (hn : xs.length = n) (hc : n ≤ c) (hm : c ≤ maxLen) (hp : ∀ b, p.map (·.block) = some b → b < w.heap.size) (hl : n ≤ 1000000) :
    Calls Tryd.prog 67 #[.slice p n c, .bool four] w fun e w' => PathTo w w' (pathR four (xs.length + 1) 0 xs) e := by
  obtain ⟨W, hW⟩ : ∃ W, w.alloc (.cells #[.slice p n c, .bool false] 83) = W := ⟨_, rfl⟩
  have hbl : Below w.heap.size w W := by rw [← hW]; exact new_below _ _
  have hrr : RRel W w.heap.size (some xs) := by
    refine ⟨xs, ⟨p, c, ?_, hb.below hbl, by omega, hm, hp⟩, fun ys hy => Option.some.inj hy⟩
    rw [← hW, hn]; exact Blk.new _ _ _
  have hsz : W.heap.size = w.heap.size + 1 := by rw [← hW]; simp
  obtain ⟨R, hR⟩ : ∃ R, pathR four (xs.length + 1) 0 xs = R := ⟨_, rfl⟩
  rw [hR]
  have HR := Lib.hid hR
  have HN := Lib.hid (show xs.length ≤ 1000000 by omega)
  have HX := Lib.hid hb.1
  have HBL := Lib.hid hbl
  have HRR := Lib.hid hrr
  have HW := Lib.hid hW
  have HSZ := Lib.hid hsz
  have HWA := fun v : World => Lib.hid (sizeW four v)
  clear hb hn hR hW hbl hrr hsz hp hm
  go_enter Tryd.func67, Tryd.ntmps67
  go_wp2_with fail
  rw [HW.out]
  obtain ⟨gr, hgr⟩ : ∃ gr, w.heap.size = gr := ⟨_, rfl⟩
  have HGR := Lib.hid hgr
  rw [hgr] at HRR HSZ ⊢
  clear hgr
  go_loopg [6] xs.length (fun k v wr => RPathRel w W gr four R k v wr)
  case atStart => exact ⟨[], 0, none, 0, xs, _, rfl, Nat.zero_le _, PathOwn.nil _ _, HBL.out, Nat.le_refl _, HRR.out, HX.out, HN.out, Nat.lt_succ_self _, by rw [HR.out]; cases R <;> simp, rfl⟩
  case round =>
    obtain ⟨acc, m, q, cap, ys, f, rfl, hm8, hown, hbel, hsz, hrd, hib, hyl, hf, hp, hk⟩ := hrel
    have HO := Lib.hid hown
    have HB := Lib.hid hbel
    have HP := Lib.hid hp
    have HT := Lib.hid hrd
    have HS := Lib.hid hsz
    have HL := Lib.hid (rleft_rel hrd)
    clear hown hbel hp hrd hsz HRR HR
    obtain ⟨f, rfl⟩ : ∃ f', f = f' + 1 := ⟨f - 1, by omega⟩
    match ys, hf, hk, hib, hyl, HP, HT, HL with
    | [], hf, hk, hib, hyl, HP, HT, HL =>
      have c1 := rbad_cell HT.out
      clear hk hf hib hyl
      go_wp2_with fail
      refine HL.out.mono ?_; rintro e w2 ⟨rfl, rfl⟩
      rw [show leftV (some ([] : List Int)) = 0 from rfl]
      rw [show (some ([] : List Int)).isNone = false from rfl] at c1
      go_wp2_with fail
      have hS : wr.drew.cell? ⟨gr, 1, none⟩ = some (.bool false) := c1
      clear c1
      go_region_held (fun w' => w'.cell? ⟨gr, 1, none⟩ = some (.bool false)) (with_reducible assumption) (fail)
      go_wp2_with fail
      go_ret2
      rw [← HP.out]
      exact ⟨q, m, cap, rfl, by simp only [List.append_nil]; exact (HO.out.below (Below.refl _ _).drew).mono HBL.out.size, HB.out.drew⟩
    | [a], hf, hk, hib, hyl, HP, HT, HL =>
      have h1 := rnum_any wr gr (some [a]) 1 HT.out (fun zs hz => by obtain rfl := Option.some.inj hz; omega)
      rw [(numV_one a []).1, (numV_one a []).2] at h1
      have HN1 := Lib.hid h1
      clear hk hf hib hyl h1
      go_wp2_with fail
      refine HL.out.mono ?_; rintro e w2 ⟨rfl, rfl⟩
      rw [show leftV (some [a]) = 1 from rfl]
      go_wp2_with fail
      refine HN1.out.mono ?_; rintro e w2 ⟨rfl, hr, hg⟩
      have h2 := rnum_any w2 gr (some []) 1 hr (fun zs hz => by obtain rfl := Option.some.inj hz; simp)
      rw [show ((1 : Int)) = ((1 : Nat) : Int) from rfl, (numV_no (wide := 1) (xs := []) (by simp)).1, (numV_no (wide := 1) (xs := []) (by simp)).2] at h2
      have HN2 := Lib.hid h2
      have HB2 := Lib.hid (below_new HB.out hg (Nat.le_of_eq HGR.out) HB.out.size)
      clear hr hg HN1 h2
      go_wp2_with fail
      refine HN2.out.mono ?_; rintro e w3 ⟨rfl, hr, hg⟩
      have HB3 := Lib.hid (below_new HB2.out hg (Nat.le_of_eq HGR.out) HB2.out.size)
      have c1 := rbad_cell hr
      rw [show (none : Option (List Int)).isNone = true from rfl] at c1
      clear hr hg HN2
      go_wp2_with fail
      go_ret2
      rw [← HP.out]
      exact ⟨rfl, HB3.out⟩
    | a :: b :: t, hf, hk, hib, hyl, HP, HT, HL =>
      have h1 := rnum_any wr gr (some (a :: b :: t)) 1 HT.out (fun zs hz => by obtain rfl := Option.some.inj hz; omega)
      rw [(numV_one a (b :: t)).1, (numV_one a (b :: t)).2] at h1
      have HN1 := Lib.hid h1
      obtain ⟨b0, b1⟩ := inByte_cons (inByte_tail hib)
      obtain ⟨a0, a1⟩ := inByte_cons hib
      obtain ⟨j, rfl⟩ := Int.eq_ofNat_of_zero_le b0
      have HIB := Lib.hid (inByte_tail (inByte_tail hib))
      have HEV := Lib.hid (pathR_cons four f m a (j : Int) t)
      rw [Int.toNat_natCast] at HEV
      have HLV := Lib.hid (show leftV (some (a :: (j : Int) :: t)) = t.length + 2 from rfl)
      have hkl : gk = t.length + 2 := hk
      have hfl : t.length + 1 < f := by simp at hf; omega
      have hyl2 : t.length + 2 ≤ 1000000 := hyl
      clear hk hf hib hyl b0 h1
      go_wp2_with fail
      refine HL.out.mono ?_; rintro e w2 ⟨rfl, rfl⟩
      rw [HLV.out]
      go_wp2_with fail
      refine HN1.out.mono ?_; rintro e w2 ⟨rfl, hr, hg⟩
      have h2 := rnum_any w2 gr (some ((j : Int) :: t)) 1 hr (fun zs hz => by obtain rfl := Option.some.inj hz; simp; omega)
      rw [(numV_one (j : Int) t).1, (numV_one (j : Int) t).2] at h2
      have HN2 := Lib.hid h2
      have HB2 := Lib.hid (below_new HB.out hg (Nat.le_of_eq HGR.out) HB.out.size)
      have HO2 := Lib.hid (HO.out.read hg (by have := HSZ.out; omega))
      have HS2 := Lib.hid (Nat.le_trans HS.out hg.size)
      clear hr hg HN1 h2 HO HB HS HL
      go_wp2_with fail
      refine HN2.out.mono ?_; rintro e w3 ⟨rfl, hr, hg⟩
      have HB3 := Lib.hid (below_new HB2.out hg (Nat.le_of_eq HGR.out) HB2.out.size)
      have HO3 := Lib.hid (HO2.out.read hg (by have := HSZ.out; omega))
      have HS3 := Lib.hid (Nat.le_trans HS2.out hg.size)
      have HR3 := Lib.hid hr
      have c1 := rbad_cell hr
      rw [show (some t).isNone = false from rfl] at c1
      clear hr hg HN2 HO2 HB2 HS2
      by_cases hgood : (a = 1 ∨ a = 2) ∧ 1 ≤ j ∧ j ≤ 64 ∧ m < 8
      · obtain ⟨ga, gj1, gj2, gm⟩ := hgood
        have t1 : decide (a < 1) = false := by simp; omega
        have t2 : decide (2 < a) = false := by simp; omega
        have t3 : decide ((j : Int) < 1) = false := by simp; omega
        have t4 : decide (64 < (j : Int)) = false := by simp; omega
        have t5 : decide ((8 : Int) ≤ (m : Int)) = false := by simp; omega
        have hnb := new_below w3 (.cells #[.bool (a == 1), .slice none 0 0] 88)
        have HK := Lib.hid (Blk.new w3 88 [.bool (a == 1), .slice none 0 0])
        obtain ⟨V, hV⟩ : ∃ V, w3.alloc (.cells #[.bool (a == 1), .slice none 0 0] 88) = V := ⟨_, rfl⟩
        have HSV := Lib.hid (show V.heap.size = w3.heap.size + 1 by rw [← hV]; simp)
        rw [show w3.alloc (.cells [.bool (a == 1), .slice none 0 0].toArray 88) = V from hV] at HK
        rw [hV] at hnb
        have HNB := Lib.hid hnb
        have HRV := Lib.hid (HR3.out.below hnb)
        have HV := Lib.hid hV
        clear hnb hV
        obtain ⟨RR, hRR⟩ : ∃ RR, numsS (wideA four : Nat) j (some t) = RR := ⟨_, rfl⟩
        have HRR := Lib.hid hRR
        have hgrs : gr < w3.heap.size := HR3.out.lt
        obtain ⟨h1w, h4w⟩ := wideA_bd four
        obtain ⟨wd, hwd⟩ : ∃ wd, wideA four = wd := ⟨_, rfl⟩
        rw [hwd] at HRR HWA h1w h4w HEV
        clear hRR
        go_wp2_with fail
        rw [HV.out]
        go_loopw [11] (fun i wi => INumRel w3 w3.heap.size gr (a == 1) j wd RR i wi) (fun i _ => j - (intOf i).toNat)
        case atStart => exact ⟨0, none, 0, [], some t, rfl, Nat.zero_le _, HK.out, World.ownsRow_nil _ _ _ _, HRV.out, fun zs hz => by obtain rfl := Option.some.inj hz; omega, gb_below HNB.out, Nat.le_of_eq HSV.out.symm, by rw [Nat.sub_zero, HRR.out]; rfl⟩
        case round =>
          obtain ⟨k, q1, cap1, ac, st, rfl, hkj, hK1, hO1, hR1, hst, hG1, hS1, hQ1⟩ := hrel
          have HK1 := Lib.hid hK1
          have HO1 := Lib.hid hO1
          have HG1 := Lib.hid hG1
          have HQ1 := Lib.hid hQ1
          have HS1 := Lib.hid hS1
          have HR1 := Lib.hid hR1
          by_cases hlt : k < j
          · have HNM := Lib.hid (fun u (h : Below wr.heap.size wr u) => rnum_any u gr st (wd : Int) (hR1.below h) (fun zs hz => by have := hst zs hz; omega))
            have HST := Lib.hid (numNext_le2 (wide := (wd : Int)) hst)
            have c5 : wr.drew.cell? ⟨w3.heap.size, 1, none⟩ = some (.slice q1 k cap1) := hK1.cell 1 (by simp)
            have BB := Lib.hid (show Below wr.heap.size wr wr.drew from (Below.refl _ _).drew)
            have HQ2 := Lib.hid (show (ac ++ [numV st (wd : Int)] ++ (numsS (wd : Int) (j - (k + 1)) (numNext st wd)).1, (numsS (wd : Int) (j - (k + 1)) (numNext st wd)).2) = RR by
              rw [← hQ1, show j - k = j - (k + 1) + 1 from by omega, numsS, List.append_assoc]; rfl)
            obtain ⟨y, hy⟩ : ∃ y, numV st (wd : Int) = y := ⟨_, rfl⟩
            obtain ⟨st2, hst2⟩ : ∃ st2, numNext st (wd : Int) = st2 := ⟨_, rfl⟩
            rw [hy, hst2] at HNM HQ2
            rw [hst2] at HST
            clear hy hst2 hst hK1 hO1 hG1 hQ1 hS1 hR1
            go_wp2_with fail
            go_region_law (first
              | (go_simp; go_at_call 47; (with_reducible refine (HWA _).out.mono ?_); rintro e w' ⟨rfl, rfl⟩)
              | (go_simp; go_at_call 40; (with_reducible refine (HNM.out _ BB.out).mono ?_); rintro e w4 ⟨rfl, hr4, hg4⟩; have HG4 := Lib.hid (gb_trans HG1.out (gb_trans (gb_below BB.out) hg4)); have HK4 := Lib.hid ((HK1.out.next BB.out).grown (Nat.ne_of_gt hgrs) hg4); have HR4 := Lib.hid hr4; have HS4 := Lib.hid (Nat.le_trans HS1.out hg4.size); have HO4 := Lib.hid ((row_below HO1.out BB.out).kept hg4 (row_not HO1.out (Nat.lt_succ_of_lt hgrs))); have c5 : w4.cell? ⟨w3.heap.size, 1, none⟩ = some (.slice q1 k cap1) := HK4.out.cell 1 (by simp); have c6 : (w4.alloc (.cells #[.int .i64 y] 3)).cell? ⟨w3.heap.size, 1, none⟩ = some (.slice q1 k cap1) := (HK4.out.alloc _).cell 1 (by simp); clear hr4 hg4)
              | (refine step_appi rfl (.tmp 56) (.tmp 61) rfl (w3.heap.size + 1) q1 cap1 k ac (HO4.out.alloc _) rfl w4.heap.size y rfl ((Blk.new w4 3 [.int .i64 y]).cell 0 (by simp)) ?b1 ?b2 ?_; (case b1 => omega); (case b2 => have := HS4.out; simp; omega); intro q5 cap5 w5 hO5 hG5; have HK5 := Lib.hid ((HK4.out.alloc (.cells #[.int .i64 y] 3)).of_same (hG5.out.block _ (HK4.out.alloc (.cells #[.int .i64 y] 3)).lt (fun e => by have := row_block HO4.out _ e.symm; omega))); have c5 : w5.cell? ⟨w3.heap.size, 1, none⟩ = some (.slice q1 k cap1) := HK5.out.cell 1 (by simp); have f5 := HK5.out.f 1))
            all_goals
              have hb1 : Below w3.heap.size w4 (w4.alloc (.cells #[.int .i64 y] 3)) := (Below.refl _ _).alloc (by have := HS4.out; omega) _
              have hb2 : Below w3.heap.size w4 w5 := hb1.trans ((Below.refl _ _).grown hG5.out (by have := HS4.out; simp; omega) (fun r hr => by have := row_block HO4.out r hr; omega))
              have HB2 := Lib.hid hb2
              have HR5 := Lib.hid (((HR4.out.below (new_below w4 (.cells #[.int .i64 y] 3))).above hG5.out (fun r hr => by have := row_block HO4.out r hr; omega)).above (gb_set w5 ⟨w3.heap.size, 1, none⟩ (.slice q5 (k + 1) cap5)) (fun r hr => by have : w3.heap.size = r := Option.some.inj hr; omega))
              clear hb1 hb2
              go_wp2_with fail
              go_roundw
              case rel => exact ⟨k + 1, q5, cap5, ac ++ [y], st2, by go_num, hlt, HK5.out.set 1 _, row_past hO5.out HK5.out (by decide) (gb_set w5 ⟨w3.heap.size, 1, none⟩ (.slice q5 (k + 1) cap5)), HR5.out, HST.out, gb_onto HG4.out (HB2.out.setCell (Nat.le_refl _) _), by have := HB2.out.size; have := HS4.out; simp; omega, HQ2.out⟩
              case measure => simp [intOf]; omega
          · obtain rfl : k = j := by omega
            have hqq : (ac, st) = RR := by rw [← hQ1, Nat.sub_self]; simp [numsS]
            have c5 := rbad_cell hR1
            have HO5 := Lib.hid (HO3.out.read hG1 (by have := HSZ.out; omega))
            have HB5 := Lib.hid (below_new HB3.out hG1 (Nat.le_of_eq HGR.out) HB3.out.size)
            have HS5 := Lib.hid (Nat.le_trans HS3.out hG1.size)
            by_cases hfit : k * wd ≤ t.length
            · have hq3 := hqq.trans (HRR.out.symm.trans (numsS_ok h1w h4w k t hfit))
              obtain ⟨rfl, rfl⟩ := Prod.mk.inj hq3
              rw [show (some (t.drop (k * wd))).isNone = false from rfl] at c5
              have e0 := hK1.cell 0 (by simp)
              have e1 := hK1.cell 1 (by simp)
              simp only [List.getD_cons_zero, List.getD_cons_succ] at e0 e1
              have HE := Lib.hid (HEV.out.trans (if_pos ⟨ga, by omega, by omega, gm, hfit⟩))
              obtain ⟨nu, hnu⟩ : ∃ nu, numsV wd (t.take (k * wd)) = nu := ⟨_, rfl⟩
              rw [hnu] at HE HO1
              have hnl : nu.length = k := by
                have := row_len HO1.out
                simpa using this
              have HNL := Lib.hid hnl
              have hnw := new_below wr (.cells #[.bool (a == 1), .slice q1 k cap1] 88)
              have HOX := Lib.hid (HO5.out.below hnw)
              have HKX := Lib.hid (show Blk (wr.alloc (.cells #[.bool (a == 1), .slice q1 k cap1] 88)) wr.heap.size 88 [.bool (a == 1), .slice q1 k cap1] from Blk.new wr 88 [.bool (a == 1), .slice q1 k cap1])
              have HRX := Lib.hid (show (wr.alloc (.cells #[.bool (a == 1), .slice q1 k cap1] 88)).ownsRow W.heap.size 3 1 (.slice q1 k cap1) (Seg.mk (a == 1) nu).nums.length ((Seg.mk (a == 1) nu).nums.map (Value.int .i64)) from by
                show World.ownsRow _ _ _ _ _ nu.length _
                rw [hnl]; exact (row_below HO1.out hnw).mono (by have := HS3.out; omega))
              have HTX := Lib.hid (hR1.below hnw)
              have HBX := Lib.hid (HB5.out.trans (hnw.mono HB5.out.size))
              have HSX := Lib.hid (show W.heap.size ≤ (wr.alloc (.cells #[.bool (a == 1), .slice q1 k cap1] 88)).heap.size from Nat.le_trans HS5.out hnw.size)
              clear hnu hnl hqq hq3 hK1 hO1 hG1 hQ1 hS1 hR1 HEV hst hnw
              go_wp2_with (refine wpList_apps (o := ⟨some 71, _, _, _, _, _⟩) (by rfl) (.tmp 68) (.tmp 70) (by rfl) W.heap.size q cap m acc HOX.out (by rfl) wr.heap.size ⟨a == 1, nu⟩ (.slice q1 k cap1) (by rfl) HKX.out (by rfl) HRX.out (by omega) HSX.out ?_; intro q6 cap6 w6 hO6 hG6)
              have HRB := Lib.hid (path_block HOX.out)
              go_roundg (t.drop (k * wd)).length
              case rel =>
                refine ⟨acc ++ [⟨a == 1, nu⟩], m + 1, q6, cap6, t.drop (k * wd), f, rfl, by omega, hO6.out, HBX.out.trans ((Below.refl _ _).grown hG6.out HBX.out.size (fun r hr => Nat.le_trans HBL.out.size (HRB.out r hr))), Nat.le_trans HSX.out hG6.out.size, HTX.out.above hG6.out (fun r hr => by have := HRB.out r hr; have := HSZ.out; omega), inByte_drop HIB.out _, by rw [List.length_drop]; omega, by rw [List.length_drop]; omega, ?_, rfl⟩
                rw [← HP.out, HE.out, Option.map_map]
                congr 1
                funext l
                simp
              case measure => rw [List.length_drop]; omega
            · have hq3 := numsS_bad h1w h4w k t (by omega)
              rw [HRR.out, ← hqq] at hq3
              have hq4 : st = none := hq3
              subst hq4
              rw [show (none : Option (List Int)).isNone = true from rfl] at c5
              have HPN := Lib.hid (HP.out.symm.trans (congrArg (Option.map (acc ++ ·)) (HEV.out.trans (if_neg (fun h => hfit h.2.2.2.2)))))
              clear hqq hq3 hK1 hO1 hG1 hQ1 hS1 hR1 HEV hst
              go_wp2_with fail
              go_ret2
              rw [HPN.out]
              exact ⟨rfl, HB5.out⟩
      · have HPN := Lib.hid (HP.out.symm.trans (congrArg (Option.map (acc ++ ·)) (HEV.out.trans (if_neg (fun h => hgood ⟨h.1, by omega, by omega, h.2.2.2.1⟩)))))
        have key : ∀ u : World, Below w.heap.size w u → PathTo w u R (.returned (.tuple #[.slice none 0 0, .bool false])) := fun u hu => by
          rw [HPN.out]; exact ⟨rfl, hu⟩
        have HKEY := Lib.hid (key _ HB3.out)
        clear key HPN HEV HP
        by_cases g1 : a < 1
        · have t1 : decide (a < 1) = true := by simpa using g1
          go_wp2_with fail
          go_ret2
          exact HKEY.out
        · by_cases g2 : 2 < a
          · have t1 : decide (a < 1) = false := by simpa using g1
            have t2 : decide (2 < a) = true := by simpa using g2
            go_wp2_with fail
            go_ret2
            exact HKEY.out
          · by_cases g3 : j < 1
            · obtain rfl : j = 0 := by omega
              have t1 : decide (a < 1) = false := by simpa using g1
              have t2 : decide (2 < a) = false := by simpa using g2
              go_wp2_with fail
              go_ret2
              exact HKEY.out
            · by_cases g4 : 64 < j
              · have t1 : decide (a < 1) = false := by simpa using g1
                have t2 : decide (2 < a) = false := by simpa using g2
                have t3 : decide ((j : Int) < 1) = false := by simp; omega
                have t4 : decide (64 < (j : Int)) = true := by simp; omega
                go_wp2_with fail
                go_ret2
                exact HKEY.out
              · obtain rfl : m = 8 := by omega
                have t1 : decide (a < 1) = false := by simpa using g1
                have t2 : decide (2 < a) = false := by simpa using g2
                have t3 : decide ((j : Int) < 1) = false := by simp; omega
                have t4 : decide (64 < (j : Int)) = false := by simp; omega
                go_wp2_with fail
                go_ret2
                exact HKEY.out
end Go.Proofs.YtpeagakpmjnelaaDoor.Ax
