/- ref05: Put. -/
import Derived.Test.YtpeagakpmjnelaaDoorAS
namespace Go.Proofs.YtpeagakpmjnelaaDoor.Ax
open Go.RowKit
set_option maxRecDepth 100000

/-- The state of the loop over segments. -/
def RSegRel (W : World) (four : Bool) (n : Nat) (l : List Seg) (b i : Value) (wr : World) : Prop :=
  ∃ (k m : Nat) (p : Option Addr) (cap : Nat), k ≤ n ∧ i = .int .i64 k ∧ b = .slice p m cap ∧ (segsL four (l.take k)).length = m ∧ m ≤ 258 * k ∧ Own wr W.heap.size p cap (segsL four (l.take k)) ∧ Below W.heap.size W wr
/-- The state of the loop over a segment's numbers. -/
def RNumRel (W : World) (g : Nat) (vs : List Value) (wd n m : Nat) (L : List Int) (xs : List Int) (b i : Value) (wi : World) : Prop :=
  ∃ (j : Nat) (p : Option Addr) (cap : Nat), j ≤ n ∧ i = .int .i64 j ∧ b = .slice p (m + 2 + wd * j) cap ∧ Own wi W.heap.size p cap (L ++ numsL wd (xs.take j)) ∧ Below W.heap.size W wi ∧ Blk wi g 88 vs ∧ (∀ z, p.map (·.block) = some z → z ≠ g)
/-- The state of the loop over communities. -/
def RComRel (W : World) (n : Nat) (xs : List Int) (b i : Value) (wr : World) : Prop :=
  ∃ (k m : Nat) (p : Option Addr) (cap : Nat), k ≤ n ∧ i = .int .i64 k ∧ b = .slice p m cap ∧ 4 * k = m ∧ Own wr W.heap.size p cap (numsL 4 (xs.take k)) ∧ Below W.heap.size W wr

theorem size_w (four : Bool) (wd : Nat) (h : wideA four = wd) (w : World) :
    Calls Tryd.prog 47 #[.bool four] w fun e w' => e = .returned (.int .i64 (wd : Int)) ∧ w' = w := (size_any four w).mono fun _ _ h' => ⟨by rw [h'.1, ← h]; cases four <;> rfl, h'.2.symm⟩
theorem rput_w (x : Int) (wide : Nat) (w : World) (h1 : 1 ≤ wide) (h4 : wide ≤ 4) (h : fitsB x wide = true) :
    Calls Tryd.prog 49 #[.int .i64 x, .int .i64 wide] w fun e w' => e = .returned (.slice (some ⟨w.heap.size, 0, none⟩) wide wide) ∧ BytesAt w' (some ⟨w.heap.size, 0, none⟩) (putL x wide) ∧ Below w.heap.size w w' :=
  (rput_fits x wide w h1 h4 h).mono fun _ _ h => ⟨h.1, h.2.1.list.bytes (putL_byte _ _), h.2.2⟩
theorem rput_4 (x : Int) (w : World) (h0 : 0 ≤ x) (h1 : x ≤ 4294967295) :
    Calls Tryd.prog 49 #[.int .i64 x, .int .i64 4] w fun e w' => e = .returned (.slice (some ⟨w.heap.size, 0, none⟩) 4 4) ∧ BytesAt w' (some ⟨w.heap.size, 0, none⟩) (putL x 4) ∧ Below w.heap.size w w' := rput_w x 4 w (by omega) (by omega) (fit_four h0 h1)
theorem rput_f4 (x : Int) (w : World) (h : fitsB x 4 = true) :
    Calls Tryd.prog 49 #[.int .i64 x, .int .i64 4] w fun e w' => e = .returned (.slice (some ⟨w.heap.size, 0, none⟩) 4 4) ∧ BytesAt w' (some ⟨w.heap.size, 0, none⟩) (putL x 4) ∧ Below w.heap.size w w' := rput_w x 4 w (by omega) (by omega) h
theorem two_kept {W V : World} {a0 a1 : Addr} {v0 v1 : Value} (hb : Below W.heap.size W V) (h : W.cell? a0 = some v0 ∧ W.cell? a1 = some v1) : V.cell? a0 = some v0 ∧ V.cell? a1 = some v1 := ⟨kept hb h.1, kept hb h.2⟩

set_option maxRecDepth 100000 in
set_option maxHeartbeats 8000000 in
theorem rputA_any (origin next med pref : Int) (path : List Seg) (comms : List Int) (pp cp : Option Addr) (pn pc cn cc : Nat) (four : Bool) (w : World) (ha : AtAt w ⟨origin, path, next, med, pref, comms⟩ ⟨pp, pn, pc, cp, cn, cc⟩) (hk : okA ⟨origin, path, next, med, pref, comms⟩ four = true) :
    Calls Tryd.prog 23 #[.agg #[.int .i64 origin, .slice pp pn pc, .int .u32 next, .int .i64 med, .int .i64 pref, .slice cp cn cc], .bool four] w fun e w' => ∃ p cap, e = .returned (.slice p (putA ⟨origin, path, next, med, pref, comms⟩ four).length cap) ∧ Own w' w.heap.size p cap (putA ⟨origin, path, next, med, pref, comms⟩ four) ∧ Below w.heap.size w w' := by
  obtain ⟨hpa, _⟩ := okA_parts hk
  have hsl := segsL_le hpa.path
  simp only at hsl
  have S0 := BoxSt.new ha
  obtain ⟨W, hW⟩ : ∃ W, w.alloc (.cells #[.int .i64 origin, .slice pp pn pc, .int .u32 next, .int .i64 med, .int .i64 pref, .slice cp cn cc] 27) = W := ⟨_, rfl⟩
  rw [show (atL ⟨origin, path, next, med, pref, comms⟩ ⟨pp, pn, pc, cp, cn, cc⟩).toArray = #[.int .i64 origin, .slice pp pn pc, .int .u32 next, .int .i64 med, .int .i64 pref, .slice cp cn cc] from rfl, hW] at S0
  obtain ⟨po, hpo⟩ : ∃ po, putA ⟨origin, path, next, med, pref, comms⟩ four = po := ⟨_, rfl⟩
  obtain ⟨sg, hsg⟩ : ∃ sg, segsL four path = sg := ⟨_, rfl⟩
  obtain ⟨sl, hsn⟩ : ∃ sl, sg.length = sl := ⟨_, rfl⟩
  obtain ⟨sa, hsa⟩ : ∃ sa, attrN sl = sa := ⟨_, rfl⟩
  rw [hsg, hsn] at hsl
  have hsa' : sa ≤ 2068 := by rw [← hsa]; unfold attrN; split <;> omega
  have HPO := Lib.hid (show po = attrL 64 1 [origin] ++ attrL 64 2 sg ++ attrL 64 3 (putL next 4) ++ medL med ++ prefL pref ++ commsL comms from by rw [← hpo, ← hsg]; rfl)
  rw [hpo]
  have HSG := Lib.hid hsg
  have HSN := Lib.hid hsn
  have HSA := Lib.hid hsa
  have HPA := Lib.hid hpa
  have hok' := okPath_yes hpa.path
  have HK := Lib.hid hok'.2
  have HN := Lib.hid (show path.length = pn from ha.pn)
  have HCN := Lib.hid (show comms.length = cn from ha.cn)
  have h8 : pn ≤ 8 := by have h1 := S0.ad.pn; have h2 := hok'.1; simp only at h1 h2; omega
  have hob : 0 ≤ origin ∧ origin ≤ 255 := ⟨hpa.o0, by have := hpa.o1; simp only at this; omega⟩
  have hnb : 0 ≤ next ∧ next ≤ 4294967295 := ⟨S0.ad.n0, S0.ad.n1⟩
  have hmb : med ≤ 4294967295 := hpa.m1
  have hqb : pref ≤ 4294967295 := hpa.p1
  have hcb : cn ≤ 32 := by have h1 := S0.ad.cn; have h2 := hpa.c0; simp only at h1 h2; omega
  have wo : IntKind.u8.wrap origin = origin := by rw [show IntKind.u8.wrap origin = origin % 256 from by first | rfl | exact IntKind.wrap_u8 _ | exact IntKind.wrap_u8' _]; omega
  have wn : IntKind.i64.wrap next = next := by rw [IntKind.wrap_i64]; omega
  have HS0 := Lib.hid S0
  have HI := Lib.hid (one_byte W origin hob.1 hob.2)
  have HNB := Lib.hid (new_below W (.cells #[.int .u8 origin] 5))
  have hgz0 : w.heap.size < W.heap.size := S0.kb.lt
  have HSZ0 := Lib.hid (show W.heap.size = w.heap.size + 1 from by rw [← hW]; exact sz_alloc _ _)
  have c0 := S0.kb.cell 0 (by simp [atL])
  simp only [atL, List.getD_cons_zero] at c0
  rw [← hW] at c0
  have hwb := wideA_bd four
  obtain ⟨wd, hwd⟩ : ∃ wd, wideA four = wd := ⟨_, rfl⟩
  rw [hwd] at hwb
  have HWD := Lib.hid hwd
  have HW := Lib.hid hW
  have HWA := fun v : World => Lib.hid (size_w four wd HWD.out v)
  clear hk hpa S0 hW hpo hsg hsn hsa ha hok' hwd
  go_enter Tryd.func23, Tryd.ntmps23
  go_wp2_with fail
  rw [HW.out]
  clear c0
  rw [← HSZ0.out]
  (with_reducible refine (rone_any 64 1 _ [origin] 1 1 4 _ (by omega) (by omega) (by omega) (by omega) HI.out rfl (by omega) rfl).mono ?_); rintro e w1 ⟨q, cap, rfl, hO, hb⟩
  have G := Lib.hid (show GrowSt W W.heap.size w.heap.size 27 [.int .i64 origin, .slice pp pn pc, .int .u32 next, .int .i64 med, .int .i64 pref, .slice cp cn cc] w1 q cap (attrL 64 1 [origin]) from ⟨hO.mono HNB.out.size, (HS0.out.kb.next HNB.out).next hb, HNB.out.trans (hb.mono HNB.out.size), hgz0, Nat.le_trans HNB.out.size hb.size⟩)
  clear hO hb HI HNB
  have HL := Lib.hid (show (attrL 64 1 [origin]).length = 4 from by rw [attrL_len]; rfl)
  have HSW := Lib.hid (show SegsAt w1 pp path from (HS0.out.ad.below G.out.bel).path)
  go_wp2_with fail
  go_loopw [6, 7] (fun b i wr => RSegRel w1 four pn path b i wr) (fun _ i _ => pn - (intOf i).toNat)
  case atStart => exact ⟨0, 0, none, 0, Nat.zero_le _, rfl, rfl, rfl, by omega, Own.nil _ _, Below.refl _ _⟩
  case round =>
    obtain ⟨k, m, z, zc, hkn, rfl, rfl, hm, hmb2, hO, hB⟩ := hrel
    have HO := Lib.hid hO
    have HB := Lib.hid hB
    have HM := Lib.hid hm
    have G1 := Lib.hid (G.out.next hB)
    have s1 := G1.out.blk.cell 1 (by simp)
    simp only [List.getD_cons_zero, List.getD_cons_succ] at s1
    clear hO hB hm
    by_cases hlt : k < pn
    · have hcell : ∃ b off, pp = some ⟨b, off, none⟩ ∧ SegAt w1 b (off + k * 2) (path.getD k Seg.none) := by
        rcases HSW.out with h | ⟨b, off, hp, hc⟩
        · have := HN.out; rw [h] at this; simp at this; omega
        · exact ⟨b, off, hp, hc k (by rw [HN.out]; exact hlt)⟩
      obtain ⟨b, off, rfl, hc⟩ := hcell
      have hso := HK.out k (by rw [HN.out]; exact hlt)
      have HS := Lib.hid (segsL_snoc four path k (by rw [HN.out]; exact hlt))
      obtain ⟨sv, hs⟩ : ∃ sv, path.getD k Seg.none = sv := ⟨_, rfl⟩
      rw [hs] at hc hso HS
      obtain ⟨c0, qa, sm, cq, c1, hs1, hs2, hs3, hq⟩ := hc
      obtain ⟨set, nums⟩ := sv
      simp only at c0 c1 hs1 hq
      replace c0 := kept HB.out c0
      replace c1 := kept HB.out c1
      have h64 : sm ≤ 64 := by rw [← hs1]; exact hso.most
      have HFI := Lib.hid hso.fit
      rw [HWD.out] at HFI
      have HS1 := Lib.hid hs1
      have HQ0 := Lib.hid hq
      have hws : wd * sm ≤ 256 := Nat.mul_le_mul hwb.2 h64
      have ws : IntKind.u8.wrap (sm : Int) = (sm : Int) := by rw [show IntKind.u8.wrap (sm : Int) = (sm : Int) % 256 from by first | rfl | exact IntKind.wrap_u8 _ | exact IntKind.wrap_u8' _]; omega
      clear hs1 hs2 hs3 hq hso hs
      cases set
      · have HSEG := Lib.hid (show segL four ⟨false, nums⟩ = [2, (sm : Int)] ++ numsL wd nums by unfold segL; rw [HWD.out]; simp only [HS1.out]; rfl)
        obtain ⟨V, hV⟩ : ∃ V, wr.alloc (.cells #[.bool false, .slice qa sm cq] 88) = V := ⟨_, rfl⟩
        have hnb2 : Below wr.heap.size wr V := by rw [← hV]; exact new_below _ _
        have hKB : Blk V wr.heap.size 88 [.bool false, .slice qa sm cq] := by rw [← hV]; exact Blk.new _ _ [.bool false, .slice qa sm cq]
        have hsv : V.heap.size = wr.heap.size + 1 := by rw [← hV]; simp
        have hrow := (brow_new V [2, (sm : Int)]).bytes (inByte_all fun y hy => by simp at hy; omega)
        rw [hsv] at hrow
        have HY := Lib.hid (show BytesAt (V.alloc (.cells #[.int .u8 2, .int .u8 (sm : Int)] 5)) (some ⟨wr.heap.size + 1, 0, none⟩) [2, (sm : Int)] from hrow)
        have hnb3 := new_below V (.cells #[.int .u8 2, .int .u8 (sm : Int)] 5)
        have HOV := Lib.hid ((HO.out.below hnb2).below hnb3)
        have hbv := HB.out.trans ((hnb2.trans (hnb3.mono hnb2.size)).mono HB.out.size)
        have HBV := Lib.hid hbv
        have HKV := Lib.hid (hKB.next hnb3)
        have HSV := Lib.hid hsv
        have hgs : wr.heap.size < (V.alloc (.cells #[.int .u8 2, .int .u8 (sm : Int)] 5)).heap.size := (hKB.next hnb3).lt
        have k0 := hKB.cell 0 (by simp)
        have k1 := hKB.cell 1 (by simp)
        simp only [List.getD_cons_zero, List.getD_cons_succ] at k0 k1
        rw [← hV] at k0 k1
        have HV := Lib.hid hV
        clear hV hnb2 hnb3 hKB hsv hrow hbv
        go_wp2_with (rw [HV.out]; refine wpList_appo (o := ⟨some 39, _, _, _, _, _⟩) (by rfl) (.tmp 32) (.tmp 38) (by rfl) w1.heap.size z zc (segsL four (path.take k)) HOV.out m HM.out (by rfl) (some ⟨wr.heap.size + 1, 0, none⟩) 2 2 [2, (sm : Int)] HY.out (by rfl) (by rfl) (m + 2) (by rfl) (by omega) HBV.out.size ?_; intro q3 cap3 w3 hO3 hB3 hG3; have HB3 := Lib.hid (HBV.out.trans hB3.out); have HK3 := Lib.hid (HKV.out.of_same (hG3.out.1.block _ hgs (fun e => by have := (HO.out.block_lt e.symm).2; omega))))
        have HNE := Lib.hid (show ∀ y, q3.map (·.block) = some y → y ≠ wr.heap.size from fun y hy => by
          rcases hG3.out.2 with rfl | rfl
          · have := (HO.out.block_lt hy).2; omega
          · have := HSV.out; simp at hy; omega)
        have HO3 := Lib.hid hO3.out
        have hg3 : wr.heap.size < w3.heap.size := HK3.out.lt
        clear hO3 hB3 hG3 HOV HY HBV HKV k0 k1 c0 c1 s1 hgs
        go_wp2_with fail
        obtain ⟨go, hgo⟩ : ∃ go, wr.heap.size = go := ⟨_, rfl⟩
        rw [hgo] at HK3 HNE hg3 ⊢
        clear hgo
        go_loopw [6, 10] (fun b i wi => RNumRel w1 go [.bool false, .slice qa sm cq] wd sm m (segsL four (path.take k) ++ [2, (sm : Int)]) nums b i wi) (fun _ i _ => sm - (intOf i).toNat)
        case atStart => exact ⟨0, q3, cap3, Nat.zero_le _, rfl, by rw [Nat.mul_zero], by rw [List.take_zero, show numsL wd [] = [] from rfl, List.append_nil]; exact HO3.out, HB3.out, HK3.out, HNE.out⟩
        case round =>
          obtain ⟨j, y, yc, hj, rfl, rfl, hOj, hBj, hKj, hNj⟩ := hrel
          have HOJ := Lib.hid hOj
          have HBJ := Lib.hid hBj
          have HKJ := Lib.hid hKj
          have HNJ := Lib.hid hNj
          have k1 := hKj.cell 1 (by simp)
          simp only [List.getD_cons_zero, List.getD_cons_succ] at k1
          have hgj : go < wr.heap.size := hKj.lt
          by_cases hjt : j < sm
          · obtain ⟨b2, off2, rfl, d0⟩ := ints_cell (HQ0.out.below HBJ.out) HS1.out hjt
            have HFX := Lib.hid (HFI.out j (by rw [HS1.out]; exact hjt))
            have HSN2 := Lib.hid (numsL_snoc wd nums j (by rw [HS1.out]; exact hjt))
            obtain ⟨x, hx⟩ : ∃ x, nums.getD j 0 = x := ⟨_, rfl⟩
            rw [hx] at d0 HFX HSN2
            have HLJ := Lib.hid (show (segsL four (path.take k) ++ [2, (sm : Int)] ++ numsL wd (nums.take j)).length = m + 2 + wd * j from by rw [List.length_append, List.length_append, HM.out, numsL_len, List.length_take, HS1.out, Nat.min_eq_left hj]; rfl)
            have hwk : wd * j + wd = wd * (j + 1) := by rw [Nat.mul_add, Nat.mul_one]
            have hwk2 : wd * (j + 1) ≤ wd * sm := Nat.mul_le_mul_left _ hjt
            have hS : wr.drew.cell? ⟨go, 1, none⟩ = some (.slice (some ⟨b2, off2, none⟩) sm cq) ∧ wr.drew.cell? ⟨b2, off2 + j, none⟩ = some (.int .i64 x) := ⟨k1, d0⟩
            have BB := Lib.hid (show Below wr.heap.size wr wr.drew from (Below.refl _ _).drew)
            have hPX := Lib.hid (fun u => rput_w x wd u hwb.1 hwb.2 HFX.out)
            have HD := Lib.hid (fun u (h : Below w1.heap.size w1 u) => show u.cell? ⟨b2, off2 + j, none⟩ = some (.int .i64 x) from by
              rcases HQ0.out with h0 | ⟨b', off', hp', hc'⟩
              · have := HS1.out; rw [h0] at this; simp at this; omega
              · obtain ⟨rfl, rfl⟩ : b2 = b' ∧ off2 = off' := by simpa using hp'
                rw [← hx]
                exact kept h (hc' j (by rw [HS1.out]; exact hjt)))
            clear hx hOj hBj hKj hNj d0
            go_wp2_with fail
            clear k1
            go_region_held_law (fun w' => w'.cell? ⟨go, 1, none⟩ = some (.slice (some ⟨b2, off2, none⟩) sm cq) ∧ w'.cell? ⟨b2, off2 + j, none⟩ = some (.int .i64 x)) (with_reducible assumption) (first
              | (go_at_call 47; (with_reducible refine (HWA _).out.mono ?_); rintro e w' ⟨rfl, rfl⟩)
              | (go_at_call 49; (with_reducible refine (hPX.out _).mono ?_); rintro e w4 ⟨rfl, hY4, hb4⟩; have HY4 := Lib.hid hY4; have hS := two_kept hb4 hS; have B4 := Lib.hid (BB.out.trans (hb4.mono BB.out.size)); have HO4 := Lib.hid (HOJ.out.below B4.out); have HB4 := Lib.hid (HBJ.out.trans (B4.out.mono HBJ.out.size)); have HK4 := Lib.hid (HKJ.out.next B4.out); clear hb4 hY4)
              | (refine step_appo rfl (.tmp 47) (.tmp 55) rfl w1.heap.size y yc (segsL four (path.take k) ++ [2, (sm : Int)] ++ numsL wd (nums.take j)) HO4.out (m + 2 + wd * j) ?b1 rfl _ wd wd (putL x wd) HY4.out ?b2 rfl (m + 2 + wd * (j + 1)) ?b5 ?b3 HB4.out.size ?_; (case b1 => exact HLJ.out); (case b2 => exact putL_len ..); (case b5 => omega); (case b3 => omega); intro q5 cap5 w5 hO5 hB5 hG5; have HB5 := Lib.hid (HB4.out.trans hB5.out); have HK5 := Lib.hid (HK4.out.of_same (hG5.out.1.block _ HK4.out.lt (fun e => HNJ.out _ e.symm rfl))); have c5 : w5.cell? ⟨go, 1, none⟩ = some (.slice (some ⟨b2, off2, none⟩) sm cq) := HK5.out.cell 1 (by simp); have d5 : w5.cell? ⟨b2, off2 + j, none⟩ = some (.int .i64 x) := HD.out _ HB5.out; have hS := And.intro c5 d5))
            go_wp2_with fail
            go_roundw
            case rel => exact ⟨j + 1, q5, cap5, by omega, by go_num, rfl, by rw [HSN2.out, ← List.append_assoc]; exact hO5.out, HB5.out, HK5.out, fun y hy => by
              rcases hG5.out.2 with rfl | rfl
              · exact HNJ.out _ hy
              · have := HK4.out.lt; simp at hy; omega⟩
            case measure => simp [intOf]; omega
          · obtain rfl : j = sm := by omega
            have hO := HOJ.out
            rw [show nums.take j = nums from List.take_of_length_le (by rw [HS1.out]; exact Nat.le_refl _), List.append_assoc, ← HSEG.out, ← HS.out] at hO
            have HOF := Lib.hid hO
            have HLF := Lib.hid (show (segsL four (path.take (k + 1))).length = m + 2 + wd * j from by rw [HS.out, HSEG.out, List.length_append, HM.out, List.length_append, numsL_len, HS1.out]; simp only [List.length_cons, List.length_nil]; omega)
            clear hO hOj hBj hKj hNj
            go_wp2_with fail
            go_roundw
            case rel => exact ⟨k + 1, m + 2 + wd * j, y, yc, by omega, by go_num, rfl, HLF.out, by omega, HOF.out, HBJ.out⟩
            case measure => simp [intOf]; omega
      · have HSEG := Lib.hid (show segL four ⟨true, nums⟩ = [1, (sm : Int)] ++ numsL wd nums by unfold segL; rw [HWD.out]; simp only [HS1.out]; rfl)
        obtain ⟨V, hV⟩ : ∃ V, wr.alloc (.cells #[.bool true, .slice qa sm cq] 88) = V := ⟨_, rfl⟩
        have hnb2 : Below wr.heap.size wr V := by rw [← hV]; exact new_below _ _
        have hKB : Blk V wr.heap.size 88 [.bool true, .slice qa sm cq] := by rw [← hV]; exact Blk.new _ _ [.bool true, .slice qa sm cq]
        have hsv : V.heap.size = wr.heap.size + 1 := by rw [← hV]; simp
        have hrow := (brow_new V [1, (sm : Int)]).bytes (inByte_all fun y hy => by simp at hy; omega)
        rw [hsv] at hrow
        have HY := Lib.hid (show BytesAt (V.alloc (.cells #[.int .u8 1, .int .u8 (sm : Int)] 5)) (some ⟨wr.heap.size + 1, 0, none⟩) [1, (sm : Int)] from hrow)
        have hnb3 := new_below V (.cells #[.int .u8 1, .int .u8 (sm : Int)] 5)
        have HOV := Lib.hid ((HO.out.below hnb2).below hnb3)
        have hbv := HB.out.trans ((hnb2.trans (hnb3.mono hnb2.size)).mono HB.out.size)
        have HBV := Lib.hid hbv
        have HKV := Lib.hid (hKB.next hnb3)
        have HSV := Lib.hid hsv
        have hgs : wr.heap.size < (V.alloc (.cells #[.int .u8 1, .int .u8 (sm : Int)] 5)).heap.size := (hKB.next hnb3).lt
        have k0 := hKB.cell 0 (by simp)
        have k1 := hKB.cell 1 (by simp)
        simp only [List.getD_cons_zero, List.getD_cons_succ] at k0 k1
        rw [← hV] at k0 k1
        have HV := Lib.hid hV
        clear hV hnb2 hnb3 hKB hsv hrow hbv
        go_wp2_with (rw [HV.out]; refine wpList_appo (o := ⟨some 39, _, _, _, _, _⟩) (by rfl) (.tmp 32) (.tmp 38) (by rfl) w1.heap.size z zc (segsL four (path.take k)) HOV.out m HM.out (by rfl) (some ⟨wr.heap.size + 1, 0, none⟩) 2 2 [1, (sm : Int)] HY.out (by rfl) (by rfl) (m + 2) (by rfl) (by omega) HBV.out.size ?_; intro q3 cap3 w3 hO3 hB3 hG3; have HB3 := Lib.hid (HBV.out.trans hB3.out); have HK3 := Lib.hid (HKV.out.of_same (hG3.out.1.block _ hgs (fun e => by have := (HO.out.block_lt e.symm).2; omega))))
        have HNE := Lib.hid (show ∀ y, q3.map (·.block) = some y → y ≠ wr.heap.size from fun y hy => by
          rcases hG3.out.2 with rfl | rfl
          · have := (HO.out.block_lt hy).2; omega
          · have := HSV.out; simp at hy; omega)
        have HO3 := Lib.hid hO3.out
        have hg3 : wr.heap.size < w3.heap.size := HK3.out.lt
        clear hO3 hB3 hG3 HOV HY HBV HKV k0 k1 c0 c1 s1 hgs
        go_wp2_with fail
        obtain ⟨go, hgo⟩ : ∃ go, wr.heap.size = go := ⟨_, rfl⟩
        rw [hgo] at HK3 HNE hg3 ⊢
        clear hgo
        go_loopw [6, 10] (fun b i wi => RNumRel w1 go [.bool true, .slice qa sm cq] wd sm m (segsL four (path.take k) ++ [1, (sm : Int)]) nums b i wi) (fun _ i _ => sm - (intOf i).toNat)
        case atStart => exact ⟨0, q3, cap3, Nat.zero_le _, rfl, by rw [Nat.mul_zero], by rw [List.take_zero, show numsL wd [] = [] from rfl, List.append_nil]; exact HO3.out, HB3.out, HK3.out, HNE.out⟩
        case round =>
          obtain ⟨j, y, yc, hj, rfl, rfl, hOj, hBj, hKj, hNj⟩ := hrel
          have HOJ := Lib.hid hOj
          have HBJ := Lib.hid hBj
          have HKJ := Lib.hid hKj
          have HNJ := Lib.hid hNj
          have k1 := hKj.cell 1 (by simp)
          simp only [List.getD_cons_zero, List.getD_cons_succ] at k1
          have hgj : go < wr.heap.size := hKj.lt
          by_cases hjt : j < sm
          · obtain ⟨b2, off2, rfl, d0⟩ := ints_cell (HQ0.out.below HBJ.out) HS1.out hjt
            have HFX := Lib.hid (HFI.out j (by rw [HS1.out]; exact hjt))
            have HSN2 := Lib.hid (numsL_snoc wd nums j (by rw [HS1.out]; exact hjt))
            obtain ⟨x, hx⟩ : ∃ x, nums.getD j 0 = x := ⟨_, rfl⟩
            rw [hx] at d0 HFX HSN2
            have HLJ := Lib.hid (show (segsL four (path.take k) ++ [1, (sm : Int)] ++ numsL wd (nums.take j)).length = m + 2 + wd * j from by rw [List.length_append, List.length_append, HM.out, numsL_len, List.length_take, HS1.out, Nat.min_eq_left hj]; rfl)
            have hwk : wd * j + wd = wd * (j + 1) := by rw [Nat.mul_add, Nat.mul_one]
            have hwk2 : wd * (j + 1) ≤ wd * sm := Nat.mul_le_mul_left _ hjt
            have hS : wr.drew.cell? ⟨go, 1, none⟩ = some (.slice (some ⟨b2, off2, none⟩) sm cq) ∧ wr.drew.cell? ⟨b2, off2 + j, none⟩ = some (.int .i64 x) := ⟨k1, d0⟩
            have BB := Lib.hid (show Below wr.heap.size wr wr.drew from (Below.refl _ _).drew)
            have hPX := Lib.hid (fun u => rput_w x wd u hwb.1 hwb.2 HFX.out)
            have HD := Lib.hid (fun u (h : Below w1.heap.size w1 u) => show u.cell? ⟨b2, off2 + j, none⟩ = some (.int .i64 x) from by
              rcases HQ0.out with h0 | ⟨b', off', hp', hc'⟩
              · have := HS1.out; rw [h0] at this; simp at this; omega
              · obtain ⟨rfl, rfl⟩ : b2 = b' ∧ off2 = off' := by simpa using hp'
                rw [← hx]
                exact kept h (hc' j (by rw [HS1.out]; exact hjt)))
            clear hx hOj hBj hKj hNj d0
            go_wp2_with fail
            clear k1
            go_region_held_law (fun w' => w'.cell? ⟨go, 1, none⟩ = some (.slice (some ⟨b2, off2, none⟩) sm cq) ∧ w'.cell? ⟨b2, off2 + j, none⟩ = some (.int .i64 x)) (with_reducible assumption) (first
              | (go_at_call 47; (with_reducible refine (HWA _).out.mono ?_); rintro e w' ⟨rfl, rfl⟩)
              | (go_at_call 49; (with_reducible refine (hPX.out _).mono ?_); rintro e w4 ⟨rfl, hY4, hb4⟩; have HY4 := Lib.hid hY4; have hS := two_kept hb4 hS; have B4 := Lib.hid (BB.out.trans (hb4.mono BB.out.size)); have HO4 := Lib.hid (HOJ.out.below B4.out); have HB4 := Lib.hid (HBJ.out.trans (B4.out.mono HBJ.out.size)); have HK4 := Lib.hid (HKJ.out.next B4.out); clear hb4 hY4)
              | (refine step_appo rfl (.tmp 47) (.tmp 55) rfl w1.heap.size y yc (segsL four (path.take k) ++ [1, (sm : Int)] ++ numsL wd (nums.take j)) HO4.out (m + 2 + wd * j) ?b1 rfl _ wd wd (putL x wd) HY4.out ?b2 rfl (m + 2 + wd * (j + 1)) ?b5 ?b3 HB4.out.size ?_; (case b1 => exact HLJ.out); (case b2 => exact putL_len ..); (case b5 => omega); (case b3 => omega); intro q5 cap5 w5 hO5 hB5 hG5; have HB5 := Lib.hid (HB4.out.trans hB5.out); have HK5 := Lib.hid (HK4.out.of_same (hG5.out.1.block _ HK4.out.lt (fun e => HNJ.out _ e.symm rfl))); have c5 : w5.cell? ⟨go, 1, none⟩ = some (.slice (some ⟨b2, off2, none⟩) sm cq) := HK5.out.cell 1 (by simp); have d5 : w5.cell? ⟨b2, off2 + j, none⟩ = some (.int .i64 x) := HD.out _ HB5.out; have hS := And.intro c5 d5))
            go_wp2_with fail
            go_roundw
            case rel => exact ⟨j + 1, q5, cap5, by omega, by go_num, rfl, by rw [HSN2.out, ← List.append_assoc]; exact hO5.out, HB5.out, HK5.out, fun y hy => by
              rcases hG5.out.2 with rfl | rfl
              · exact HNJ.out _ hy
              · have := HK4.out.lt; simp at hy; omega⟩
            case measure => simp [intOf]; omega
          · obtain rfl : j = sm := by omega
            have hO := HOJ.out
            rw [show nums.take j = nums from List.take_of_length_le (by rw [HS1.out]; exact Nat.le_refl _), List.append_assoc, ← HSEG.out, ← HS.out] at hO
            have HOF := Lib.hid hO
            have HLF := Lib.hid (show (segsL four (path.take (k + 1))).length = m + 2 + wd * j from by rw [HS.out, HSEG.out, List.length_append, HM.out, List.length_append, numsL_len, HS1.out]; simp only [List.length_cons, List.length_nil]; omega)
            clear hO hOj hBj hKj hNj
            go_wp2_with fail
            go_roundw
            case rel => exact ⟨k + 1, m + 2 + wd * j, y, yc, by omega, by go_num, rfl, HLF.out, by omega, HOF.out, HBJ.out⟩
            case measure => simp [intOf]; omega
    · obtain rfl : k = pn := by omega
      have hO := HO.out
      have hm := HM.out
      rw [show path.take k = path from List.take_of_length_le (by rw [HN.out]; exact Nat.le_refl _), HSG.out] at hO hm
      obtain rfl : m = sl := by rw [← hm]; exact HSN.out
      have YP := Lib.hid hO.bytes
      have G := G1
      clear hO hm G1 HO HB HM
      go_wp2_with fail
      (with_reducible refine (rone_any 64 2 z sg m zc sa _ (by omega) (by omega) (by omega) (by omega) YP.out HSN.out (by omega) HSA.out).mono ?_); rintro e x2 ⟨qx, capx, rfl, hO, hb⟩
      have G := Lib.hid (G.out.next hb)
      have YX := Lib.hid hO.bytes
      have LX := Lib.hid (show (attrL 64 2 sg).length = sa from by rw [attrL_len, HSN.out, HSA.out])
      clear hO hb YP s1
      go_wp2_with (refine wpList_appo (o := ⟨some 60, _, _, _, _, _⟩) (by rfl) (.tmp 57) (.tmp 59) (by rfl) W.heap.size q cap (attrL 64 1 [origin]) G.out.own (4) HL.out (by rfl) qx (sa) capx (attrL 64 2 sg) YX.out LX.out (by rfl) (4 + sa) (by rfl) (by omega) G.out.hB ?_; intro q4 cap4 w4 hO4 hB4 hG4; have G4 := Lib.hid (G.out.app hO4.out hB4.out); have d2 := G4.out.blk.cell 2 (by simp))
      have HL := Lib.hid (show ((attrL 64 1 [origin] ++ attrL 64 2 sg)).length = 4 + sa from by rw [List.length_append, HL.out, LX.out])
      have G := G4
      clear YX LX G4 hO4 hB4 hG4
      (with_reducible refine (rput_4 next _ hnb.1 hnb.2).mono ?_); rintro e x1 ⟨rfl, hY, hb⟩
      have G' := Lib.hid (G.out.next hb)
      have Y := Lib.hid hY
      clear hY hb d2
      go_wp2_with fail
      (with_reducible refine (rone_any 64 3 _ (putL next 4) 4 4 7 _ (by omega) (by omega) (by omega) (by omega) Y.out (putL_len ..) (by omega) rfl).mono ?_); rintro e x2 ⟨qx, capx, rfl, hO, hb⟩
      have G := Lib.hid (G'.out.next hb)
      have YX := Lib.hid hO.bytes
      have LX := Lib.hid (show (attrL 64 3 (putL next 4)).length = 7 from by rw [attrL_len, putL_len]; rfl)
      clear hO hb G' Y
      by_cases hm : 0 ≤ med
      · have tm : decide (0 ≤ med) = true := decide_eq_true hm
        by_cases hp : 0 ≤ pref
        · have tp : decide (0 ≤ pref) = true := decide_eq_true hp
          go_wp2_with (refine wpList_appo (o := ⟨some 67, _, _, _, _, _⟩) (by rfl) (.tmp 61) (.tmp 66) (by rfl) W.heap.size q4 cap4 ((attrL 64 1 [origin] ++ attrL 64 2 sg)) G.out.own (4 + sa) HL.out (by rfl) qx (7) capx (attrL 64 3 (putL next 4)) YX.out LX.out (by rfl) (4 + sa + 7) (by rfl) (by omega) G.out.hB ?_; intro q5 cap5 w5 hO5 hB5 hG5; have G5 := Lib.hid (G.out.app hO5.out hB5.out); have d3 := G5.out.blk.cell 3 (by simp); have d4 := G5.out.blk.cell 4 (by simp); have d5 := G5.out.blk.cell 5 (by simp))
          have HL := Lib.hid (show (((attrL 64 1 [origin] ++ attrL 64 2 sg) ++ attrL 64 3 (putL next 4))).length = 4 + sa + 7 from by rw [List.length_append, HL.out, LX.out])
          have G := G5
          clear YX LX G5 hO5 hB5 hG5
          (with_reducible refine (rput_4 med _ hm hmb).mono ?_); rintro e x1 ⟨rfl, hY, hb⟩
          have G' := Lib.hid (G.out.next hb)
          have Y := Lib.hid hY
          clear hY hb d3 d4 d5
          go_wp2_with fail
          (with_reducible refine (rone_any 128 4 _ (putL med 4) 4 4 7 _ (by omega) (by omega) (by omega) (by omega) Y.out (putL_len ..) (by omega) rfl).mono ?_); rintro e x2 ⟨qx, capx, rfl, hO, hb⟩
          have G := Lib.hid (G'.out.next hb)
          have YX := Lib.hid hO.bytes
          have LX := Lib.hid (show (attrL 128 4 (putL med 4)).length = 7 from by rw [attrL_len, putL_len]; rfl)
          clear hO hb G' Y
          go_wp2_with (refine wpList_appo (o := ⟨some 76, _, _, _, _, _⟩) (by rfl) (.tmp 71) (.tmp 75) (by rfl) W.heap.size q5 cap5 (((attrL 64 1 [origin] ++ attrL 64 2 sg) ++ attrL 64 3 (putL next 4))) G.out.own (4 + sa + 7) HL.out (by rfl) qx (7) capx (attrL 128 4 (putL med 4)) YX.out LX.out (by rfl) (4 + sa + 7 + 7) (by rfl) (by omega) G.out.hB ?_; intro q6 cap6 w6 hO6 hB6 hG6; have G6 := Lib.hid (G.out.app hO6.out hB6.out); have d4 := G6.out.blk.cell 4 (by simp); have d5 := G6.out.blk.cell 5 (by simp))
          have HL := Lib.hid (show ((((attrL 64 1 [origin] ++ attrL 64 2 sg) ++ attrL 64 3 (putL next 4)) ++ attrL 128 4 (putL med 4))).length = 4 + sa + 7 + 7 from by rw [List.length_append, HL.out, LX.out])
          have G := G6
          clear YX LX G6 hO6 hB6 hG6
          (with_reducible refine (rput_4 pref _ hp hqb).mono ?_); rintro e x1 ⟨rfl, hY, hb⟩
          have G' := Lib.hid (G.out.next hb)
          have Y := Lib.hid hY
          clear hY hb d4 d5
          go_wp2_with fail
          (with_reducible refine (rone_any 64 5 _ (putL pref 4) 4 4 7 _ (by omega) (by omega) (by omega) (by omega) Y.out (putL_len ..) (by omega) rfl).mono ?_); rintro e x2 ⟨qx, capx, rfl, hO, hb⟩
          have G := Lib.hid (G'.out.next hb)
          have YX := Lib.hid hO.bytes
          have LX := Lib.hid (show (attrL 64 5 (putL pref 4)).length = 7 from by rw [attrL_len, putL_len]; rfl)
          clear hO hb G' Y
          go_wp2_with (refine wpList_appo (o := ⟨some 85, _, _, _, _, _⟩) (by rfl) (.tmp 80) (.tmp 84) (by rfl) W.heap.size q6 cap6 ((((attrL 64 1 [origin] ++ attrL 64 2 sg) ++ attrL 64 3 (putL next 4)) ++ attrL 128 4 (putL med 4))) G.out.own (4 + sa + 7 + 7) HL.out (by rfl) qx (7) capx (attrL 64 5 (putL pref 4)) YX.out LX.out (by rfl) (4 + sa + 7 + 7 + 7) (by rfl) (by omega) G.out.hB ?_; intro q7 cap7 w7 hO7 hB7 hG7; have G7 := Lib.hid (G.out.app hO7.out hB7.out); have d5 := G7.out.blk.cell 5 (by simp))
          have HL := Lib.hid (show (((((attrL 64 1 [origin] ++ attrL 64 2 sg) ++ attrL 64 3 (putL next 4)) ++ attrL 128 4 (putL med 4)) ++ attrL 64 5 (putL pref 4))).length = 4 + sa + 7 + 7 + 7 from by rw [List.length_append, HL.out, LX.out])
          have G := G7
          clear YX LX G7 hO7 hB7 hG7
          have HCI := Lib.hid (show IntsAt w7 cp comms from (HS0.out.ad.below G.out.bel).comms)
          clear tm tp
          go_loopw [11, 12] (fun b i wr => RComRel w7 cn comms b i wr) (fun _ i _ => cn - (intOf i).toNat)
          case atStart => exact ⟨0, 0, none, 0, Nat.zero_le _, rfl, rfl, rfl, Own.nil _ _, Below.refl _ _⟩
          case round =>
            obtain ⟨u, um, z2, zc2, hun, rfl, rfl, hum, hO, hB⟩ := hrel
            have HO := Lib.hid hO
            have HB := Lib.hid hB
            have GC := Lib.hid (G.out.next hB)
            have HUM := Lib.hid hum
            have s5 := GC.out.blk.cell 5 (by simp)
            simp only [List.getD_cons_zero, List.getD_cons_succ] at s5
            have hz5 : w7.heap.size ≤ wr.heap.size := hB.size
            clear hO hB
            by_cases hlt : u < cn
            · obtain ⟨b2, off2, rfl, d0⟩ := ints_cell (HCI.out.below HB.out) HCN.out hlt
              have HFX := Lib.hid (HPA.out.c1 u (by simp only; rw [HCN.out]; exact hlt))
              have HSN2 := Lib.hid (numsL_snoc 4 comms u (by rw [HCN.out]; exact hlt))
              have HLJ := Lib.hid (show (numsL 4 (comms.take u)).length = um from by rw [numsL_len, List.length_take, HCN.out, Nat.min_eq_left hun]; exact hum)
              obtain ⟨x, hx⟩ : ∃ x, comms.getD u 0 = x := ⟨_, rfl⟩
              simp only at HFX
              rw [hx] at d0 HFX HSN2
              clear hx
              go_wp2_with fail
              (with_reducible refine (rput_f4 x _ HFX.out).mono ?_); rintro e x1 ⟨rfl, hY, hb⟩
              have HY4 := Lib.hid hY
              have HO4 := Lib.hid (HO.out.below hb)
              have HB4 := Lib.hid (HB.out.trans (hb.mono HB.out.size))
              clear hY hb d0 s5
              go_wp2_with (refine wpList_appo (o := ⟨some 100, _, _, _, _, _⟩) (by rfl) (.tmp 93) (.tmp 99) (by rfl) w7.heap.size z2 zc2 (numsL 4 (comms.take u)) HO4.out um HLJ.out (by rfl) _ 4 4 (putL x 4) HY4.out (putL_len ..) (by rfl) (um + 4) (by rfl) (by omega) HB4.out.size ?_; intro q9 cap9 w9 hO9 hB9 hG9)
              go_roundw
              case rel => exact ⟨u + 1, um + 4, q9, cap9, by omega, by go_num, rfl, by omega, by rw [HSN2.out]; exact hO9.out, HB4.out.trans hB9.out⟩
              case measure => simp [intOf]; omega
            · obtain rfl : u = cn := by omega
              have hO := HO.out
              rw [show comms.take u = comms from List.take_of_length_le (by rw [HCN.out]; exact Nat.le_refl _)] at hO
              have YC := Lib.hid hO.bytes
              have LC := Lib.hid (show (numsL 4 comms).length = um from by rw [numsL_len, HCN.out]; exact hum)
              have G := GC
              clear hO GC HO
              by_cases hc : 0 < u
              · have tc : decide ((0 : Int) < (um : Int)) = true := by simp; omega
                obtain ⟨ca, hca⟩ : ∃ ca, attrN um = ca := ⟨_, rfl⟩
                have hca' : ca ≤ 140 := by rw [← hca]; unfold attrN; split <;> omega
                have HCA := Lib.hid hca
                clear hca
                go_wp2_with fail
                (with_reducible refine (rone_any 192 8 z2 (numsL 4 comms) um zc2 ca _ (by omega) (by omega) (by omega) (by omega) YC.out LC.out (by omega) HCA.out).mono ?_); rintro e x2 ⟨qx, capx, rfl, hO, hb⟩
                have G := Lib.hid (G.out.next hb)
                have YX := Lib.hid hO.bytes
                have LX := Lib.hid (show (attrL 192 8 (numsL 4 comms)).length = ca from by rw [attrL_len, LC.out, HCA.out])
                clear hO hb
                go_wp2_with (refine wpList_appo (o := ⟨some 107, _, _, _, _, _⟩) (by rfl) (.tmp 104) (.tmp 106) (by rfl) W.heap.size q7 cap7 (((((attrL 64 1 [origin] ++ attrL 64 2 sg) ++ attrL 64 3 (putL next 4)) ++ attrL 128 4 (putL med 4)) ++ attrL 64 5 (putL pref 4))) G.out.own (4 + sa + 7 + 7 + 7) HL.out (by rfl) qx (ca) capx (attrL 192 8 (numsL 4 comms)) YX.out LX.out (by rfl) (4 + sa + 7 + 7 + 7 + ca) (by rfl) (by omega) G.out.hB ?_; intro q8 cap8 w8 hO8 hB8 hG8; have G8 := Lib.hid (G.out.app hO8.out hB8.out))
                have HL := Lib.hid (show ((((((attrL 64 1 [origin] ++ attrL 64 2 sg) ++ attrL 64 3 (putL next 4)) ++ attrL 128 4 (putL med 4)) ++ attrL 64 5 (putL pref 4)) ++ attrL 192 8 (numsL 4 comms))).length = 4 + sa + 7 + 7 + 7 + ca from by rw [List.length_append, HL.out, LX.out])
                have HFIN := Lib.hid (show po = (((((attrL 64 1 [origin] ++ attrL 64 2 sg) ++ attrL 64 3 (putL next 4)) ++ attrL 128 4 (putL med 4)) ++ attrL 64 5 (putL pref 4)) ++ attrL 192 8 (numsL 4 comms)) from by
                  rw [HPO.out, show medL med = attrL 128 4 (putL med 4) from by unfold medL; exact if_pos hm, show prefL pref = attrL 64 5 (putL pref 4) from by unfold prefL; exact if_pos hp, show commsL comms = attrL 192 8 (numsL 4 comms) from by unfold commsL; have := HCN.out; exact if_pos (by omega)])
                have HLEN := Lib.hid (show po.length = 4 + sa + 7 + 7 + 7 + ca from by rw [HFIN.out]; exact HL.out)
                go_ret
                exact ⟨q8, cap8, by rw [HLEN.out]; rfl, by rw [HFIN.out]; exact G8.out.own.mono (Nat.le_of_lt hgz0), HS0.out.bel.trans (G8.out.bel.mono (Nat.le_of_lt hgz0))⟩
              · have tc : decide ((0 : Int) < (um : Int)) = false := by simp; omega
                have HFIN := Lib.hid (show po = ((((attrL 64 1 [origin] ++ attrL 64 2 sg) ++ attrL 64 3 (putL next 4)) ++ attrL 128 4 (putL med 4)) ++ attrL 64 5 (putL pref 4)) from by
                  rw [HPO.out, show medL med = attrL 128 4 (putL med 4) from by unfold medL; exact if_pos hm, show prefL pref = attrL 64 5 (putL pref 4) from by unfold prefL; exact if_pos hp, show commsL comms = [] from by unfold commsL; have := HCN.out; exact if_neg (by omega)]; simp only [List.append_nil])
                have HLEN := Lib.hid (show po.length = 4 + sa + 7 + 7 + 7 from by rw [HFIN.out]; exact HL.out)
                go_wp2_with fail
                go_ret
                exact ⟨q7, cap7, by rw [HLEN.out]; rfl, by rw [HFIN.out]; exact G.out.own.mono (Nat.le_of_lt hgz0), HS0.out.bel.trans (G.out.bel.mono (Nat.le_of_lt hgz0))⟩
        · have tp : decide (0 ≤ pref) = false := decide_eq_false hp
          go_wp2_with (refine wpList_appo (o := ⟨some 67, _, _, _, _, _⟩) (by rfl) (.tmp 61) (.tmp 66) (by rfl) W.heap.size q4 cap4 ((attrL 64 1 [origin] ++ attrL 64 2 sg)) G.out.own (4 + sa) HL.out (by rfl) qx (7) capx (attrL 64 3 (putL next 4)) YX.out LX.out (by rfl) (4 + sa + 7) (by rfl) (by omega) G.out.hB ?_; intro q5 cap5 w5 hO5 hB5 hG5; have G5 := Lib.hid (G.out.app hO5.out hB5.out); have d3 := G5.out.blk.cell 3 (by simp); have d4 := G5.out.blk.cell 4 (by simp); have d5 := G5.out.blk.cell 5 (by simp))
          have HL := Lib.hid (show (((attrL 64 1 [origin] ++ attrL 64 2 sg) ++ attrL 64 3 (putL next 4))).length = 4 + sa + 7 from by rw [List.length_append, HL.out, LX.out])
          have G := G5
          clear YX LX G5 hO5 hB5 hG5
          (with_reducible refine (rput_4 med _ hm hmb).mono ?_); rintro e x1 ⟨rfl, hY, hb⟩
          have G' := Lib.hid (G.out.next hb)
          have Y := Lib.hid hY
          clear hY hb d3 d4 d5
          go_wp2_with fail
          (with_reducible refine (rone_any 128 4 _ (putL med 4) 4 4 7 _ (by omega) (by omega) (by omega) (by omega) Y.out (putL_len ..) (by omega) rfl).mono ?_); rintro e x2 ⟨qx, capx, rfl, hO, hb⟩
          have G := Lib.hid (G'.out.next hb)
          have YX := Lib.hid hO.bytes
          have LX := Lib.hid (show (attrL 128 4 (putL med 4)).length = 7 from by rw [attrL_len, putL_len]; rfl)
          clear hO hb G' Y
          go_wp2_with (refine wpList_appo (o := ⟨some 76, _, _, _, _, _⟩) (by rfl) (.tmp 71) (.tmp 75) (by rfl) W.heap.size q5 cap5 (((attrL 64 1 [origin] ++ attrL 64 2 sg) ++ attrL 64 3 (putL next 4))) G.out.own (4 + sa + 7) HL.out (by rfl) qx (7) capx (attrL 128 4 (putL med 4)) YX.out LX.out (by rfl) (4 + sa + 7 + 7) (by rfl) (by omega) G.out.hB ?_; intro q6 cap6 w6 hO6 hB6 hG6; have G6 := Lib.hid (G.out.app hO6.out hB6.out); have d4 := G6.out.blk.cell 4 (by simp); have d5 := G6.out.blk.cell 5 (by simp))
          have HL := Lib.hid (show ((((attrL 64 1 [origin] ++ attrL 64 2 sg) ++ attrL 64 3 (putL next 4)) ++ attrL 128 4 (putL med 4))).length = 4 + sa + 7 + 7 from by rw [List.length_append, HL.out, LX.out])
          have G := G6
          clear YX LX G6 hO6 hB6 hG6
          have HCI := Lib.hid (show IntsAt w6 cp comms from (HS0.out.ad.below G.out.bel).comms)
          clear tm tp
          go_loopw [11, 12] (fun b i wr => RComRel w6 cn comms b i wr) (fun _ i _ => cn - (intOf i).toNat)
          case atStart => exact ⟨0, 0, none, 0, Nat.zero_le _, rfl, rfl, rfl, Own.nil _ _, Below.refl _ _⟩
          case round =>
            obtain ⟨u, um, z2, zc2, hun, rfl, rfl, hum, hO, hB⟩ := hrel
            have HO := Lib.hid hO
            have HB := Lib.hid hB
            have GC := Lib.hid (G.out.next hB)
            have HUM := Lib.hid hum
            have s5 := GC.out.blk.cell 5 (by simp)
            simp only [List.getD_cons_zero, List.getD_cons_succ] at s5
            have hz5 : w6.heap.size ≤ wr.heap.size := hB.size
            clear hO hB
            by_cases hlt : u < cn
            · obtain ⟨b2, off2, rfl, d0⟩ := ints_cell (HCI.out.below HB.out) HCN.out hlt
              have HFX := Lib.hid (HPA.out.c1 u (by simp only; rw [HCN.out]; exact hlt))
              have HSN2 := Lib.hid (numsL_snoc 4 comms u (by rw [HCN.out]; exact hlt))
              have HLJ := Lib.hid (show (numsL 4 (comms.take u)).length = um from by rw [numsL_len, List.length_take, HCN.out, Nat.min_eq_left hun]; exact hum)
              obtain ⟨x, hx⟩ : ∃ x, comms.getD u 0 = x := ⟨_, rfl⟩
              simp only at HFX
              rw [hx] at d0 HFX HSN2
              clear hx
              go_wp2_with fail
              (with_reducible refine (rput_f4 x _ HFX.out).mono ?_); rintro e x1 ⟨rfl, hY, hb⟩
              have HY4 := Lib.hid hY
              have HO4 := Lib.hid (HO.out.below hb)
              have HB4 := Lib.hid (HB.out.trans (hb.mono HB.out.size))
              clear hY hb d0 s5
              go_wp2_with (refine wpList_appo (o := ⟨some 100, _, _, _, _, _⟩) (by rfl) (.tmp 93) (.tmp 99) (by rfl) w6.heap.size z2 zc2 (numsL 4 (comms.take u)) HO4.out um HLJ.out (by rfl) _ 4 4 (putL x 4) HY4.out (putL_len ..) (by rfl) (um + 4) (by rfl) (by omega) HB4.out.size ?_; intro q9 cap9 w9 hO9 hB9 hG9)
              go_roundw
              case rel => exact ⟨u + 1, um + 4, q9, cap9, by omega, by go_num, rfl, by omega, by rw [HSN2.out]; exact hO9.out, HB4.out.trans hB9.out⟩
              case measure => simp [intOf]; omega
            · obtain rfl : u = cn := by omega
              have hO := HO.out
              rw [show comms.take u = comms from List.take_of_length_le (by rw [HCN.out]; exact Nat.le_refl _)] at hO
              have YC := Lib.hid hO.bytes
              have LC := Lib.hid (show (numsL 4 comms).length = um from by rw [numsL_len, HCN.out]; exact hum)
              have G := GC
              clear hO GC HO
              by_cases hc : 0 < u
              · have tc : decide ((0 : Int) < (um : Int)) = true := by simp; omega
                obtain ⟨ca, hca⟩ : ∃ ca, attrN um = ca := ⟨_, rfl⟩
                have hca' : ca ≤ 140 := by rw [← hca]; unfold attrN; split <;> omega
                have HCA := Lib.hid hca
                clear hca
                go_wp2_with fail
                (with_reducible refine (rone_any 192 8 z2 (numsL 4 comms) um zc2 ca _ (by omega) (by omega) (by omega) (by omega) YC.out LC.out (by omega) HCA.out).mono ?_); rintro e x2 ⟨qx, capx, rfl, hO, hb⟩
                have G := Lib.hid (G.out.next hb)
                have YX := Lib.hid hO.bytes
                have LX := Lib.hid (show (attrL 192 8 (numsL 4 comms)).length = ca from by rw [attrL_len, LC.out, HCA.out])
                clear hO hb
                go_wp2_with (refine wpList_appo (o := ⟨some 107, _, _, _, _, _⟩) (by rfl) (.tmp 104) (.tmp 106) (by rfl) W.heap.size q6 cap6 ((((attrL 64 1 [origin] ++ attrL 64 2 sg) ++ attrL 64 3 (putL next 4)) ++ attrL 128 4 (putL med 4))) G.out.own (4 + sa + 7 + 7) HL.out (by rfl) qx (ca) capx (attrL 192 8 (numsL 4 comms)) YX.out LX.out (by rfl) (4 + sa + 7 + 7 + ca) (by rfl) (by omega) G.out.hB ?_; intro q8 cap8 w8 hO8 hB8 hG8; have G8 := Lib.hid (G.out.app hO8.out hB8.out))
                have HL := Lib.hid (show (((((attrL 64 1 [origin] ++ attrL 64 2 sg) ++ attrL 64 3 (putL next 4)) ++ attrL 128 4 (putL med 4)) ++ attrL 192 8 (numsL 4 comms))).length = 4 + sa + 7 + 7 + ca from by rw [List.length_append, HL.out, LX.out])
                have HFIN := Lib.hid (show po = ((((attrL 64 1 [origin] ++ attrL 64 2 sg) ++ attrL 64 3 (putL next 4)) ++ attrL 128 4 (putL med 4)) ++ attrL 192 8 (numsL 4 comms)) from by
                  rw [HPO.out, show medL med = attrL 128 4 (putL med 4) from by unfold medL; exact if_pos hm, show prefL pref = [] from by unfold prefL; exact if_neg (by omega), show commsL comms = attrL 192 8 (numsL 4 comms) from by unfold commsL; have := HCN.out; exact if_pos (by omega)]; simp only [List.append_nil])
                have HLEN := Lib.hid (show po.length = 4 + sa + 7 + 7 + ca from by rw [HFIN.out]; exact HL.out)
                go_ret
                exact ⟨q8, cap8, by rw [HLEN.out]; rfl, by rw [HFIN.out]; exact G8.out.own.mono (Nat.le_of_lt hgz0), HS0.out.bel.trans (G8.out.bel.mono (Nat.le_of_lt hgz0))⟩
              · have tc : decide ((0 : Int) < (um : Int)) = false := by simp; omega
                have HFIN := Lib.hid (show po = (((attrL 64 1 [origin] ++ attrL 64 2 sg) ++ attrL 64 3 (putL next 4)) ++ attrL 128 4 (putL med 4)) from by
                  rw [HPO.out, show medL med = attrL 128 4 (putL med 4) from by unfold medL; exact if_pos hm, show prefL pref = [] from by unfold prefL; exact if_neg (by omega), show commsL comms = [] from by unfold commsL; have := HCN.out; exact if_neg (by omega)]; simp only [List.append_nil])
                have HLEN := Lib.hid (show po.length = 4 + sa + 7 + 7 from by rw [HFIN.out]; exact HL.out)
                go_wp2_with fail
                go_ret
                exact ⟨q6, cap6, by rw [HLEN.out]; rfl, by rw [HFIN.out]; exact G.out.own.mono (Nat.le_of_lt hgz0), HS0.out.bel.trans (G.out.bel.mono (Nat.le_of_lt hgz0))⟩
      · have tm : decide (0 ≤ med) = false := decide_eq_false hm
        by_cases hp : 0 ≤ pref
        · have tp : decide (0 ≤ pref) = true := decide_eq_true hp
          go_wp2_with (refine wpList_appo (o := ⟨some 67, _, _, _, _, _⟩) (by rfl) (.tmp 61) (.tmp 66) (by rfl) W.heap.size q4 cap4 ((attrL 64 1 [origin] ++ attrL 64 2 sg)) G.out.own (4 + sa) HL.out (by rfl) qx (7) capx (attrL 64 3 (putL next 4)) YX.out LX.out (by rfl) (4 + sa + 7) (by rfl) (by omega) G.out.hB ?_; intro q5 cap5 w5 hO5 hB5 hG5; have G5 := Lib.hid (G.out.app hO5.out hB5.out); have d3 := G5.out.blk.cell 3 (by simp); have d4 := G5.out.blk.cell 4 (by simp); have d5 := G5.out.blk.cell 5 (by simp))
          have HL := Lib.hid (show (((attrL 64 1 [origin] ++ attrL 64 2 sg) ++ attrL 64 3 (putL next 4))).length = 4 + sa + 7 from by rw [List.length_append, HL.out, LX.out])
          have G := G5
          clear YX LX G5 hO5 hB5 hG5
          (with_reducible refine (rput_4 pref _ hp hqb).mono ?_); rintro e x1 ⟨rfl, hY, hb⟩
          have G' := Lib.hid (G.out.next hb)
          have Y := Lib.hid hY
          clear hY hb d4 d5
          go_wp2_with fail
          (with_reducible refine (rone_any 64 5 _ (putL pref 4) 4 4 7 _ (by omega) (by omega) (by omega) (by omega) Y.out (putL_len ..) (by omega) rfl).mono ?_); rintro e x2 ⟨qx, capx, rfl, hO, hb⟩
          have G := Lib.hid (G'.out.next hb)
          have YX := Lib.hid hO.bytes
          have LX := Lib.hid (show (attrL 64 5 (putL pref 4)).length = 7 from by rw [attrL_len, putL_len]; rfl)
          clear hO hb G' Y
          go_wp2_with (refine wpList_appo (o := ⟨some 85, _, _, _, _, _⟩) (by rfl) (.tmp 80) (.tmp 84) (by rfl) W.heap.size q5 cap5 (((attrL 64 1 [origin] ++ attrL 64 2 sg) ++ attrL 64 3 (putL next 4))) G.out.own (4 + sa + 7) HL.out (by rfl) qx (7) capx (attrL 64 5 (putL pref 4)) YX.out LX.out (by rfl) (4 + sa + 7 + 7) (by rfl) (by omega) G.out.hB ?_; intro q7 cap7 w7 hO7 hB7 hG7; have G7 := Lib.hid (G.out.app hO7.out hB7.out); have d5 := G7.out.blk.cell 5 (by simp))
          have HL := Lib.hid (show ((((attrL 64 1 [origin] ++ attrL 64 2 sg) ++ attrL 64 3 (putL next 4)) ++ attrL 64 5 (putL pref 4))).length = 4 + sa + 7 + 7 from by rw [List.length_append, HL.out, LX.out])
          have G := G7
          clear YX LX G7 hO7 hB7 hG7
          have HCI := Lib.hid (show IntsAt w7 cp comms from (HS0.out.ad.below G.out.bel).comms)
          clear tm tp
          go_loopw [11, 12] (fun b i wr => RComRel w7 cn comms b i wr) (fun _ i _ => cn - (intOf i).toNat)
          case atStart => exact ⟨0, 0, none, 0, Nat.zero_le _, rfl, rfl, rfl, Own.nil _ _, Below.refl _ _⟩
          case round =>
            obtain ⟨u, um, z2, zc2, hun, rfl, rfl, hum, hO, hB⟩ := hrel
            have HO := Lib.hid hO
            have HB := Lib.hid hB
            have GC := Lib.hid (G.out.next hB)
            have HUM := Lib.hid hum
            have s5 := GC.out.blk.cell 5 (by simp)
            simp only [List.getD_cons_zero, List.getD_cons_succ] at s5
            have hz5 : w7.heap.size ≤ wr.heap.size := hB.size
            clear hO hB
            by_cases hlt : u < cn
            · obtain ⟨b2, off2, rfl, d0⟩ := ints_cell (HCI.out.below HB.out) HCN.out hlt
              have HFX := Lib.hid (HPA.out.c1 u (by simp only; rw [HCN.out]; exact hlt))
              have HSN2 := Lib.hid (numsL_snoc 4 comms u (by rw [HCN.out]; exact hlt))
              have HLJ := Lib.hid (show (numsL 4 (comms.take u)).length = um from by rw [numsL_len, List.length_take, HCN.out, Nat.min_eq_left hun]; exact hum)
              obtain ⟨x, hx⟩ : ∃ x, comms.getD u 0 = x := ⟨_, rfl⟩
              simp only at HFX
              rw [hx] at d0 HFX HSN2
              clear hx
              go_wp2_with fail
              (with_reducible refine (rput_f4 x _ HFX.out).mono ?_); rintro e x1 ⟨rfl, hY, hb⟩
              have HY4 := Lib.hid hY
              have HO4 := Lib.hid (HO.out.below hb)
              have HB4 := Lib.hid (HB.out.trans (hb.mono HB.out.size))
              clear hY hb d0 s5
              go_wp2_with (refine wpList_appo (o := ⟨some 100, _, _, _, _, _⟩) (by rfl) (.tmp 93) (.tmp 99) (by rfl) w7.heap.size z2 zc2 (numsL 4 (comms.take u)) HO4.out um HLJ.out (by rfl) _ 4 4 (putL x 4) HY4.out (putL_len ..) (by rfl) (um + 4) (by rfl) (by omega) HB4.out.size ?_; intro q9 cap9 w9 hO9 hB9 hG9)
              go_roundw
              case rel => exact ⟨u + 1, um + 4, q9, cap9, by omega, by go_num, rfl, by omega, by rw [HSN2.out]; exact hO9.out, HB4.out.trans hB9.out⟩
              case measure => simp [intOf]; omega
            · obtain rfl : u = cn := by omega
              have hO := HO.out
              rw [show comms.take u = comms from List.take_of_length_le (by rw [HCN.out]; exact Nat.le_refl _)] at hO
              have YC := Lib.hid hO.bytes
              have LC := Lib.hid (show (numsL 4 comms).length = um from by rw [numsL_len, HCN.out]; exact hum)
              have G := GC
              clear hO GC HO
              by_cases hc : 0 < u
              · have tc : decide ((0 : Int) < (um : Int)) = true := by simp; omega
                obtain ⟨ca, hca⟩ : ∃ ca, attrN um = ca := ⟨_, rfl⟩
                have hca' : ca ≤ 140 := by rw [← hca]; unfold attrN; split <;> omega
                have HCA := Lib.hid hca
                clear hca
                go_wp2_with fail
                (with_reducible refine (rone_any 192 8 z2 (numsL 4 comms) um zc2 ca _ (by omega) (by omega) (by omega) (by omega) YC.out LC.out (by omega) HCA.out).mono ?_); rintro e x2 ⟨qx, capx, rfl, hO, hb⟩
                have G := Lib.hid (G.out.next hb)
                have YX := Lib.hid hO.bytes
                have LX := Lib.hid (show (attrL 192 8 (numsL 4 comms)).length = ca from by rw [attrL_len, LC.out, HCA.out])
                clear hO hb
                go_wp2_with (refine wpList_appo (o := ⟨some 107, _, _, _, _, _⟩) (by rfl) (.tmp 104) (.tmp 106) (by rfl) W.heap.size q7 cap7 ((((attrL 64 1 [origin] ++ attrL 64 2 sg) ++ attrL 64 3 (putL next 4)) ++ attrL 64 5 (putL pref 4))) G.out.own (4 + sa + 7 + 7) HL.out (by rfl) qx (ca) capx (attrL 192 8 (numsL 4 comms)) YX.out LX.out (by rfl) (4 + sa + 7 + 7 + ca) (by rfl) (by omega) G.out.hB ?_; intro q8 cap8 w8 hO8 hB8 hG8; have G8 := Lib.hid (G.out.app hO8.out hB8.out))
                have HL := Lib.hid (show (((((attrL 64 1 [origin] ++ attrL 64 2 sg) ++ attrL 64 3 (putL next 4)) ++ attrL 64 5 (putL pref 4)) ++ attrL 192 8 (numsL 4 comms))).length = 4 + sa + 7 + 7 + ca from by rw [List.length_append, HL.out, LX.out])
                have HFIN := Lib.hid (show po = ((((attrL 64 1 [origin] ++ attrL 64 2 sg) ++ attrL 64 3 (putL next 4)) ++ attrL 64 5 (putL pref 4)) ++ attrL 192 8 (numsL 4 comms)) from by
                  rw [HPO.out, show medL med = [] from by unfold medL; exact if_neg (by omega), show prefL pref = attrL 64 5 (putL pref 4) from by unfold prefL; exact if_pos hp, show commsL comms = attrL 192 8 (numsL 4 comms) from by unfold commsL; have := HCN.out; exact if_pos (by omega)]; simp only [List.append_nil])
                have HLEN := Lib.hid (show po.length = 4 + sa + 7 + 7 + ca from by rw [HFIN.out]; exact HL.out)
                go_ret
                exact ⟨q8, cap8, by rw [HLEN.out]; rfl, by rw [HFIN.out]; exact G8.out.own.mono (Nat.le_of_lt hgz0), HS0.out.bel.trans (G8.out.bel.mono (Nat.le_of_lt hgz0))⟩
              · have tc : decide ((0 : Int) < (um : Int)) = false := by simp; omega
                have HFIN := Lib.hid (show po = (((attrL 64 1 [origin] ++ attrL 64 2 sg) ++ attrL 64 3 (putL next 4)) ++ attrL 64 5 (putL pref 4)) from by
                  rw [HPO.out, show medL med = [] from by unfold medL; exact if_neg (by omega), show prefL pref = attrL 64 5 (putL pref 4) from by unfold prefL; exact if_pos hp, show commsL comms = [] from by unfold commsL; have := HCN.out; exact if_neg (by omega)]; simp only [List.append_nil])
                have HLEN := Lib.hid (show po.length = 4 + sa + 7 + 7 from by rw [HFIN.out]; exact HL.out)
                go_wp2_with fail
                go_ret
                exact ⟨q7, cap7, by rw [HLEN.out]; rfl, by rw [HFIN.out]; exact G.out.own.mono (Nat.le_of_lt hgz0), HS0.out.bel.trans (G.out.bel.mono (Nat.le_of_lt hgz0))⟩
        · have tp : decide (0 ≤ pref) = false := decide_eq_false hp
          go_wp2_with (refine wpList_appo (o := ⟨some 67, _, _, _, _, _⟩) (by rfl) (.tmp 61) (.tmp 66) (by rfl) W.heap.size q4 cap4 ((attrL 64 1 [origin] ++ attrL 64 2 sg)) G.out.own (4 + sa) HL.out (by rfl) qx (7) capx (attrL 64 3 (putL next 4)) YX.out LX.out (by rfl) (4 + sa + 7) (by rfl) (by omega) G.out.hB ?_; intro q5 cap5 w5 hO5 hB5 hG5; have G5 := Lib.hid (G.out.app hO5.out hB5.out); have d3 := G5.out.blk.cell 3 (by simp); have d4 := G5.out.blk.cell 4 (by simp); have d5 := G5.out.blk.cell 5 (by simp))
          have HL := Lib.hid (show (((attrL 64 1 [origin] ++ attrL 64 2 sg) ++ attrL 64 3 (putL next 4))).length = 4 + sa + 7 from by rw [List.length_append, HL.out, LX.out])
          have G := G5
          clear YX LX G5 hO5 hB5 hG5
          have HCI := Lib.hid (show IntsAt w5 cp comms from (HS0.out.ad.below G.out.bel).comms)
          clear tm tp
          go_loopw [11, 12] (fun b i wr => RComRel w5 cn comms b i wr) (fun _ i _ => cn - (intOf i).toNat)
          case atStart => exact ⟨0, 0, none, 0, Nat.zero_le _, rfl, rfl, rfl, Own.nil _ _, Below.refl _ _⟩
          case round =>
            obtain ⟨u, um, z2, zc2, hun, rfl, rfl, hum, hO, hB⟩ := hrel
            have HO := Lib.hid hO
            have HB := Lib.hid hB
            have GC := Lib.hid (G.out.next hB)
            have HUM := Lib.hid hum
            have s5 := GC.out.blk.cell 5 (by simp)
            simp only [List.getD_cons_zero, List.getD_cons_succ] at s5
            have hz5 : w5.heap.size ≤ wr.heap.size := hB.size
            clear hO hB
            by_cases hlt : u < cn
            · obtain ⟨b2, off2, rfl, d0⟩ := ints_cell (HCI.out.below HB.out) HCN.out hlt
              have HFX := Lib.hid (HPA.out.c1 u (by simp only; rw [HCN.out]; exact hlt))
              have HSN2 := Lib.hid (numsL_snoc 4 comms u (by rw [HCN.out]; exact hlt))
              have HLJ := Lib.hid (show (numsL 4 (comms.take u)).length = um from by rw [numsL_len, List.length_take, HCN.out, Nat.min_eq_left hun]; exact hum)
              obtain ⟨x, hx⟩ : ∃ x, comms.getD u 0 = x := ⟨_, rfl⟩
              simp only at HFX
              rw [hx] at d0 HFX HSN2
              clear hx
              go_wp2_with fail
              (with_reducible refine (rput_f4 x _ HFX.out).mono ?_); rintro e x1 ⟨rfl, hY, hb⟩
              have HY4 := Lib.hid hY
              have HO4 := Lib.hid (HO.out.below hb)
              have HB4 := Lib.hid (HB.out.trans (hb.mono HB.out.size))
              clear hY hb d0 s5
              go_wp2_with (refine wpList_appo (o := ⟨some 100, _, _, _, _, _⟩) (by rfl) (.tmp 93) (.tmp 99) (by rfl) w5.heap.size z2 zc2 (numsL 4 (comms.take u)) HO4.out um HLJ.out (by rfl) _ 4 4 (putL x 4) HY4.out (putL_len ..) (by rfl) (um + 4) (by rfl) (by omega) HB4.out.size ?_; intro q9 cap9 w9 hO9 hB9 hG9)
              go_roundw
              case rel => exact ⟨u + 1, um + 4, q9, cap9, by omega, by go_num, rfl, by omega, by rw [HSN2.out]; exact hO9.out, HB4.out.trans hB9.out⟩
              case measure => simp [intOf]; omega
            · obtain rfl : u = cn := by omega
              have hO := HO.out
              rw [show comms.take u = comms from List.take_of_length_le (by rw [HCN.out]; exact Nat.le_refl _)] at hO
              have YC := Lib.hid hO.bytes
              have LC := Lib.hid (show (numsL 4 comms).length = um from by rw [numsL_len, HCN.out]; exact hum)
              have G := GC
              clear hO GC HO
              by_cases hc : 0 < u
              · have tc : decide ((0 : Int) < (um : Int)) = true := by simp; omega
                obtain ⟨ca, hca⟩ : ∃ ca, attrN um = ca := ⟨_, rfl⟩
                have hca' : ca ≤ 140 := by rw [← hca]; unfold attrN; split <;> omega
                have HCA := Lib.hid hca
                clear hca
                go_wp2_with fail
                (with_reducible refine (rone_any 192 8 z2 (numsL 4 comms) um zc2 ca _ (by omega) (by omega) (by omega) (by omega) YC.out LC.out (by omega) HCA.out).mono ?_); rintro e x2 ⟨qx, capx, rfl, hO, hb⟩
                have G := Lib.hid (G.out.next hb)
                have YX := Lib.hid hO.bytes
                have LX := Lib.hid (show (attrL 192 8 (numsL 4 comms)).length = ca from by rw [attrL_len, LC.out, HCA.out])
                clear hO hb
                go_wp2_with (refine wpList_appo (o := ⟨some 107, _, _, _, _, _⟩) (by rfl) (.tmp 104) (.tmp 106) (by rfl) W.heap.size q5 cap5 (((attrL 64 1 [origin] ++ attrL 64 2 sg) ++ attrL 64 3 (putL next 4))) G.out.own (4 + sa + 7) HL.out (by rfl) qx (ca) capx (attrL 192 8 (numsL 4 comms)) YX.out LX.out (by rfl) (4 + sa + 7 + ca) (by rfl) (by omega) G.out.hB ?_; intro q8 cap8 w8 hO8 hB8 hG8; have G8 := Lib.hid (G.out.app hO8.out hB8.out))
                have HL := Lib.hid (show ((((attrL 64 1 [origin] ++ attrL 64 2 sg) ++ attrL 64 3 (putL next 4)) ++ attrL 192 8 (numsL 4 comms))).length = 4 + sa + 7 + ca from by rw [List.length_append, HL.out, LX.out])
                have HFIN := Lib.hid (show po = (((attrL 64 1 [origin] ++ attrL 64 2 sg) ++ attrL 64 3 (putL next 4)) ++ attrL 192 8 (numsL 4 comms)) from by
                  rw [HPO.out, show medL med = [] from by unfold medL; exact if_neg (by omega), show prefL pref = [] from by unfold prefL; exact if_neg (by omega), show commsL comms = attrL 192 8 (numsL 4 comms) from by unfold commsL; have := HCN.out; exact if_pos (by omega)]; simp only [List.append_nil])
                have HLEN := Lib.hid (show po.length = 4 + sa + 7 + ca from by rw [HFIN.out]; exact HL.out)
                go_ret
                exact ⟨q8, cap8, by rw [HLEN.out]; rfl, by rw [HFIN.out]; exact G8.out.own.mono (Nat.le_of_lt hgz0), HS0.out.bel.trans (G8.out.bel.mono (Nat.le_of_lt hgz0))⟩
              · have tc : decide ((0 : Int) < (um : Int)) = false := by simp; omega
                have HFIN := Lib.hid (show po = ((attrL 64 1 [origin] ++ attrL 64 2 sg) ++ attrL 64 3 (putL next 4)) from by
                  rw [HPO.out, show medL med = [] from by unfold medL; exact if_neg (by omega), show prefL pref = [] from by unfold prefL; exact if_neg (by omega), show commsL comms = [] from by unfold commsL; have := HCN.out; exact if_neg (by omega)]; simp only [List.append_nil])
                have HLEN := Lib.hid (show po.length = 4 + sa + 7 from by rw [HFIN.out]; exact HL.out)
                go_wp2_with fail
                go_ret
                exact ⟨q5, cap5, by rw [HLEN.out]; rfl, by rw [HFIN.out]; exact G.out.own.mono (Nat.le_of_lt hgz0), HS0.out.bel.trans (G.out.bel.mono (Nat.le_of_lt hgz0))⟩
end Go.Proofs.YtpeagakpmjnelaaDoor.Ax
