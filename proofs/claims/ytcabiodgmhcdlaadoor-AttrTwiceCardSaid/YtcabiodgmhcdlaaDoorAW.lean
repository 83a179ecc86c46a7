/- AttrTwice: the walk. -/
import Derived.Test.YtcabiodgmhcdlaaDoorAV
namespace Go.Proofs.YtcabiodgmhcdlaaDoor
open Go.RowKit

set_option maxRecDepth 100000 in
set_option maxHeartbeats 8000000 in
theorem attrTwice_any (a c : At) (l m : Loc) (K : Int) (dq : Option Addr) (data : List Int) (dn dc : Nat) (four : Bool) (w : World) (ht : Tab w) (ha : AtAt w a l) (hc : AtAt w c m) (hd : BytesAt w dq data) (hdn : data.length = dn) :
    Calls Tryd.prog 5 #[.agg (atL a l).toArray, .agg (atL c m).toArray, .int .i64 K, .slice dq dn dc, .bool four] w fun e w' => e = .returned (.bool true) ∧ Below w.heap.size w w' := by
  have h0 := two_below w (.cells (atL a l).toArray 26) (.cells (atL c m).toArray 26)
  have A0 := (Blk.new w 26 (atL a l)).alloc (.cells (atL c m).toArray 26)
  have C0 := Blk.new (w.alloc (.cells (atL a l).toArray 26)) 26 (atL c m)
  rw [sz_alloc] at C0
  obtain ⟨W, hW⟩ : ∃ W, (w.alloc (.cells (atL a l).toArray 26)).alloc (.cells (atL c m).toArray 26) = W := ⟨_, rfl⟩
  rw [hW] at h0 A0 C0
  have ha' := ha.below h0
  have hc' := hc.below h0
  have n0 : 0 ≤ a.next := ha.n0
  have n1 : a.next ≤ 4294967295 := ha.n1
  have hcl : a.comms.length = l.cn := ha.cn
  have HB := Lib.hid h0
  have HA := Lib.hid A0
  have HC := Lib.hid C0
  have HLA := Lib.hid (fun u (h : Below W.heap.size W u) => large_any a l u (ha'.below h))
  have HLC := Lib.hid (fun u (h : Below W.heap.size W u) => large_any c m u (hc'.below h))
  have HKA := Lib.hid (fun u (h : Below W.heap.size W u) => rcheck_any a l four u (ha'.below h))
  have HKC := Lib.hid (fun u (h : Below W.heap.size W u) => rcheck_any c m four u (hc'.below h))
  have HLV := Lib.hid (fun u (h : Below W.heap.size W u) => lives_any u (ht.below (h0.trans (h.mono h0.size))))
  have HTT := Lib.hid (fun u (h : Below W.heap.size W u) => ht.below (h0.trans (h.mono h0.size)))
  have HDD := Lib.hid (fun u (h : Below W.heap.size W u) => hd.below (h0.trans (h.mono h0.size)))
  have HAA := Lib.hid (fun u (h : Below W.heap.size W u) (l' : Loc) (h2 : AtAt u a l') => rsame_yes a l' l u h2 (ha'.below h))
  have HPA := Lib.hid (fun (hk : okA a four = true) u (h : Below W.heap.size W u) => show Calls Tryd.prog 12 #[.agg (atL a l).toArray, .bool four] u fun e w' => ∃ p cap, e = .returned (.slice p (putA a four).length cap) ∧ Own w' u.heap.size p cap (putA a four) ∧ Below u.heap.size u w' from rputA_any a.origin a.next a.med a.pref a.path a.comms l.pp l.cp l.pn l.pc l.cn l.cc four u (ha'.below h) hk)
  have HPC := Lib.hid (fun (hk : okA c four = true) u (h : Below W.heap.size W u) => show Calls Tryd.prog 12 #[.agg (atL c m).toArray, .bool four] u fun e w' => ∃ p cap, e = .returned (.slice p (putA c four).length cap) ∧ Own w' u.heap.size p cap (putA c four) ∧ Below u.heap.size u w' from rputA_any c.origin c.next c.med c.pref c.path c.comms m.pp m.cp m.pn m.pc m.cn m.cc four u (hc'.below h) hk)
  have HLNA := Lib.hid (fun (hk : okA a four = true) => (putA_len a four hk).2.1)
  have HLNC := Lib.hid (fun (hk : okA c four = true) => (putA_len c four hk).2.1)
  have HGT := Lib.hid (fun (hka : okA a four = true) (hkc : okA c four = true) (hm0 : 0 ≤ a.med) (hr0 : 0 ≤ a.pref) (hz : 0 < l.cn) (k9 : 9 ≤ K) (hdl : dn ≤ 255) u (h : Below W.heap.size W u) (q : Option Addr) (t cap : Nat) (ht2 : (putA a four).length + 3 + dn + (putA c four).length = t) (hb : BytesAt u q (putA a four ++ [192, K, (dn : Int)] ++ data ++ putA c four)) => show Calls Tryd.prog 11 #[.slice q t cap, .bool four] u fun e w' => ∃ l', e = .returned (.tuple #[.agg (atL a l').toArray, .int .i64 1]) ∧ AtAt w' a l' ∧ Below u.heap.size u w' from by
    have hg := getA_any four q (putA a four ++ [192, K, (dn : Int)] ++ data ++ putA c four) t cap u (HTT.out u h) hb (by simp only [List.length_append, List.length_cons, List.length_nil]; omega) (by have := HLNA.out hka; have := HLNC.out hkc; omega)
    have h2 := getA_twice a c four K data hka hkc n0 n1 hm0 hr0 (by omega) k9 (by omega)
    rw [hdn] at h2
    rw [h2] at hg
    exact hg)
  have HDN := Lib.hid hdn
  obtain ⟨xa, hxa⟩ : ∃ xa, putA a four = xa := ⟨_, rfl⟩
  obtain ⟨xc, hxc⟩ : ∃ xc, putA c four = xc := ⟨_, rfl⟩
  rw [hxa] at HPA HGT HLNA
  rw [hxc] at HPC HGT HLNC
  obtain ⟨na, hna⟩ : ∃ na, xa.length = na := ⟨_, rfl⟩
  obtain ⟨nc, hnc⟩ : ∃ nc, xc.length = nc := ⟨_, rfl⟩
  rw [hna] at HPA HGT HLNA
  rw [hnc] at HPC HGT HLNC
  have HNA := Lib.hid hna
  have HNC := Lib.hid hnc
  have HW := Lib.hid hW
  obtain ⟨ao, apath, ax, am, ar, acomms⟩ := a
  obtain ⟨app, apn, apc, acp, acn, acc⟩ := l
  obtain ⟨co, cpath, cx, cm, cr, ccomms⟩ := c
  obtain ⟨cpp, cpn, cpc, ccp, ccn, ccc⟩ := m
  simp only [atL] at *
  have k0 := A0.cell 0 (by simp)
  have k1 := A0.cell 1 (by simp)
  have k2 := A0.cell 2 (by simp)
  have k3 := A0.cell 3 (by simp)
  have k4 := A0.cell 4 (by simp)
  have k5 := A0.cell 5 (by simp)
  simp only [List.getD_cons_zero, List.getD_cons_succ] at k0 k1 k2 k3 k4 k5
  rw [← hW] at k0 k1 k2 k3 k4 k5
  clear ha hc hd ha' hc' h0 A0 C0 hW ht n0 n1 hdn hxa hxc hna hnc hcl
  rcases hla : largeB ⟨ao, apath, ax, am, ar, acomms⟩ with _ | _
  · rw [hla] at HLA
    rcases hlc : largeB ⟨co, cpath, cx, cm, cr, ccomms⟩ with _ | _
    · rw [hlc] at HLC
      rcases hka : okA ⟨ao, apath, ax, am, ar, acomms⟩ four with _ | _
      · rw [hka] at HKA
        clear HPA HPC HGT HLNA HLNC HTT HDD HAA
        go_enter Tryd.func5, Tryd.ntmps5
        go_wp2_with fail
        rw [HW.out]
        clear k0 k1 k2 k3 k4 k5
        refine (HLA.out W (Below.refl _ _)).mono ?_; rintro e w1 ⟨rfl, hb⟩
        have B1 := Lib.hid (hb)
        have HX1 := Lib.hid (HC.out.next B1.out)
        have c0 := HX1.out.cell 0 (by simp)
        have c1 := HX1.out.cell 1 (by simp)
        have c2 := HX1.out.cell 2 (by simp)
        have c3 := HX1.out.cell 3 (by simp)
        have c4 := HX1.out.cell 4 (by simp)
        have c5 := HX1.out.cell 5 (by simp)
        simp only [List.getD_cons_zero, List.getD_cons_succ] at c0 c1 c2 c3 c4 c5
        clear hb
        go_wp2_with fail
        clear c0 c1 c2 c3 c4 c5
        refine (HLC.out w1 B1.out).mono ?_; rintro e w2 ⟨rfl, hb⟩
        have B2 := Lib.hid (B1.out.trans (hb.mono B1.out.size))
        have HX2 := Lib.hid (HA.out.next B2.out)
        have c0 := HX2.out.cell 0 (by simp)
        have c1 := HX2.out.cell 1 (by simp)
        have c2 := HX2.out.cell 2 (by simp)
        have c3 := HX2.out.cell 3 (by simp)
        have c4 := HX2.out.cell 4 (by simp)
        have c5 := HX2.out.cell 5 (by simp)
        simp only [List.getD_cons_zero, List.getD_cons_succ] at c0 c1 c2 c3 c4 c5
        clear hb
        go_wp2_with fail
        clear c0 c1 c2 c3 c4 c5
        refine (HKA.out w2 B2.out).mono ?_; rintro e w3 ⟨rfl, hb⟩
        have B3 := Lib.hid (B2.out.trans (hb.mono B2.out.size))
        clear hb
        go_wp2_with fail
        refine (HLV.out w3 B3.out).mono ?_; rintro e wz ⟨rfl, hb⟩
        have BZ := Lib.hid (B3.out.trans (hb.mono B3.out.size))
        clear hb
        go_wp2_with fail
        go_ret
        exact ⟨rfl, HB.out.trans (BZ.out.mono HB.out.size)⟩
      · rw [hka] at HKA
        rcases hkc : okA ⟨co, cpath, cx, cm, cr, ccomms⟩ four with _ | _
        · rw [hkc] at HKC
          clear HPA HPC HGT HLNA HLNC HTT HDD HAA
          go_enter Tryd.func5, Tryd.ntmps5
          go_wp2_with fail
          rw [HW.out]
          clear k0 k1 k2 k3 k4 k5
          refine (HLA.out W (Below.refl _ _)).mono ?_; rintro e w1 ⟨rfl, hb⟩
          have B1 := Lib.hid (hb)
          have HX1 := Lib.hid (HC.out.next B1.out)
          have c0 := HX1.out.cell 0 (by simp)
          have c1 := HX1.out.cell 1 (by simp)
          have c2 := HX1.out.cell 2 (by simp)
          have c3 := HX1.out.cell 3 (by simp)
          have c4 := HX1.out.cell 4 (by simp)
          have c5 := HX1.out.cell 5 (by simp)
          simp only [List.getD_cons_zero, List.getD_cons_succ] at c0 c1 c2 c3 c4 c5
          clear hb
          go_wp2_with fail
          clear c0 c1 c2 c3 c4 c5
          refine (HLC.out w1 B1.out).mono ?_; rintro e w2 ⟨rfl, hb⟩
          have B2 := Lib.hid (B1.out.trans (hb.mono B1.out.size))
          have HX2 := Lib.hid (HA.out.next B2.out)
          have c0 := HX2.out.cell 0 (by simp)
          have c1 := HX2.out.cell 1 (by simp)
          have c2 := HX2.out.cell 2 (by simp)
          have c3 := HX2.out.cell 3 (by simp)
          have c4 := HX2.out.cell 4 (by simp)
          have c5 := HX2.out.cell 5 (by simp)
          simp only [List.getD_cons_zero, List.getD_cons_succ] at c0 c1 c2 c3 c4 c5
          clear hb
          go_wp2_with fail
          clear c0 c1 c2 c3 c4 c5
          refine (HKA.out w2 B2.out).mono ?_; rintro e w3 ⟨rfl, hb⟩
          have B3 := Lib.hid (B2.out.trans (hb.mono B2.out.size))
          have HX3 := Lib.hid (HC.out.next B3.out)
          have c0 := HX3.out.cell 0 (by simp)
          have c1 := HX3.out.cell 1 (by simp)
          have c2 := HX3.out.cell 2 (by simp)
          have c3 := HX3.out.cell 3 (by simp)
          have c4 := HX3.out.cell 4 (by simp)
          have c5 := HX3.out.cell 5 (by simp)
          simp only [List.getD_cons_zero, List.getD_cons_succ] at c0 c1 c2 c3 c4 c5
          clear hb
          go_wp2_with fail
          clear c0 c1 c2 c3 c4 c5
          refine (HKC.out w3 B3.out).mono ?_; rintro e w4 ⟨rfl, hb⟩
          have B4 := Lib.hid (B3.out.trans (hb.mono B3.out.size))
          clear hb
          go_wp2_with fail
          refine (HLV.out w4 B4.out).mono ?_; rintro e wz ⟨rfl, hb⟩
          have BZ := Lib.hid (B4.out.trans (hb.mono B4.out.size))
          clear hb
          go_wp2_with fail
          go_ret
          exact ⟨rfl, HB.out.trans (BZ.out.mono HB.out.size)⟩
        · rw [hkc] at HKC
          have hcase : ((decide (K < 9) = true) ∨ (decide (K < 9) = false ∧ decide (255 < K) = true) ∨ (decide (K < 9) = false ∧ decide (255 < K) = false ∧ decide (255 < (dn : Int)) = true) ∨ (decide (K < 9) = false ∧ decide (255 < K) = false ∧ decide (255 < (dn : Int)) = false ∧ decide (am < 0) = true) ∨ (decide (K < 9) = false ∧ decide (255 < K) = false ∧ decide (255 < (dn : Int)) = false ∧ decide (am < 0) = false ∧ decide (ar < 0) = true) ∨ (decide (K < 9) = false ∧ decide (255 < K) = false ∧ decide (255 < (dn : Int)) = false ∧ decide (am < 0) = false ∧ decide (ar < 0) = false ∧ ((acn : Int) == 0) = true)) ∨ (decide (K < 9) = false ∧ decide (255 < K) = false ∧ decide (255 < (dn : Int)) = false ∧ decide (am < 0) = false ∧ decide (ar < 0) = false ∧ ((acn : Int) == 0) = false) := by
            by_cases h1 : K < 9
            · exact .inl (.inl (decide_eq_true h1))
            have t0 := decide_eq_false h1
            by_cases h2 : 255 < K
            · exact .inl (.inr (.inl ⟨t0, decide_eq_true h2⟩))
            have t1 := decide_eq_false h2
            by_cases h3 : 255 < (dn : Int)
            · exact .inl (.inr (.inr (.inl ⟨t0, t1, decide_eq_true h3⟩)))
            have t2 := decide_eq_false h3
            by_cases h4 : am < 0
            · exact .inl (.inr (.inr (.inr (.inl ⟨t0, t1, t2, decide_eq_true h4⟩))))
            have t3 := decide_eq_false h4
            by_cases h5 : ar < 0
            · exact .inl (.inr (.inr (.inr (.inr (.inl ⟨t0, t1, t2, t3, decide_eq_true h5⟩)))))
            have t4 := decide_eq_false h5
            rcases h6 : ((acn : Int) == 0) with _ | _
            · exact .inr ⟨t0, t1, t2, t3, t4, rfl⟩
            · exact .inl (.inr (.inr (.inr (.inr (.inr ⟨t0, t1, t2, t3, t4, rfl⟩)))))
          rcases hcase with hbad | ⟨t0, t1, t2, t3, t4, t5⟩
          · clear hla hlc hka hkc HPA HPC HGT HLNA HLNC HTT HDD HAA
            rcases hbad with t0 | ⟨t0, t1⟩ | ⟨t0, t1, t2⟩ | ⟨t0, t1, t2, t3⟩ | ⟨t0, t1, t2, t3, t4⟩ | ⟨t0, t1, t2, t3, t4, t5⟩
            all_goals
              go_enter Tryd.func5, Tryd.ntmps5
              go_wp2_with fail
              rw [HW.out]
              clear k0 k1 k2 k3 k4 k5
              refine (HLA.out W (Below.refl _ _)).mono ?_; rintro e w1 ⟨rfl, hb1⟩
              have HC1 := Lib.hid (HC.out.next hb1)
              have B1 := Lib.hid hb1
              have c0 := HC1.out.cell 0 (by simp)
              have c1 := HC1.out.cell 1 (by simp)
              have c2 := HC1.out.cell 2 (by simp)
              have c3 := HC1.out.cell 3 (by simp)
              have c4 := HC1.out.cell 4 (by simp)
              have c5 := HC1.out.cell 5 (by simp)
              simp only [List.getD_cons_zero, List.getD_cons_succ] at c0 c1 c2 c3 c4 c5
              clear hb1
              go_wp2_with fail
              clear c0 c1 c2 c3 c4 c5
              refine (HLC.out w1 B1.out).mono ?_; rintro e w2 ⟨rfl, hb2⟩
              have B2 := Lib.hid (B1.out.trans (hb2.mono B1.out.size))
              have HA2 := Lib.hid (HA.out.next B2.out)
              have k0 := HA2.out.cell 0 (by simp)
              have k1 := HA2.out.cell 1 (by simp)
              have k2 := HA2.out.cell 2 (by simp)
              have k3 := HA2.out.cell 3 (by simp)
              have k4 := HA2.out.cell 4 (by simp)
              have k5 := HA2.out.cell 5 (by simp)
              simp only [List.getD_cons_zero, List.getD_cons_succ] at k0 k1 k2 k3 k4 k5
              clear hb2
              go_wp2_with fail
              clear k0 k1 k2 k3 k4 k5
              refine (HKA.out w2 B2.out).mono ?_; rintro e w3 ⟨rfl, hb3⟩
              have B3 := Lib.hid (B2.out.trans (hb3.mono B2.out.size))
              have HC3 := Lib.hid (HC.out.next B3.out)
              have c0 := HC3.out.cell 0 (by simp)
              have c1 := HC3.out.cell 1 (by simp)
              have c2 := HC3.out.cell 2 (by simp)
              have c3 := HC3.out.cell 3 (by simp)
              have c4 := HC3.out.cell 4 (by simp)
              have c5 := HC3.out.cell 5 (by simp)
              simp only [List.getD_cons_zero, List.getD_cons_succ] at c0 c1 c2 c3 c4 c5
              clear hb3
              go_wp2_with fail
              clear c0 c1 c2 c3 c4 c5
              refine (HKC.out w3 B3.out).mono ?_; rintro e w4 ⟨rfl, hb4⟩
              have B4 := Lib.hid (B3.out.trans (hb4.mono B3.out.size))
              have HA4 := Lib.hid (HA.out.next B4.out)
              have k0 := HA4.out.cell 0 (by simp)
              have k1 := HA4.out.cell 1 (by simp)
              have k2 := HA4.out.cell 2 (by simp)
              have k3 := HA4.out.cell 3 (by simp)
              have k4 := HA4.out.cell 4 (by simp)
              have k5 := HA4.out.cell 5 (by simp)
              simp only [List.getD_cons_zero, List.getD_cons_succ] at k0 k1 k2 k3 k4 k5
              clear hb4
              go_wp2_with fail
              clear k0 k1 k2 k3 k4 k5
              refine (HLV.out w4 B4.out).mono ?_; rintro e w5 ⟨rfl, hb5⟩
              have B5 := Lib.hid (B4.out.trans (hb5.mono B4.out.size))
              clear hb5
              go_wp2_with fail
              go_ret
              exact ⟨rfl, HB.out.trans (B5.out.mono HB.out.size)⟩
          · have hK : 9 ≤ K ∧ K ≤ 255 := by simp only [decide_eq_false_iff_not] at t0 t1; omega
            have hdl : dn ≤ 255 := by simp only [decide_eq_false_iff_not] at t2; omega
            have hm0 : 0 ≤ am := by simp only [decide_eq_false_iff_not] at t3; omega
            have hr0 : 0 ≤ ar := by simp only [decide_eq_false_iff_not] at t4; omega
            have hcn : 0 < acn := by simp only [beq_eq_false_iff_ne, ne_eq] at t5; omega
            have wk := w8 (show 0 ≤ K by omega) hK.2
            have wd := w8 (show (0 : Int) ≤ (dn : Int) by omega) (show (dn : Int) ≤ 255 by omega)
            have la := HLNA.out hka
            have lc := HLNC.out hkc
            have HPA := Lib.hid (HPA.out hka)
            have HPC := Lib.hid (HPC.out hkc)
            have HGT := Lib.hid (HGT.out hka hkc hm0 hr0 hcn hK.1 hdl)
            clear hla hlc hka hkc
            go_enter Tryd.func5, Tryd.ntmps5
            go_wp2_with fail
            rw [HW.out]
            clear k0 k1 k2 k3 k4 k5
            refine (HLA.out W (Below.refl _ _)).mono ?_; rintro e w1 ⟨rfl, hb1⟩
            have HC1 := Lib.hid (HC.out.next hb1)
            have B1 := Lib.hid hb1
            have c0 := HC1.out.cell 0 (by simp)
            have c1 := HC1.out.cell 1 (by simp)
            have c2 := HC1.out.cell 2 (by simp)
            have c3 := HC1.out.cell 3 (by simp)
            have c4 := HC1.out.cell 4 (by simp)
            have c5 := HC1.out.cell 5 (by simp)
            simp only [List.getD_cons_zero, List.getD_cons_succ] at c0 c1 c2 c3 c4 c5
            clear hb1
            go_wp2_with fail
            clear c0 c1 c2 c3 c4 c5
            refine (HLC.out w1 B1.out).mono ?_; rintro e w2 ⟨rfl, hb2⟩
            have B2 := Lib.hid (B1.out.trans (hb2.mono B1.out.size))
            have HA2 := Lib.hid (HA.out.next B2.out)
            have k0 := HA2.out.cell 0 (by simp)
            have k1 := HA2.out.cell 1 (by simp)
            have k2 := HA2.out.cell 2 (by simp)
            have k3 := HA2.out.cell 3 (by simp)
            have k4 := HA2.out.cell 4 (by simp)
            have k5 := HA2.out.cell 5 (by simp)
            simp only [List.getD_cons_zero, List.getD_cons_succ] at k0 k1 k2 k3 k4 k5
            clear hb2
            go_wp2_with fail
            clear k0 k1 k2 k3 k4 k5
            refine (HKA.out w2 B2.out).mono ?_; rintro e w3 ⟨rfl, hb3⟩
            have B3 := Lib.hid (B2.out.trans (hb3.mono B2.out.size))
            have HC3 := Lib.hid (HC.out.next B3.out)
            have c0 := HC3.out.cell 0 (by simp)
            have c1 := HC3.out.cell 1 (by simp)
            have c2 := HC3.out.cell 2 (by simp)
            have c3 := HC3.out.cell 3 (by simp)
            have c4 := HC3.out.cell 4 (by simp)
            have c5 := HC3.out.cell 5 (by simp)
            simp only [List.getD_cons_zero, List.getD_cons_succ] at c0 c1 c2 c3 c4 c5
            clear hb3
            go_wp2_with fail
            clear c0 c1 c2 c3 c4 c5
            refine (HKC.out w3 B3.out).mono ?_; rintro e w4 ⟨rfl, hb4⟩
            have B4 := Lib.hid (B3.out.trans (hb4.mono B3.out.size))
            have HA4 := Lib.hid (HA.out.next B4.out)
            have k0 := HA4.out.cell 0 (by simp)
            have k1 := HA4.out.cell 1 (by simp)
            have k2 := HA4.out.cell 2 (by simp)
            have k3 := HA4.out.cell 3 (by simp)
            have k4 := HA4.out.cell 4 (by simp)
            have k5 := HA4.out.cell 5 (by simp)
            simp only [List.getD_cons_zero, List.getD_cons_succ] at k0 k1 k2 k3 k4 k5
            clear hb4
            go_wp2_with fail
            clear k0 k1 k2 k3 k4 k5 t0 t1 t2 t3 t4 t5
            refine (HPA.out w4 B4.out).mono ?_; rintro e w5 ⟨q, cap, rfl, hO, hb5⟩
            have B5 := Lib.hid (B4.out.trans (hb5.mono B4.out.size))
            obtain ⟨V, hV⟩ : ∃ V, w5.alloc (.cells #[.int .u8 192, .int .u8 K, .int .u8 (dn : Int)] 5) = V := ⟨_, rfl⟩
            have hbV : Below w5.heap.size w5 V := by rw [← hV]; exact new_below _ _
            have HY3 := Lib.hid (show BytesAt V (some ⟨w5.heap.size, 0, none⟩) [192, K, (dn : Int)] from by rw [← hV]; exact (brow_new w5 [192, K, (dn : Int)]).bytes (inByte_all fun y hy => by simp at hy; omega))
            have hO5 := (hO.mono B4.out.size).below hbV
            have BV := Lib.hid (B5.out.trans (hbV.mono B5.out.size))
            have HO5 := Lib.hid hO5
            have HV := Lib.hid hV
            have HB4S := B4.out.size
            clear hO hb5 hV hbV hO5
            go_wp2_with (first
              | (refine wpList_appo (o := ⟨some 71, _, _, _, _, _⟩) (by rfl) (.tmp 64) (.tmp 70) (by rfl) W.heap.size q cap xa (by rw [HV.out]; exact HO5.out) na HNA.out (by rfl) (some ⟨w5.heap.size, 0, none⟩) 3 3 [192, K, (dn : Int)] (by rw [HV.out]; exact HY3.out) (by rfl) (by rfl) (na + 3) (by rfl) (by omega) (by rw [HV.out]; exact BV.out.size) ?_; rw [HV.out]; intro q6 cap6 w6 hO6 hB6 hG6; have B6 := Lib.hid (BV.out.trans hB6.out); have HD6 := Lib.hid (HDD.out _ B6.out); have HO6 := Lib.hid hO6.out; clear hO6 hB6 hG6)
              | (refine wpList_appo (o := ⟨some 73, _, _, _, _, _⟩) (by rfl) (.tmp 71) (.tmp 72) (by rfl) W.heap.size q6 cap6 (xa ++ [192, K, (dn : Int)]) HO6.out (na + 3) (by rw [List.length_append, HNA.out]; rfl) (by rfl) dq dn dc data HD6.out HDN.out (by rfl) (na + 3 + dn) (by rfl) (by omega) B6.out.size ?_; intro q7 cap7 w7 hO7 hB7 hG7; have B7 := Lib.hid (B6.out.trans hB7.out); have HO7 := Lib.hid hO7.out; clear hO7 hB7 hG7; have HC7 := Lib.hid (HC.out.next B7.out); have c0 := HC7.out.cell 0 (by simp); have c1 := HC7.out.cell 1 (by simp); have c2 := HC7.out.cell 2 (by simp); have c3 := HC7.out.cell 3 (by simp); have c4 := HC7.out.cell 4 (by simp); have c5 := HC7.out.cell 5 (by simp); simp only [List.getD_cons_zero, List.getD_cons_succ] at c0 c1 c2 c3 c4 c5))
            clear c0 c1 c2 c3 c4 c5
            refine (HPC.out w7 B7.out).mono ?_; rintro e w8 ⟨qc, capc, rfl, hO8, hb8⟩
            have B8 := Lib.hid (B7.out.trans (hb8.mono B7.out.size))
            have HY8 := Lib.hid hO8.bytes
            have HO8 := Lib.hid (HO7.out.below hb8)
            clear hO8 hb8
            go_wp2_with (refine wpList_appo (o := ⟨some 79, _, _, _, _, _⟩) (by rfl) (.tmp 75) (.tmp 78) (by rfl) W.heap.size q7 cap7 (xa ++ [192, K, (dn : Int)] ++ data) HO8.out (na + 3 + dn) (by rw [List.length_append, List.length_append, HNA.out, HDN.out]; rfl) (by rfl) qc nc capc xc HY8.out HNC.out (by rfl) (na + 3 + dn + nc) (by rfl) (by omega) B8.out.size ?_; intro q9 cap9 w9 hO9 hB9 hG9; have B9 := Lib.hid (B8.out.trans hB9.out); have HO9 := Lib.hid hO9.out.bytes; clear hO9 hB9 hG9)
            refine (HGT.out w9 B9.out q9 (na + 3 + dn + nc) cap9 rfl HO9.out).mono ?_; rintro e w10 ⟨⟨zpp, zpn, zpc, zcp, zcn, zcc⟩, rfl, hA10, hb10⟩
            obtain ⟨X, hX⟩ : ∃ X, w10.alloc (.cells #[.int .i64 ao, .slice zpp zpn zpc, .int .u32 ax, .int .i64 am, .int .i64 ar, .slice zcp zcn zcc] 26) = X := ⟨_, rfl⟩
            have hbX : Below w10.heap.size w10 X := by rw [← hX]; exact new_below _ _
            have hZ : Blk X w10.heap.size 26 [.int .i64 ao, .slice zpp zpn zpc, .int .u32 ax, .int .i64 am, .int .i64 ar, .slice zcp zcn zcc] := by rw [← hX]; exact Blk.new w10 26 [.int .i64 ao, .slice zpp zpn zpc, .int .u32 ax, .int .i64 am, .int .i64 ar, .slice zcp zcn zcc]
            have BX := Lib.hid (B9.out.trans ((hb10.trans (hbX.mono hb10.size)).mono B9.out.size))
            have HZ := Lib.hid hZ
            have HAX := Lib.hid (hA10.below hbX)
            have HX := Lib.hid hX
            clear hA10 hb10 hbX hZ hX
            go_wp2_with fail
            rw [HX.out]
            refine (HLV.out X BX.out).mono ?_; rintro e w11 ⟨rfl, hb11⟩
            have B11 := Lib.hid (BX.out.trans (hb11.mono BX.out.size))
            have HA11 := Lib.hid (HA.out.next B11.out)
            have HZ11 := Lib.hid (HZ.out.next hb11)
            have HSM := Lib.hid (HAA.out w11 B11.out ⟨zpp, zpn, zpc, zcp, zcn, zcc⟩ (HAX.out.below hb11))
            have k0 := HA11.out.cell 0 (by simp)
            have k1 := HA11.out.cell 1 (by simp)
            have k2 := HA11.out.cell 2 (by simp)
            have k3 := HA11.out.cell 3 (by simp)
            have k4 := HA11.out.cell 4 (by simp)
            have k5 := HA11.out.cell 5 (by simp)
            simp only [List.getD_cons_zero, List.getD_cons_succ] at k0 k1 k2 k3 k4 k5
            have z0 := HZ11.out.cell 0 (by simp)
            have z1 := HZ11.out.cell 1 (by simp)
            have z2 := HZ11.out.cell 2 (by simp)
            have z3 := HZ11.out.cell 3 (by simp)
            have z4 := HZ11.out.cell 4 (by simp)
            have z5 := HZ11.out.cell 5 (by simp)
            simp only [List.getD_cons_zero, List.getD_cons_succ] at z0 z1 z2 z3 z4 z5
            clear hb11
            go_wp2_with fail
            clear k0 k1 k2 k3 k4 k5 z0 z1 z2 z3 z4 z5
            refine HSM.out.mono ?_; rintro e w12 ⟨rfl, hb12⟩
            have B12 := Lib.hid (B11.out.trans (hb12.mono B11.out.size))
            clear hb12
            go_wp2_with fail
            go_ret
            exact ⟨rfl, HB.out.trans (B12.out.mono HB.out.size)⟩
    · rw [hlc] at HLC
      clear HPA HPC HGT HLNA HLNC HTT HDD HAA
      go_enter Tryd.func5, Tryd.ntmps5
      go_wp2_with fail
      rw [HW.out]
      clear k0 k1 k2 k3 k4 k5
      refine (HLA.out W (Below.refl _ _)).mono ?_; rintro e w1 ⟨rfl, hb⟩
      have B1 := Lib.hid (hb)
      have HX1 := Lib.hid (HC.out.next B1.out)
      have c0 := HX1.out.cell 0 (by simp)
      have c1 := HX1.out.cell 1 (by simp)
      have c2 := HX1.out.cell 2 (by simp)
      have c3 := HX1.out.cell 3 (by simp)
      have c4 := HX1.out.cell 4 (by simp)
      have c5 := HX1.out.cell 5 (by simp)
      simp only [List.getD_cons_zero, List.getD_cons_succ] at c0 c1 c2 c3 c4 c5
      clear hb
      go_wp2_with fail
      clear c0 c1 c2 c3 c4 c5
      refine (HLC.out w1 B1.out).mono ?_; rintro e w2 ⟨rfl, hb⟩
      have B2 := Lib.hid (B1.out.trans (hb.mono B1.out.size))
      clear hb
      go_wp2_with fail
      refine (HLV.out w2 B2.out).mono ?_; rintro e wz ⟨rfl, hb⟩
      have BZ := Lib.hid (B2.out.trans (hb.mono B2.out.size))
      clear hb
      go_wp2_with fail
      go_ret
      exact ⟨rfl, HB.out.trans (BZ.out.mono HB.out.size)⟩
  · rw [hla] at HLA
    clear HPA HPC HGT HLNA HLNC HTT HDD HAA
    go_enter Tryd.func5, Tryd.ntmps5
    go_wp2_with fail
    rw [HW.out]
    clear k0 k1 k2 k3 k4 k5
    refine (HLA.out W (Below.refl _ _)).mono ?_; rintro e w1 ⟨rfl, hb⟩
    have B1 := Lib.hid (hb)
    clear hb
    go_wp2_with fail
    refine (HLV.out w1 B1.out).mono ?_; rintro e wz ⟨rfl, hb⟩
    have BZ := Lib.hid (B1.out.trans (hb.mono B1.out.size))
    clear hb
    go_wp2_with fail
    go_ret
    exact ⟨rfl, HB.out.trans (BZ.out.mono HB.out.size)⟩
end Go.Proofs.YtcabiodgmhcdlaaDoor
