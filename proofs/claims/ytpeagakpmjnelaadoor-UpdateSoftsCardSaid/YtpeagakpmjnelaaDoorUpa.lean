/- update: a body that is made by hand is got; UpdateSofts's walk. -/
import Derived.Test.YtpeagakpmjnelaaDoorUqH
import Derived.Test.YtpeagakpmjnelaaDoorUpG
import Derived.Test.YtpeagakpmjnelaaDoorUpb
import Derived.Test.YtpeagakpmjnelaaDoorBe
namespace Go.Proofs.YtpeagakpmjnelaaDoor.Ax
open Go.RowKit
set_option maxRecDepth 100000
set_option linter.unusedVariables false
set_option linter.unusedSimpArgs false

theorem getU_made (l m : List Nl) (xs : List Int) (four paths : Bool) (hl : ∀ i, i < l.length → InAddr (l.getD i Nl.none)) (hm : ∀ i, i < m.length → InAddr (m.getD i Nl.none)) (h1 : okNls l paths = true) (h2 : okNls m paths = true) (hx : xs.length ≤ 9900) (hg : (nlsL paths l).length ≤ 9900) :
    getU (cntL (nlsL paths l) ++ (cntL xs ++ nlsL paths m)) four paths = (toldU l m (getA xs four), 0, 0) := by
  have e1 := cnt_num (nlsL paths l) (cntL xs ++ nlsL paths m) hg
  have e2 := cnt_next (nlsL paths l) (cntL xs ++ nlsL paths m) hg
  have e3 := cnt_num xs (nlsL paths m) hx
  have e4 := cnt_next xs (nlsL paths m) hx
  obtain ⟨B, hB⟩ : ∃ B, cntL (nlsL paths l) ++ (cntL xs ++ nlsL paths m) = B := ⟨_, rfl⟩
  rw [hB] at e1 e2 ⊢
  have r1 : s1U B = some (nlsL paths l ++ (cntL xs ++ nlsL paths m)) := e2
  have r2 : goneB B = nlsL paths l := by
    unfold goneB
    rw [r1, e1, out_app]
  have r3 : s2U B = some (cntL xs ++ nlsL paths m) := by
    unfold s2U
    rw [r1, e1, next_app]
  have r4 : s3U B = some (xs ++ nlsL paths m) := by
    unfold s3U
    rw [r3, e4]
  have r5 : saidB B = xs := by
    unfold saidB
    rw [r4, r3, e3, out_app]
  have r6 : s4U B = some (nlsL paths m) := by
    unfold s4U
    rw [r4, r3, e3, next_app]
  unfold getU
  rw [r6]
  simp only
  rw [r2, r5, getNls_put paths l hl h1, getNls_put paths m hm h2]

theorem nls_in {w : World} {p : Option Addr} {l : List Nl} (h : NlsAt w p l) : ∀ i, i < l.length → InAddr (l.getD i Nl.none) := h.1

theorem at_boxes {w : World} {P : Nat} {t : TypeId} {a b c d e f : Value} (h1 : Blk w P t [a, b, c, d, e, f]) :
    w.cell? ⟨P, 0, none⟩ = some a ∧ w.cell? ⟨P, 1, none⟩ = some b ∧ w.cell? ⟨P, 2, none⟩ = some c ∧ w.cell? ⟨P, 3, none⟩ = some d ∧ w.cell? ⟨P, 4, none⟩ = some e ∧ w.cell? ⟨P, 5, none⟩ = some f :=
  ⟨h1.cell 0 (by simp), h1.cell 1 (by simp), h1.cell 2 (by simp), h1.cell 3 (by simp), h1.cell 4 (by simp), h1.cell 5 (by simp)⟩
set_option maxHeartbeats 16000000 in
theorem softs_any (p q s : Option Addr) (l m : List Nl) (xs : List Int) (n c k d a ac : Nat) (four paths : Bool) (w : World) (ht : Tab w) (hl : NlsAt w p l) (hm : NlsAt w q m) (hx : BytesAt w s xs) (hn : l.length = n) (hk : m.length = k) (ha : xs.length = a) (hnm : n ≤ maxLen) (hkm : k ≤ maxLen) (ham : a ≤ maxLen) :
    Calls Tryd.prog 4 #[.slice p n c, .slice q k d, .slice s a ac, .bool four, .bool paths] w fun e w' => e = .returned (.bool true) ∧ Below w.heap.size w w' := by
  have HLV := Lib.hid (fun (U : World) (hU : Below w.heap.size w U) => lives_any U (ht.below hU))
  have HCL := Lib.hid (rcheckNl_any p l n c paths w hl hn hnm)
  have HCM := Lib.hid (fun u (h : Below w.heap.size w u) => rcheckNl_any q m k d paths u (hm.below h) hk hkm)
  have HPL := Lib.hid (fun u (h : Below w.heap.size w u) hok => rputNl_any p l n c paths u (hl.below h) hn hok)
  have HPM := Lib.hid (fun u (h : Below w.heap.size w u) hok => rputNl_any q m k d paths u (hm.below h) hk hok)
  have HGA := Lib.hid (fun u (h : Below w.heap.size w u) hle => rgetA_any four s xs a ac u (hx.below h) ha hle)
  have HGM := Lib.hid (fun h1 h2 hx hg => getU_made l m xs four paths (nls_in hl) (nls_in hm) h1 h2 hx hg)
  have HTB := Lib.hid (fun (U : World) (hU : Below w.heap.size w U) => ht.below hU)
  have HLA := Lib.hid (fun (U : World) (hU : Below w.heap.size w U) => hl.below hU)
  have HMA := Lib.hid (fun (U : World) (hU : Below w.heap.size w U) => hm.below hU)
  have HXA := Lib.hid (fun (U : World) (hU : Below w.heap.size w U) => hx.below hU)
  have HNN := Lib.hid hn
  have HKK := Lib.hid hk
  have HAA := Lib.hid ha
  have HGL := Lib.hid (nlsL_le paths l)
  have HML := Lib.hid (nlsL_le paths m)
  obtain ⟨o1, ho1⟩ : ∃ b, okNls l paths = b := ⟨_, rfl⟩
  obtain ⟨o2, ho2⟩ : ∃ b, okNls m paths = b := ⟨_, rfl⟩
  have HY1 := Lib.hid (fun h : o1 = true => (okNls_yes (ho1.trans h)).1)
  have HY2 := Lib.hid (fun h : o2 = true => (okNls_yes (ho2.trans h)).1)
  have HO1 := Lib.hid ho1
  have HO2 := Lib.hid ho2
  rw [ho1] at HCL
  simp only [ho2] at HCM
  clear ht hl hm hx hn hk ha ho1 ho2 hnm hkm
  go_enter Tryd.func4, Tryd.ntmps4
  go_wp2_with fail
  refine HCL.out.mono ?_
  rintro e w1 ⟨rfl, hb⟩
  have HB1 := Lib.hid hb
  clear hb HCL
  rcases o1 with _ | _
  · go_wp2_with fail
    refine (HLV.out w1 HB1.out).mono ?_
    rintro e w2 ⟨rfl, hb⟩
    have HB2 := Lib.hid (HB1.out.trans (hb.mono HB1.out.size))
    clear hb
    go_wp2_with fail
    go_ret
    exact ⟨rfl, HB2.out⟩
  go_wp2_with fail
  refine (HCM.out w1 HB1.out).mono ?_
  rintro e w2 ⟨rfl, hb⟩
  have HB2 := Lib.hid (HB1.out.trans (hb.mono HB1.out.size))
  clear hb HCM
  rcases o2 with _ | _
  · go_wp2_with fail
    refine (HLV.out w2 HB2.out).mono ?_
    rintro e w3 ⟨rfl, hb⟩
    have HB3 := Lib.hid (HB2.out.trans (hb.mono HB2.out.size))
    clear hb
    go_wp2_with fail
    go_ret
    exact ⟨rfl, HB3.out⟩
  by_cases ha2 : 2000 < a
  · have t1 : decide ((2000 : Int) < (a : Int)) = true := by simp; omega
    go_wp2_with fail
    refine (HLV.out w2 HB2.out).mono ?_
    rintro e w3 ⟨rfl, hb⟩
    have HB3 := Lib.hid (HB2.out.trans (hb.mono HB2.out.size))
    clear hb
    go_wp2_with fail
    go_ret
    exact ⟨rfl, HB3.out⟩
  have t1 : decide ((2000 : Int) < (a : Int)) = false := by simp; omega
  by_cases hk0 : k = 0
  · subst hk0
    go_wp2_with fail
    refine (HLV.out w2 HB2.out).mono ?_
    rintro e w3 ⟨rfl, hb⟩
    have HB3 := Lib.hid (HB2.out.trans (hb.mono HB2.out.size))
    clear hb
    go_wp2_with fail
    go_ret
    exact ⟨rfl, HB3.out⟩
  have t2 : ((k : Int) == 0) = false := by simp; omega
  have HN24 := Lib.hid (HNN.out ▸ HY1.out (by trivial))
  have HK24 := Lib.hid (HKK.out ▸ HY2.out (by trivial))
  have HKP := Lib.hid hk0
  have HA2 := Lib.hid (show a ≤ 2000 by omega)
  obtain ⟨gs, hgs⟩ : ∃ x, nlsL paths l = x := ⟨_, rfl⟩
  obtain ⟨ms, hms⟩ : ∃ x, nlsL paths m = x := ⟨_, rfl⟩
  obtain ⟨u0, hu0⟩ : ∃ x, toldU l m (getA xs four) = x := ⟨_, rfl⟩
  rw [hgs] at HPL HGL HGM
  rw [hms] at HPM HML HGM
  rw [hu0] at HGM
  rw [HNN.out] at HGL
  rw [HKK.out] at HML
  have hgl : gs.length ≤ 9900 := by have := HGL.out; have := HN24.out; omega
  have hml : ms.length ≤ 9900 := by have := HML.out; have := HK24.out; omega
  have HGU := Lib.hid (HGM.out HO1.out HO2.out (by rw [HAA.out]; omega) hgl)
  obtain ⟨gn, hgn⟩ : ∃ x, gs.length = x := ⟨_, rfl⟩
  obtain ⟨mn, hmn⟩ : ∃ x, ms.length = x := ⟨_, rfl⟩
  rw [hgn] at HPL hgl
  rw [hmn] at HPM hml
  have HGN := Lib.hid hgn
  have HMN := Lib.hid hmn
  have HUE := Lib.hid hu0
  have HPL' := Lib.hid (HPL.out w2 HB2.out HO1.out)
  clear hgs hms hgn hmn hu0 HPL HGM HGL HML HY1 HY2 hk0 ha2
  go_wp2_with fail
  refine HPL'.out.mono ?_
  rintro e w3 ⟨q3, c3, rfl, hO, hb⟩
  have HB3 := Lib.hid (HB2.out.trans (hb.mono HB2.out.size))
  have HO3 := Lib.hid hO.bytes
  have HPM' := Lib.hid (HPM.out w3 HB3.out HO2.out)
  clear hO hb HPL' HPM
  go_wp2_with fail
  refine HPM'.out.mono ?_
  rintro e w4 ⟨q4, c4, rfl, hO, hb⟩
  have HB4 := Lib.hid (HB3.out.trans (hb.mono HB3.out.size))
  have HO4 := Lib.hid (HO3.out.below hb)
  have HP4 := Lib.hid hO.bytes
  have HX4 := Lib.hid (HXA.out w4 HB4.out)
  clear hO hb HPM' HO3
  have d1 : Int.tdiv (gn : Int) 256 = ((gn / 256 : Nat) : Int) := by rw [Int.tdiv_eq_ediv_of_nonneg (by omega)]; rfl
  have d2 : IntKind.i64.wrap ((gn / 256 : Nat) : Int) = ((gn / 256 : Nat) : Int) := by rw [IntKind.wrap_i64]; omega
  obtain ⟨mh, hmh⟩ : ∃ x, gn / 256 = x := ⟨_, rfl⟩
  have hmh1 : mh ≤ 38 := by omega
  have HMH := Lib.hid hmh
  rw [hmh] at d1 d2
  have d3 : IntKind.u8.wrap (mh : Int) = (mh : Int) := by simp [IntKind.wrap, IntKind.bits, IntKind.signed]; omega
  obtain ⟨ml, hml2⟩ : ∃ x, gn % 256 = x := ⟨_, rfl⟩
  have HMLO := Lib.hid hml2
  have d4 : IntKind.u8.wrap (gn : Int) = (ml : Int) := by simp [IntKind.wrap, IntKind.bits, IntKind.signed]; omega
  clear hmh hml2
  have ha2 := HA2.out
  have p1 : Int.tdiv (a : Int) 256 = ((a / 256 : Nat) : Int) := by rw [Int.tdiv_eq_ediv_of_nonneg (by omega)]; rfl
  have p2 : IntKind.i64.wrap ((a / 256 : Nat) : Int) = ((a / 256 : Nat) : Int) := by rw [IntKind.wrap_i64]; omega
  obtain ⟨ah, hah⟩ : ∃ x, a / 256 = x := ⟨_, rfl⟩
  have hah1 : ah ≤ 38 := by omega
  have HAH := Lib.hid hah
  rw [hah] at p1 p2
  have p3 : IntKind.u8.wrap (ah : Int) = (ah : Int) := by simp [IntKind.wrap, IntKind.bits, IntKind.signed]; omega
  obtain ⟨al, hal⟩ : ∃ x, a % 256 = x := ⟨_, rfl⟩
  have HAL := Lib.hid hal
  have p4 : IntKind.u8.wrap (a : Int) = (al : Int) := by simp [IntKind.wrap, IntKind.bits, IntKind.signed]; omega
  clear hah hal
  have HO0 := Lib.hid (Own.lit w4 w4.heap.size [(mh : Int), (ml : Int)] (in2 (by omega) (by have := HMLO.out; omega)) (by simp) (Nat.le_refl _))
  have HA4 := Lib.hid (newB w4 (.cells #[.int .u8 (mh : Int), .int .u8 (ml : Int)] 5))
  have HGA4 := Lib.hid (HO4.out.alloc (.cells #[.int .u8 (mh : Int), .int .u8 (ml : Int)] 5))
  have HIN := Lib.hid (show InByte [(ah : Int), (al : Int)] from in2 (by omega) (by have := HAL.out; omega))
  go_wp2_with (first
      | (refine wpList_appo (o := ⟨some 54, _, _, _, _, _⟩) (by rfl) (.tmp 52) (.tmp 53) (by rfl) w4.heap.size _ 2 [(mh : Int), (ml : Int)] HO0.out 2 (by rfl) (by rfl) q3 gn c3 _ HGA4.out HGN.out (by rfl) (2 + gn) (by rfl) (by omega) HA4.out.size ?_; intro q5 c5 w5 hO5 hB5 hG5; have H5 := Lib.hid (HA4.out.trans hB5.out))
      | (refine wpList_appo (o := ⟨some 64, _, _, _, _, _⟩) (by rfl) (.tmp 55) (.tmp 63) (by rfl) w4.heap.size q5 c5 _ (hO5.out.alloc _) (2 + gn) (by have := HGN.out; simp; omega) (by rfl) _ 2 2 [(ah : Int), (al : Int)] ((brow_new w5 [(ah : Int), (al : Int)]).bytes HIN.out) (by rfl) (by rfl) (2 + gn + 2) (by rfl) (by omega) (H5.out.alloc H5.out.size _).size ?_; intro q6 c6 w6 hO6 hB6 hG6; have H6 := Lib.hid ((H5.out.alloc H5.out.size _).trans hB6.out); have HX6 := Lib.hid (HXA.out w6 (HB4.out.trans (H6.out.mono HB4.out.size))))
      | (refine wpList_appo (o := ⟨some 66, _, _, _, _, _⟩) (by rfl) (.tmp 64) (.tmp 65) (by rfl) w4.heap.size q6 c6 _ hO6.out (2 + gn + 2) (by have := HGN.out; simp; omega) (by rfl) s a ac xs HX6.out HAA.out (by rfl) (2 + gn + 2 + a) (by rfl) (by omega) H6.out.size ?_; intro q7 c7 w7 hO7 hB7 hG7; have H7 := Lib.hid (H6.out.trans hB7.out); have HP7 := Lib.hid (HP4.out.below H7.out))
      | (refine wpList_appo (o := ⟨some 70, _, _, _, _, _⟩) (by rfl) (.tmp 68) (.tmp 69) (by rfl) w4.heap.size q7 c7 _ hO7.out (2 + gn + 2 + a) (by have := HGN.out; have := HAA.out; simp; omega) (by rfl) q4 mn c4 ms HP7.out HMN.out (by rfl) (2 + gn + 2 + a + mn) (by rfl) (by omega) H7.out.size ?_; intro q8 c8 w8 hO8 hB8 hG8; have H8 := Lib.hid (H7.out.trans hB8.out)))
  have HBD := Lib.hid (show cntL gs ++ (cntL xs ++ ms) = [(mh : Int), (ml : Int)] ++ gs ++ [(ah : Int), (al : Int)] ++ xs ++ ms by
    have e1 := cnt2 gs gn HGN.out hgl
    have e2 := cnt2 xs a HAA.out (by omega)
    rw [HMH.out, HMLO.out] at e1
    rw [HAH.out, HAL.out] at e2
    rw [e1, e2]
    simp)
  have HB8 := Lib.hid (HB4.out.trans (H8.out.mono HB4.out.size))
  have hlen : ([(mh : Int), (ml : Int)] ++ gs ++ [(ah : Int), (al : Int)] ++ xs ++ ms).length = 2 + gn + 2 + a + mn := by
    have h1 := HGN.out
    have h2 := HAA.out
    have h3 := HMN.out
    simp only [List.length_append, List.length_cons, List.length_nil]
    omega
  have hget := getU_any q8 _ (2 + gn + 2 + a + mn) c8 four paths w8 (HTB.out w8 HB8.out) hO8.out.bytes hlen (by omega)
  rw [← HBD.out, HGU.out] at hget
  have HGET := Lib.hid hget
  clear hget hlen hO5 hB5 hG5 hO6 hB6 hG6 hO7 hB7 hG7 hO8 hB8 hG8 H5 H6 H7 HX6 HP7 HA4 HO0 HGA4
  refine HGET.out.mono ?_
  rintro e w9 ⟨⟨gp2, gn2, gc2, rp2, rn2, rc2, ⟨pp2, pn2, pc2, cp2, cn2, cc2⟩⟩, rfl, ho, hb⟩
  have HU9 := Lib.hid ho
  have HB9 := Lib.hid (HB8.out.trans (hb.mono HB8.out.size))
  clear ho hb HGET
  obtain ⟨⟨ra, rv⟩, hr⟩ : ∃ r, getA xs four = r := ⟨_, rfl⟩
  simp only [hr] at HGA HUE
  obtain ⟨ug, uc, ⟨uo, up, ux, um, uf, uk⟩, us⟩ := u0
  have heq : updL ((⟨ug, uc, ⟨uo, up, ux, um, uf, uk⟩, us⟩ : Upd), (0 : Int), (0 : Int)).fst ⟨gp2, gn2, gc2, rp2, rn2, rc2, ⟨pp2, pn2, pc2, cp2, cn2, cc2⟩⟩ = [.slice gp2 gn2 gc2, .slice rp2 rn2 rc2, .int .i64 uo, .slice pp2 pn2 pc2, .int .u32 ux, .int .i64 um, .int .i64 uf, .slice cp2 cn2 cc2, .bool us] := rfl
  rw [heq]
  clear heq hr
  obtain ⟨W, hW⟩ : ∃ W, (w9.alloc (.cells #[.slice gp2 gn2 gc2, .slice rp2 rn2 rc2, .int .i64 uo, .slice pp2 pn2 pc2, .int .u32 ux, .int .i64 um, .int .i64 uf, .slice cp2 cn2 cc2, .bool us] 29)).alloc (.cells #[.int .i64 0, .int .i64 0, .slice none 0 0] 41) = W := ⟨_, rfl⟩
  have hb6 : Below w9.heap.size w9 W := by rw [← hW]; exact two_below _ _ _
  have HV6 := Lib.hid (show Blk W w9.heap.size 29 [.slice gp2 gn2 gc2, .slice rp2 rn2 rc2, .int .i64 uo, .slice pp2 pn2 pc2, .int .u32 ux, .int .i64 um, .int .i64 uf, .slice cp2 cn2 cc2, .bool us] by rw [← hW]; exact (Blk.new w9 29 [.slice gp2 gn2 gc2, .slice rp2 rn2 rc2, .int .i64 uo, .slice pp2 pn2 pc2, .int .u32 ux, .int .i64 um, .int .i64 uf, .slice cp2 cn2 cc2, .bool us]).alloc _)
  have HN6 := Lib.hid (show Blk W (w9.heap.size + 1) 41 [.int .i64 0, .int .i64 0, .slice none 0 0] by rw [← hW, ← sz_alloc w9 (.cells #[.slice gp2 gn2 gc2, .slice rp2 rn2 rc2, .int .i64 uo, .slice pp2 pn2 pc2, .int .u32 ux, .int .i64 um, .int .i64 uf, .slice cp2 cn2 cc2, .bool us] 29)]; exact Blk.new _ 41 [.int .i64 0, .int .i64 0, .slice none 0 0])
  have HB10 := Lib.hid (HB9.out.trans (hb6.mono HB9.out.size))
  have HU10 := Lib.hid (HU9.out.below hb6)
  have HWE := Lib.hid hW
  clear hW hb6 HU9
  go_wp2_with fail
  rw [HWE.out]
  refine (HGA.out W HB10.out (by omega)).mono ?_
  rintro e w11 ⟨⟨pp5, pn5, pc5, cp5, cn5, cc5⟩, rfl, hat, hb⟩
  have HB11 := Lib.hid (HB10.out.trans (hb.mono HB10.out.size))
  have HV11 := Lib.hid (HV6.out.next hb)
  have HN11 := Lib.hid (HN6.out.next hb)
  have HU11 := Lib.hid (HU10.out.below hb)
  have HAT := Lib.hid hat
  clear hat hb HV6 HN6 HU10 HGA HWE
  obtain ⟨ro, rp, rx, rm, rf, rk⟩ := ra
  simp only [atL] at *
  obtain ⟨X, hX⟩ : ∃ X, w11.alloc (.cells #[.int .i64 ro, .slice pp5 pn5 pc5, .int .u32 rx, .int .i64 rm, .int .i64 rf, .slice cp5 cn5 cc5] 27) = X := ⟨_, rfl⟩
  have hbx : Below w11.heap.size w11 X := hX ▸ newB _ _
  have HBX := Lib.hid (HB11.out.trans (hbx.mono HB11.out.size))
  have HVX := Lib.hid (HV11.out.next hbx)
  have HNX := Lib.hid (HN11.out.next hbx)
  have HUX := Lib.hid (HU11.out.below hbx)
  have HATX := Lib.hid (HAT.out.below hbx)
  have HAX := Lib.hid (show Blk X w11.heap.size 27 [.int .i64 ro, .slice pp5 pn5 pc5, .int .u32 rx, .int .i64 rm, .int .i64 rf, .slice cp5 cn5 cc5] from hX ▸ Blk.new w11 27 [.int .i64 ro, .slice pp5 pn5 pc5, .int .u32 rx, .int .i64 rm, .int .i64 rf, .slice cp5 cn5 cc5])
  have HXE := Lib.hid hX
  clear hX hbx HV11 HN11 HU11 HAT
  go_wp2_with fail
  rw [HXE.out]
  refine (HLV.out X HBX.out).mono ?_
  rintro e w12 ⟨rfl, hb⟩
  have HB12 := Lib.hid (HBX.out.trans (hb.mono HBX.out.size))
  have HV12 := Lib.hid (HVX.out.next hb)
  have HN12 := Lib.hid (HNX.out.next hb)
  have HU12 := Lib.hid (HUX.out.below hb)
  have HAT12 := Lib.hid (HATX.out.below hb)
  have HA12 := Lib.hid (HAX.out.next hb)
  clear hb HVX HNX HUX HATX HAX HXE
  have hml0 : ¬ m.length = 0 := by rw [HKK.out]; exact HKP.out
  have n0 := HN12.out.cell 0 (by simp)
  obtain ⟨c0, c1, c2, c3, c4, c5, c6, c7, c8⟩ := upd_boxes HV12.out
  obtain ⟨b0, b1, b2, b3, b4, b5⟩ := at_boxes HA12.out
  by_cases hv : rv = 1
  · subst hv
    have hu : toldU l m (⟨ro, rp, rx, rm, rf, rk⟩, 1) = ⟨l, m, ⟨ro, rp, rx, rm, rf, rk⟩, false⟩ := by
      unfold toldU
      rw [if_neg hml0, if_pos rfl]
    rw [hu] at HUE
    have he := HUE.out
    simp only [Upd.intro.injEq, At.mk.injEq] at he
    obtain ⟨rfl, rfl, ⟨rfl, rfl, rfl, rfl, rfl, rfl⟩, rfl⟩ := he
    obtain rfl : n = gn2 := HNN.out.symm.trans HU12.out.up.gn
    obtain rfl : k = rn2 := HKK.out.symm.trans HU12.out.up.rn
    clear hu
    have HS1 := Lib.hid (rsameNl_yes gp2 p l n gc2 c w12 HU12.out.up.gone (HLA.out _ HB12.out) HNN.out (Nat.le_trans HU12.out.up.gc HU12.out.up.gm))
    go_wp2_with fail
    refine HS1.out.mono ?_
    rintro e w13 ⟨rfl, hb⟩
    have HB13 := Lib.hid (HB12.out.trans (hb.mono HB12.out.size))
    have HV13 := Lib.hid (HV12.out.next hb)
    have HU13 := Lib.hid (HU12.out.below hb)
    have HAT13 := Lib.hid (HAT12.out.below hb)
    have HA13 := Lib.hid (HA12.out.next hb)
    clear hb HS1 HV12 HN12 HU12 HAT12 HA12 c0 c1 c2 c3 c4 c5 c6 c7 c8 b0 b1 b2 b3 b4 b5 n0
    have HS2 := Lib.hid (rsameNl_yes rp2 q m k rc2 d w13 HU13.out.up.come (HMA.out _ HB13.out) HKK.out (Nat.le_trans HU13.out.up.rc HU13.out.up.rm))
    obtain ⟨c0, c1, c2, c3, c4, c5, c6, c7, c8⟩ := upd_boxes HV13.out
    obtain ⟨b0, b1, b2, b3, b4, b5⟩ := at_boxes HA13.out
    go_wp2_with fail
    refine HS2.out.mono ?_
    rintro e w14 ⟨rfl, hb⟩
    have HB14 := Lib.hid (HB13.out.trans (hb.mono HB13.out.size))
    have HV14 := Lib.hid (HV13.out.next hb)
    have HU14 := Lib.hid (HU13.out.below hb)
    have HAT14 := Lib.hid (HAT13.out.below hb)
    have HA14 := Lib.hid (HA13.out.next hb)
    clear hb HS2 HV13 HU13 HAT13 HA13 c0 c1 c2 c3 c4 c5 c6 c7 c8 b0 b1 b2 b3 b4 b5
    obtain ⟨c0, c1, c2, c3, c4, c5, c6, c7, c8⟩ := upd_boxes HV14.out
    obtain ⟨b0, b1, b2, b3, b4, b5⟩ := at_boxes HA14.out
    have HS3 := Lib.hid (show Calls Tryd.prog 19 #[.agg #[.int .i64 ro, .slice pp2 pn2 pc2, .int .u32 rx, .int .i64 rm, .int .i64 rf, .slice cp2 cn2 cc2], .agg #[.int .i64 ro, .slice pp5 pn5 pc5, .int .u32 rx, .int .i64 rm, .int .i64 rf, .slice cp5 cn5 cc5]] w14 _ from rsame_yes ⟨ro, rp, rx, rm, rf, rk⟩ ⟨pp2, pn2, pc2, cp2, cn2, cc2⟩ ⟨pp5, pn5, pc5, cp5, cn5, cc5⟩ w14 HU14.out.up.at_ HAT14.out)
    go_wp2_with fail
    refine HS3.out.mono ?_
    rintro e w15 ⟨rfl, hb⟩
    have HB15 := Lib.hid (HB14.out.trans (hb.mono HB14.out.size))
    clear hb HS3 c0 c1 c2 c3 c4 c5 c6 c7 c8 b0 b1 b2 b3 b4 b5
    go_wp2_with fail
    go_ret
    exact ⟨rfl, HB15.out⟩
  · have hu : toldU l m (⟨ro, rp, rx, rm, rf, rk⟩, rv) = ⟨l ++ m, [], At.zero, true⟩ := by
      unfold toldU
      rw [if_neg hml0, if_neg hv]
    rw [hu] at HUE
    have he := HUE.out
    simp only [Upd.intro.injEq, At.zero, At.mk.injEq] at he
    obtain ⟨rfl, rfl, ⟨rfl, rfl, rfl, rfl, rfl, rfl⟩, rfl⟩ := he
    obtain rfl : 0 = rn2 := HU12.out.up.rn
    have hgn2 : (l ++ m).length = gn2 := HU12.out.up.gn
    rw [List.length_append, HNN.out, HKK.out] at hgn2
    subst hgn2
    have hv' : (rv == 1) = false := by simpa using hv
    clear hu
    have HS1 := Lib.hid (show Calls Tryd.prog 19 #[.agg #[.int .i64 0, .slice pp2 pn2 pc2, .int .u32 0, .int .i64 0, .int .i64 0, .slice cp2 cn2 cc2], .agg #[.int .i64 0, .slice none 0 0, .int .u32 0, .int .i64 0, .int .i64 0, .slice none 0 0]] w12 (fun e w' => e = .returned (.bool true) ∧ Below w12.heap.size w12 w') from rsameA_zero At.zero ⟨pp2, pn2, pc2, cp2, cn2, cc2⟩ w12 HU12.out.up.at_)
    have HALL := Lib.hid (fun W (h : Below w12.heap.size w12 W) => show W.cell? ⟨w9.heap.size, 0, none⟩ = some (.slice gp2 (n + k) gc2) ∧ W.cell? ⟨w9.heap.size, 1, none⟩ = some (.slice rp2 0 rc2) ∧ W.cell? ⟨w9.heap.size, 2, none⟩ = some (.int .i64 0) ∧ W.cell? ⟨w9.heap.size, 3, none⟩ = some (.slice pp2 pn2 pc2) ∧ W.cell? ⟨w9.heap.size, 4, none⟩ = some (.int .u32 0) ∧ W.cell? ⟨w9.heap.size, 5, none⟩ = some (.int .i64 0) ∧ W.cell? ⟨w9.heap.size, 6, none⟩ = some (.int .i64 0) ∧ W.cell? ⟨w9.heap.size, 7, none⟩ = some (.slice cp2 cn2 cc2) ∧ W.cell? ⟨w9.heap.size, 8, none⟩ = some (.bool true) from by
      obtain ⟨a0, a1, a2, a3, a4, a5, a6, a7, a8⟩ := upd_boxes (HV12.out.next h)
      exact ⟨a0, a1, a2, a3, a4, a5, a6, a7, a8⟩)
    have HS1 := Lib.hid (fun (W : World) (h : Below w12.heap.size w12 W) => show Calls Tryd.prog 19 #[.agg #[.int .i64 0, .slice pp2 pn2 pc2, .int .u32 0, .int .i64 0, .int .i64 0, .slice cp2 cn2 cc2], .agg #[.int .i64 0, .slice none 0 0, .int .u32 0, .int .i64 0, .int .i64 0, .slice none 0 0]] W (fun e w' => e = .returned (.bool true) ∧ Below W.heap.size W w') from rsameA_zero At.zero ⟨pp2, pn2, pc2, cp2, cn2, cc2⟩ W (HU12.out.below h).up.at_)
    have HSN := Lib.hid (fun (W : World) (h : Below w12.heap.size w12 W) (z : Option Addr) (cz : Nat) (hz : NlsAt W z (l ++ m)) => rsameNl_yes gp2 z (l ++ m) (n + k) gc2 cz W (HU12.out.below h).up.gone hz (by rw [List.length_append, HNN.out, HKK.out]) (Nat.le_trans HU12.out.up.gc HU12.out.up.gm))
    have HLB := Lib.hid (fun (W : World) (h : Below w12.heap.size w12 W) => HLA.out W (HB12.out.trans (h.mono HB12.out.size)))
    have HMB := Lib.hid (fun (W : World) (h : Below w12.heap.size w12 W) => HMA.out W (HB12.out.trans (h.mono HB12.out.size)))
    have BB : Hid (Below w12.heap.size w12 w12.drew) := Lib.hid (Below.refl _ _).drew
    have hS := HALL.out _ BB.out
    have hn24 := HN24.out
    have hk24 := HK24.out
    clear hv
    go_wp2_with fail
    clear c0 c1 c2 c3 c4 c5 c6 c7 c8 b0 b1 b2 b3 b4 b5 n0
    go_region_held_law (fun W => W.cell? ⟨w9.heap.size, 0, none⟩ = some (.slice gp2 (n + k) gc2) ∧ W.cell? ⟨w9.heap.size, 1, none⟩ = some (.slice rp2 0 rc2) ∧ W.cell? ⟨w9.heap.size, 2, none⟩ = some (.int .i64 0) ∧ W.cell? ⟨w9.heap.size, 3, none⟩ = some (.slice pp2 pn2 pc2) ∧ W.cell? ⟨w9.heap.size, 4, none⟩ = some (.int .u32 0) ∧ W.cell? ⟨w9.heap.size, 5, none⟩ = some (.int .i64 0) ∧ W.cell? ⟨w9.heap.size, 6, none⟩ = some (.int .i64 0) ∧ W.cell? ⟨w9.heap.size, 7, none⟩ = some (.slice cp2 cn2 cc2) ∧ W.cell? ⟨w9.heap.size, 8, none⟩ = some (.bool true)) (with_reducible assumption) (first
      | (go_at_call 19; (with_reducible refine (HS1.out _ BB.out).mono ?_); rintro e v ⟨rfl, hb⟩; have BB := Lib.hid (BB.out.trans (hb.mono BB.out.size)); have hSv := HALL.out _ BB.out; have OL := Lib.hid (NlsOwn.lit0 v w12.heap.size BB.out.size); have BB := Lib.hid (BB.out.alloc BB.out.size (.cells #[] 56)); have hS := HALL.out _ BB.out; have LA := Lib.hid (HLB.out _ BB.out); clear hb)
      | (refine step_appnsW (o := ⟨some 137, _, _, _, _, _⟩) ?hw (.tmp 135) (.tmp 136) rfl w12.heap.size (some ⟨v.heap.size, 0, none⟩) 0 0 [] OL.out rfl p n c l LA.out ?c1 rfl n ?c2 ?c3 ?c4 ?_; (case hw => rfl); (case c1 => exact HNN.out); (case c2 => omega); (case c3 => omega); (case c4 => exact BB.out.size); intro q10 c10 w10 hO10 hB10; have BB := Lib.hid (BB.out.trans hB10.out); have hS := HALL.out _ BB.out; have MA := Lib.hid (HMB.out _ BB.out))
      | (refine step_appnsW (o := ⟨some 139, _, _, _, _, _⟩) ?hw (.tmp 137) (.tmp 138) rfl w12.heap.size q10 n c10 ([] ++ l) hO10.out rfl q k d m MA.out ?c1 rfl (n + k) ?c2 ?c3 ?c4 ?_; (case hw => rfl); (case c1 => exact HKK.out); (case c2 => omega); (case c3 => omega); (case c4 => exact BB.out.size); intro q11 c11 w20 hO11 hB11; have BB := Lib.hid (BB.out.trans hB11.out); have hS := HALL.out _ BB.out; have MM := Lib.hid (show NlsAt w20 q11 (l ++ m) from hO11.out.at))
      | (go_at_call 18; (with_reducible refine (HSN.out _ BB.out _ _ MM.out).mono ?_); rintro e v ⟨rfl, hb⟩; have BB := Lib.hid (BB.out.trans (hb.mono BB.out.size)); have hS := HALL.out _ BB.out; clear hb))
    all_goals
      go_wp2_with fail
      go_ret
      exact ⟨by simp, HB12.out.trans (BB.out.mono HB12.out.size)⟩
end Go.Proofs.YtpeagakpmjnelaaDoor.Ax
