/- hop: HopShorter's walk. -/
import Derived.Test.YtbblcieafmpfgaaWF
import Derived.Test.YtbblcieafmpfgaaWG
import Derived.Test.YtbblcieafmpfgaaWI
namespace Go.Proofs.Ytbblcieafmpfgaa
open Go.RowKit
set_option linter.unusedVariables false
set_option linter.unusedSimpArgs false

set_option maxRecDepth 100000 in
set_option maxHeartbeats 8000000 in
theorem hshorter_walk (w : World) (p : Option Addr) (l : List Ifc) (n c : Nat) (hl : IfsAt w p l) (hn : l.length = n) (hsz : n ≤ 3518437208780) (id : Int) (hid : (Lit.int .i64 id).wf = true) (r : Int) (a : Int) (a0 : 0 ≤ a) (a1 : a < 4294967296) :
    Calls Try.prog 5 #[.slice p n c, .int .i64 id, .int .i64 r, .int .u32 a] w fun e w' => e = .returned (.bool true) ∧ Below w.heap.size w w' := by
  have HSZ := Lib.hid hsz
  have HL := Lib.hid hl
  have HN := Lib.hid hn
  have HID := Lib.hid hid
  have hOL := IfsOwn.lit0 w w.heap.size (Nat.le_refl _)
  have OL := Lib.hid hOL
  have HA := Lib.hid (newB w (.cells #[] 34))
  have LA := Lib.hid (hl.below (newB w (.cells #[] 34)))
  clear hl hn hsz hid hOL
  have HIN := Lib.hid (show ∀ x ∈ [(⟨id, r, 0, 0, 0⟩ : Ifc)], InIf x from fun x hx => by
    rcases List.mem_singleton.1 hx with rfl
    exact ⟨HID.out, Int.le_refl 0, by show (0 : Int) < 4294967296; omega⟩)
  obtain ⟨m, hm⟩ : ∃ m, n + 1 = m := ⟨_, rfl⟩
  have HM := Lib.hid hm
  clear hm
  go_enter Try.func5, Try.ntmps5
  go_wp2_with (first
    | (at_builtin; refine wpList_appnsI (o := ⟨some 20, _, _, _, _, _⟩) (by rfl) (.tmp 18) (.tmp 19) (by rfl) w.heap.size (some ⟨w.heap.size, 0, none⟩) 0 0 [] OL.out (by rfl) p n c l LA.out HN.out (by rfl) n (by omega) (by have := HSZ.out; omega) (by simp) ?_
       intro q1 c1 w1 hO1 hB1
       have LIT := Lib.hid (show IfsAt (w1.alloc (.cells #[.int .i64 id, .int .i64 r, .int .u32 0, .int .i64 0, .int .i64 0] 34)) (some ⟨w1.heap.size, 0, none⟩) [⟨id, r, 0, 0, 0⟩] from (IfsOwn.lit w1 w1.heap.size [⟨id, r, 0, 0, 0⟩] HIN.out (Nat.le_refl _) (by unfold maxLen; simp)).at)
       have HX1 := Lib.hid (newB w1 (.cells #[.int .i64 id, .int .i64 r, .int .u32 0, .int .i64 0, .int .i64 0] 34))
       have HZ1 := Lib.hid (Nat.le_trans (HA.out.trans hB1.out).size HX1.out.size)
       have OL1 := Lib.hid (hO1.out.below HX1.out))
    | (at_builtin; refine wpList_appnsI (o := ⟨some 25, _, _, _, _, _⟩) (by rfl) (.tmp 20) (.tmp 24) (by rfl) w.heap.size q1 n c1 ([] ++ l) OL1.out (by rfl) (some ⟨w1.heap.size, 0, none⟩) 1 1 [⟨id, r, 0, 0, 0⟩] LIT.out rfl (by rfl) m HM.out (by have := HSZ.out; have := HM.out; omega) HZ1.out ?_
       intro q2 c2 w2 hO2 hB2))
  · have HB2 := Lib.hid (((HA.out.trans hB1.out).trans (HX1.out.mono (HA.out.trans hB1.out).size)).trans hB2.out)
    have HLN := Lib.hid (show (l ++ [(⟨id, r, 0, 0, 0⟩ : Ifc)]).length = m by rw [List.length_append, HN.out]; exact HM.out)
    have HQ := Lib.hid (show IfsAt w2 q2 (l ++ [⟨id, r, 0, 0, 0⟩]) from hO2.out.at)
    have HC := Lib.hid (rcheckI_any q2 (l ++ [⟨id, r, 0, 0, 0⟩]) m c2 w2 HQ.out HLN.out (by have := HSZ.out; have := HM.out; unfold maxLen; omega))
    clear hO1 hB1 LIT HX1 HZ1 OL1 hO2 hB2 OL LA HA
    refine HC.out.mono ?_
    rintro e w3 ⟨rfl, hb⟩
    have HB3 := Lib.hid (HB2.out.trans (hb.mono HB2.out.size))
    have HQ3 := Lib.hid (HQ.out.below hb)
    clear hb HC HQ
    obtain ⟨o, ho⟩ : ∃ o, okIfs (l ++ [⟨id, r, 0, 0, 0⟩]) = o := ⟨_, rfl⟩
    rw [ho]
    rcases o with _ | _
    · have HLV := Lib.hid (lives_any w3)
      clear ho
      go_wp2_with fail
      refine HLV.out.mono ?_
      rintro e w4 ⟨rfl, hb⟩
      have HB4 := Lib.hid (HB3.out.trans (hb.mono HB3.out.size))
      clear hb
      go_wp2_with fail
      go_ret
      exact ⟨rfl, HB4.out⟩
    · obtain ⟨hok, hfv⟩ := shorter_fact l id r a a0 a1 ho
      have HO := Lib.hid ho
      have HK := Lib.hid hok
      have HF := Lib.hid hfv
      have HN1 := Lib.hid (newH_any p l n c w3 (HL.out.below (HB3.out)) HN.out)
      clear ho hok hfv
      go_wp2_with fail
      refine HN1.out.mono ?_
      rintro e w4 ⟨hb, _, hy⟩
      obtain ⟨h1, b1, F1, rfl, hH⟩ := hy HK.out
      have HB4 := Lib.hid (HB3.out.trans (hb.mono HB3.out.size))
      have HQ4 := Lib.hid (HQ3.out.below hb)
      have HH4 := Lib.hid hH
      have HN2 := Lib.hid (newH_any q2 (l ++ [⟨id, r, 0, 0, 0⟩]) m c2 w4 HQ4.out HLN.out)
      clear hb hy hH HN1 HQ3
      go_wp2_with fail
      refine HN2.out.mono ?_
      rintro e w5 ⟨hb, _, hy⟩
      obtain ⟨h2, b2, F2, rfl, hH⟩ := hy HO.out
      have HB5 := Lib.hid (HB4.out.trans (hb.mono HB4.out.size))
      have HH5 := Lib.hid (HH4.out.below hb)
      have HG5 := Lib.hid hH
      have hf1 := hfind_any w5 w3.heap.size h1 b1 F1 l HH5.out r a a0 a1
      clear hb hy hH HN2 HQ4 HH4
      rcases hfz : findV l r a with _ | ⟨zi, zr, za, zn, zc⟩
      · have hf2 := HF.out
        rw [hfz] at hf1 hf2
        have e1 : ifV ((none : Option Ifc).getD Ifc.zero) = .agg #[.int .i64 0, .int .i64 0, .int .u32 0, .int .i64 0, .int .i64 0] := rfl
        have e2 : ifV ((some ((none : Option Ifc).getD ⟨id, r, 0, 0, 0⟩)).getD Ifc.zero) = .agg #[.int .i64 id, .int .i64 r, .int .u32 0, .int .i64 0, .int .i64 0] := rfl
        rw [e1] at hf1
        have HF1 := Lib.hid hf1
        have HF2 := Lib.hid hf2
        clear hf1 hf2 hfz e1
        go_wp2_with fail
        refine HF1.out.mono ?_
        rintro e w6 ⟨rfl, hb⟩
        have hb6 := hb.trans ((newB w6 (.cells #[.int .i64 0, .int .i64 0, .int .u32 0, .int .i64 0, .int .i64 0] 34)).mono hb.size)
        obtain ⟨W6, hW6⟩ : ∃ W, w6.alloc (.cells #[.int .i64 0, .int .i64 0, .int .u32 0, .int .i64 0, .int .i64 0] 34) = W := ⟨_, rfl⟩
        rw [hW6] at hb6
        have HB6 := Lib.hid (HB5.out.trans (hb6.mono HB5.out.size))
        have HX6 := Lib.hid (show Blk W6 w6.heap.size 34 [.int .i64 0, .int .i64 0, .int .u32 0, .int .i64 0, .int .i64 0] from hW6 ▸ Blk.new w6 34 [.int .i64 0, .int .i64 0, .int .u32 0, .int .i64 0, .int .i64 0])
        have HWE6 := Lib.hid hW6
        have hg2 := hfind_any W6 w4.heap.size h2 b2 F2 (l ++ [⟨id, r, 0, 0, 0⟩]) (HG5.out.below hb6) r a a0 a1
        rw [HF2.out, e2] at hg2
        have HG2 := Lib.hid hg2
        clear hb hb6 hW6 HF1 hg2 e2 HF2 HG5 HH5
        go_wp2_with fail
        rw [HWE6.out]
        refine HG2.out.mono ?_
        rintro e w7 ⟨rfl, hb⟩
        have hb7 := hb.trans ((newB w7 (.cells #[.int .i64 id, .int .i64 r, .int .u32 0, .int .i64 0, .int .i64 0] 34)).mono hb.size)
        obtain ⟨W7, hW7⟩ : ∃ W, w7.alloc (.cells #[.int .i64 id, .int .i64 r, .int .u32 0, .int .i64 0, .int .i64 0] 34) = W := ⟨_, rfl⟩
        rw [hW7] at hb7
        have HB7 := Lib.hid (HB6.out.trans (hb7.mono HB6.out.size))
        have HX7 := Lib.hid (HX6.out.next hb7)
        have HY7 := Lib.hid (show Blk W7 w7.heap.size 34 [.int .i64 id, .int .i64 r, .int .u32 0, .int .i64 0, .int .i64 0] from hW7 ▸ Blk.new w7 34 [.int .i64 id, .int .i64 r, .int .u32 0, .int .i64 0, .int .i64 0])
        have HWE7 := Lib.hid hW7
        have HLV := Lib.hid (lives_any W7)
        clear hb hb7 hW7 HG2 HX6
        go_wp2_with fail
        rw [HWE7.out]
        refine HLV.out.mono ?_
        rintro e w8 ⟨rfl, hb⟩
        have HB8 := Lib.hid (HB7.out.trans (hb.mono HB7.out.size))
        obtain ⟨x0, x1, x2, x3, x4⟩ := if_boxes (HX7.out.next hb)
        obtain ⟨y0, y1, y2, y3, y4⟩ := if_boxes (HY7.out.next hb)
        clear hb HLV
        have t1 : (id == id) = true := by simp
        go_wp2_with fail
        go_ret
        exact ⟨rfl, HB8.out⟩
      · have hf2 := HF.out
        rw [hfz] at hf1 hf2
        have e1 : ifV ((some (⟨zi, zr, za, zn, zc⟩ : Ifc)).getD Ifc.zero) = .agg #[.int .i64 zi, .int .i64 zr, .int .u32 za, .int .i64 zn, .int .i64 zc] := rfl
        have e2 : ifV ((some ((some (⟨zi, zr, za, zn, zc⟩ : Ifc)).getD ⟨id, r, 0, 0, 0⟩)).getD Ifc.zero) = .agg #[.int .i64 zi, .int .i64 zr, .int .u32 za, .int .i64 zn, .int .i64 zc] := rfl
        rw [e1] at hf1
        have HF1 := Lib.hid hf1
        have HF2 := Lib.hid hf2
        clear hf1 hf2 hfz e1
        go_wp2_with fail
        refine HF1.out.mono ?_
        rintro e w6 ⟨rfl, hb⟩
        have hb6 := hb.trans ((newB w6 (.cells #[.int .i64 zi, .int .i64 zr, .int .u32 za, .int .i64 zn, .int .i64 zc] 34)).mono hb.size)
        obtain ⟨W6, hW6⟩ : ∃ W, w6.alloc (.cells #[.int .i64 zi, .int .i64 zr, .int .u32 za, .int .i64 zn, .int .i64 zc] 34) = W := ⟨_, rfl⟩
        rw [hW6] at hb6
        have HB6 := Lib.hid (HB5.out.trans (hb6.mono HB5.out.size))
        have HX6 := Lib.hid (show Blk W6 w6.heap.size 34 [.int .i64 zi, .int .i64 zr, .int .u32 za, .int .i64 zn, .int .i64 zc] from hW6 ▸ Blk.new w6 34 [.int .i64 zi, .int .i64 zr, .int .u32 za, .int .i64 zn, .int .i64 zc])
        have HWE6 := Lib.hid hW6
        have hg2 := hfind_any W6 w4.heap.size h2 b2 F2 (l ++ [⟨id, r, 0, 0, 0⟩]) (HG5.out.below hb6) r a a0 a1
        rw [HF2.out, e2] at hg2
        have HG2 := Lib.hid hg2
        clear hb hb6 hW6 HF1 hg2 e2 HF2 HG5 HH5
        go_wp2_with fail
        rw [HWE6.out]
        refine HG2.out.mono ?_
        rintro e w7 ⟨rfl, hb⟩
        have hb7 := hb.trans ((newB w7 (.cells #[.int .i64 zi, .int .i64 zr, .int .u32 za, .int .i64 zn, .int .i64 zc] 34)).mono hb.size)
        obtain ⟨W7, hW7⟩ : ∃ W, w7.alloc (.cells #[.int .i64 zi, .int .i64 zr, .int .u32 za, .int .i64 zn, .int .i64 zc] 34) = W := ⟨_, rfl⟩
        rw [hW7] at hb7
        have HB7 := Lib.hid (HB6.out.trans (hb7.mono HB6.out.size))
        have HX7 := Lib.hid (HX6.out.next hb7)
        have HY7 := Lib.hid (show Blk W7 w7.heap.size 34 [.int .i64 zi, .int .i64 zr, .int .u32 za, .int .i64 zn, .int .i64 zc] from hW7 ▸ Blk.new w7 34 [.int .i64 zi, .int .i64 zr, .int .u32 za, .int .i64 zn, .int .i64 zc])
        have HWE7 := Lib.hid hW7
        have HLV := Lib.hid (lives_any W7)
        clear hb hb7 hW7 HG2 HX6
        go_wp2_with fail
        rw [HWE7.out]
        refine HLV.out.mono ?_
        rintro e w8 ⟨rfl, hb⟩
        have HB8 := Lib.hid (HB7.out.trans (hb.mono HB7.out.size))
        obtain ⟨x0, x1, x2, x3, x4⟩ := if_boxes (HX7.out.next hb)
        obtain ⟨y0, y1, y2, y3, y4⟩ := if_boxes (HY7.out.next hb)
        clear hb HLV
        have hq : ∀ u, (binOp .eql 34 (.agg #[.int .i64 zi, .int .i64 zr, .int .u32 za, .int .i64 zn, .int .i64 zc]) (.agg #[.int .i64 zi, .int .i64 zr, .int .u32 za, .int .i64 zn, .int .i64 zc])).run Try.prog u = .ok (.bool true) u := fun u => (if_eql ⟨zi, zr, za, zn, zc⟩ ⟨zi, zr, za, zn, zc⟩ u).trans (by rw [(eqI_iff _ _).2 rfl])
        have hg := if_eqGuard
        go_wp2_with fail
        go_ret
        exact ⟨rfl, HB8.out⟩
  · have HB2 := Lib.hid (((HA.out.trans hB1.out).trans (HX1.out.mono (HA.out.trans hB1.out).size)).trans hB2.out)
    have HLV := Lib.hid (lives_any w2)
    refine HLV.out.mono ?_
    rintro e w3 ⟨rfl, hb⟩
    have HB3 := Lib.hid (HB2.out.trans (hb.mono HB2.out.size))
    clear hb
    go_wp2_with fail
    go_ret
    exact ⟨rfl, HB3.out⟩
end Go.Proofs.Ytbblcieafmpfgaa
