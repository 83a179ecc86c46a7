/- update: what must come of every program. -/
import Derived.Test.YtpeagakpmjnelaaDoorUqE
import Derived.Test.YtpeagakpmjnelaaDoorUqE
namespace Go.Proofs.YtpeagakpmjnelaaDoor.Ax
open Go.RowKit
set_option maxRecDepth 100000
set_option linter.unusedVariables false
set_option linter.unusedSimpArgs false

theorem bt {a b c : World} (h : Below a.heap.size a b) (k : Below b.heap.size b c) : Below a.heap.size a c := h.trans (k.mono h.size)
theorem bytes_of_blk {w : World} {g : Nat} {T : TypeId} {xs : List Int} (h : Blk w g T (xs.map (Value.int .u8))) (hx : InByte xs) : BytesAt w (some ⟨g, 0, none⟩) xs := by
  refine ⟨hx, .inr ⟨g, 0, rfl, fun i hi => ?_⟩⟩
  rw [Nat.zero_add]
  have := h.cell i (by simpa using hi)
  rw [this]
  simp [List.getD, hi]
theorem inb {xs : List Int} (h : xs.all (fun x => decide (0 ≤ x) && decide (x ≤ 255)) = true) : InByte xs := fun i hi => by
  have := List.all_eq_true.1 h (xs.getD i 0) (by simp [List.getD, hi])
  simpa using this
theorem get_lv (p : Option Addr) (xs : List Int) (n c : Nat) (four paths : Bool) (w : World) (ht : Tab w) (hb : BytesAt w p xs) (hn : xs.length = n) (hl : n ≤ 100000) (R : Upd) (a b : Int) (h : getU xs four paths = (R, a, b)) :
    Calls Tryd.prog 12 #[.slice p n c, .bool four, .bool paths] w fun e w' => ∃ ul, e = .returned (.tuple #[.agg (updL R ul).toArray, .agg #[.int .i64 a, .int .i64 b, .slice none 0 0]]) ∧ UOwn w' R ul ∧ Below w.heap.size w w' := by
  have := getU_any p xs n c four paths w ht hb hn hl
  rw [h] at this
  exact this
theorem put_lv (u : Upd) (l : ULoc) (four paths : Bool) (w : World) (ht : Tab w) (hu : UpAt w u l) (hk : okU u four paths = true) (m : Nat) (hm : (bodyL u four paths).length = m) :
    Calls Tryd.prog 9 #[.agg (updL u l).toArray, .bool four, .bool paths] w fun e w' => ∃ q cap, e = .returned (.tuple #[.agg #[.int .i64 2, .slice q m cap], .int .i64 0]) ∧ Own w' w.heap.size q cap (bodyL u four paths) ∧ Below w.heap.size w w' := by
  refine (putU_any u l four paths w ht hu).mono ?_
  rintro e w' ⟨h1, _, hb⟩
  obtain ⟨q, cap, rfl, ho⟩ := h1 hk
  exact ⟨q, cap, by rw [hm], ho, hb⟩
set_option maxHeartbeats 16000000 in
theorem lives_any (w : World) (ht : Tab w) :
    Calls Tryd.prog 8 #[] w fun e w' => e = .returned (.bool true) ∧ Below w.heap.size w w' := by
  have hA := two_below w (.cells #[.int .i64 0, .int .u32 167772160, .int .i64 8] 56) (.cells #[.slice (some ⟨w.heap.size, 0, none⟩) 1 1, .slice (some ⟨w.heap.size, 0, none⟩) 1 1, .int .i64 0, .slice none 0 0, .int .u32 1, .int .i64 (-1), .int .i64 200, .slice none 0 0, .bool false] 29)
  have hX := (Blk.new w 56 [.int .i64 0, .int .u32 167772160, .int .i64 8]).alloc (.cells #[.slice (some ⟨w.heap.size, 0, none⟩) 1 1, .slice (some ⟨w.heap.size, 0, none⟩) 1 1, .int .i64 0, .slice none 0 0, .int .u32 1, .int .i64 (-1), .int .i64 200, .slice none 0 0, .bool false] 29)
  have hR := Blk.new (w.alloc (.cells #[.int .i64 0, .int .u32 167772160, .int .i64 8] 56)) 29 [.slice (some ⟨w.heap.size, 0, none⟩) 1 1, .slice (some ⟨w.heap.size, 0, none⟩) 1 1, .int .i64 0, .slice none 0 0, .int .u32 1, .int .i64 (-1), .int .i64 200, .slice none 0 0, .bool false]
  rw [sz_alloc] at hR
  obtain ⟨P, hP⟩ : ∃ P, w.heap.size = P := ⟨_, rfl⟩
  rw [hP] at hA hX hR
  obtain ⟨V, hV⟩ : ∃ V, (w.alloc (.cells #[.int .i64 0, .int .u32 167772160, .int .i64 8] 56)).alloc (.cells #[.slice (some ⟨P, 0, none⟩) 1 1, .slice (some ⟨P, 0, none⟩) 1 1, .int .i64 0, .slice none 0 0, .int .u32 1, .int .i64 (-1), .int .i64 200, .slice none 0 0, .bool false] 29) = V := ⟨_, rfl⟩
  rw [hV] at hA hX hR
  have HT := Lib.hid (ht.below (hP ▸ hA))
  have hnl : NlsAt V (some ⟨P, 0, none⟩) [lvX] := ⟨fun i hi => by
    have : i = 0 := by simpa using hi
    subst this; exact ⟨by decide, by decide⟩, .inr ⟨P, 0, rfl, fun i hi => by
    have : i = 0 := by simpa using hi
    subst this
    exact ⟨hX.cell 0 (by simp), hX.cell 1 (by simp), hX.cell 2 (by simp)⟩⟩⟩
  have HN := Lib.hid hnl
  have HUA := Lib.hid (show UpAt V lvU ⟨some ⟨P, 0, none⟩, 1, 1, some ⟨P, 0, none⟩, 1, 1, Loc.zero⟩ from ⟨hnl, rfl, Nat.le_refl _, by show 1 ≤ maxLen; unfold maxLen; omega, hnl, rfl, Nat.le_refl _, by show 1 ≤ maxLen; unfold maxLen; omega, ⟨.inl rfl, rfl, Nat.le_refl _, by unfold maxLen; simp [Loc.zero], .inl rfl, rfl, Nat.le_refl _, by unfold maxLen; simp [Loc.zero], by decide, by decide⟩⟩)
  have HRB := Lib.hid hR
  have HA := Lib.hid hA
  have HV := Lib.hid hV
  have HP := Lib.hid hP
  have HPU := Lib.hid (show Calls Tryd.prog 9 #[.agg #[.slice (some ⟨P, 0, none⟩) 1 1, .slice (some ⟨P, 0, none⟩) 1 1, .int .i64 0, .slice none 0 0, .int .u32 1, .int .i64 (-1), .int .i64 200, .slice none 0 0, .bool false], .bool true, .bool false] V _ from put_lv lvU ⟨some ⟨P, 0, none⟩, 1, 1, some ⟨P, 0, none⟩, 1, 1, Loc.zero⟩ true false V HT.out HUA.out lv_ok 29 lv_len)
  clear ht hA hX hR hV hP hnl
  go_enter Tryd.func8, Tryd.ntmps8
  go_wp2_with fail
  rw [HP.out, HV.out]
  refine HPU.out.mono ?_
  rintro e w1 ⟨q1, c1, rfl, ho, hb⟩
  have HO1 := Lib.hid ho
  have HB1 := Lib.hid hb
  clear ho hb HPU
  go_wp2_with fail
  have hM := Blk.new w1 34 [.int .i64 2, .slice q1 29 c1]
  have hb2 := newB w1 (.cells #[.int .i64 2, .slice q1 29 c1] 34)
  obtain ⟨M, hM0⟩ : ∃ M, w1.heap.size = M := ⟨_, rfl⟩
  rw [hM0] at hM
  obtain ⟨W2, hW2⟩ : ∃ W, w1.alloc (.cells #[.int .i64 2, .slice q1 29 c1] 34) = W := ⟨_, rfl⟩
  rw [hW2] at hM hb2
  have HM := Lib.hid hM
  have HB2 := Lib.hid (HB1.out.trans (hb2.mono HB1.out.size))
  have HO2 := Lib.hid (HO1.out.below hb2)
  rw [hM0, hW2]
  clear hM hb2 hM0 hW2
  have HG1 := Lib.hid (get_lv q1 (bodyL lvU true false) 29 c1 true false W2 (HT.out.below HB2.out) HO2.out.bytes lv_len (by omega) lvU 0 0 lv_got)
  refine HG1.out.mono ?_
  rintro e w2 ⟨ul, rfl, hu, hb⟩
  obtain ⟨gp, gn, gc, rp, rn, rc, ⟨pp, pn, pc, cp, cn, cc⟩⟩ := ul
  have HUv := Lib.hid hu
  have HB3 := Lib.hid (HB2.out.trans (hb.mono HB2.out.size))
  have HM3 := Lib.hid (HM.out.next hb)
  clear hu hb HG1
  have heq : updL lvU ⟨gp, gn, gc, rp, rn, rc, ⟨pp, pn, pc, cp, cn, cc⟩⟩ = [.slice gp gn gc, .slice rp rn rc, .int .i64 0, .slice pp pn pc, .int .u32 1, .int .i64 (-1), .int .i64 200, .slice cp cn cc, .bool false] := rfl
  rw [heq]
  clear heq
  go_wp2_with fail
  have hBv := (Blk.new w2 29 [.slice gp gn gc, .slice rp rn rc, .int .i64 0, .slice pp pn pc, .int .u32 1, .int .i64 (-1), .int .i64 200, .slice cp cn cc, .bool false]).alloc (.cells #[.int .i64 0, .int .i64 0, .slice none 0 0] 41)
  have hBn := Blk.new (w2.alloc (.cells #[.slice gp gn gc, .slice rp rn rc, .int .i64 0, .slice pp pn pc, .int .u32 1, .int .i64 (-1), .int .i64 200, .slice cp cn cc, .bool false] 29)) 41 [.int .i64 0, .int .i64 0, .slice none 0 0]
  rw [sz_alloc] at hBn
  have hbx := two_below w2 (.cells #[.slice gp gn gc, .slice rp rn rc, .int .i64 0, .slice pp pn pc, .int .u32 1, .int .i64 (-1), .int .i64 200, .slice cp cn cc, .bool false] 29) (.cells #[.int .i64 0, .int .i64 0, .slice none 0 0] 41)
  obtain ⟨Vb, hVb⟩ : ∃ M, w2.heap.size = M := ⟨_, rfl⟩
  rw [hVb] at hBv hBn
  obtain ⟨W3, hW3⟩ : ∃ W, ((w2.alloc (.cells #[.slice gp gn gc, .slice rp rn rc, .int .i64 0, .slice pp pn pc, .int .u32 1, .int .i64 (-1), .int .i64 200, .slice cp cn cc, .bool false] 29)).alloc (.cells #[.int .i64 0, .int .i64 0, .slice none 0 0] 41)) = W := ⟨_, rfl⟩
  rw [hW3] at hbx hBv hBn
  have HBv := Lib.hid hBv
  have HBn := Lib.hid hBn
  have HBW3 := Lib.hid (HB3.out.trans (hbx.mono HB3.out.size))
  have HXW3 := Lib.hid hbx
  rw [hVb, hW3]
  clear hbx hVb hW3 hBv hBn
  have HZ := Lib.hid (show Calls Tryd.prog 9 #[.agg #[.slice none 0 0, .slice none 0 0, .int .i64 0, .slice none 0 0, .int .u32 0, .int .i64 0, .int .i64 0, .slice none 0 0, .bool false], .bool true, .bool true] W3 _ from put_lv Upd.zero ⟨none, 0, 0, none, 0, 0, Loc.zero⟩ true true W3 (HT.out.below HBW3.out) (UOwn.up (w := W3) ⟨⟨0, NlsOwn.nil _ _⟩, ⟨0, NlsOwn.nil _ _⟩, 0, zeroOwn _ _⟩) lv_zok 4 (by rw [lv_zero]; rfl))
  refine HZ.out.mono ?_
  rintro e w4 ⟨q4, c4, rfl, ho, hb⟩
  have HO4 := Lib.hid (lv_zero ▸ ho.bytes)
  have HBw4 := Lib.hid (HBW3.out.trans (hb.mono HBW3.out.size))
  have HY4 := Lib.hid hb
  clear ho hb HZ
  go_wp2_with fail
  have hBk := (Blk.new w4 34 [.int .i64 2, .slice q4 4 c4]).alloc (.cells #[.int .u8 0, .int .u8 1] 5)
  have hL1 := Blk.new (w4.alloc (.cells #[.int .i64 2, .slice q4 4 c4] 34)) 5 [.int .u8 0, .int .u8 1]
  rw [sz_alloc] at hL1
  have hbx := two_below w4 (.cells #[.int .i64 2, .slice q4 4 c4] 34) (.cells #[.int .u8 0, .int .u8 1] 5)
  obtain ⟨Kb, hKb⟩ : ∃ M, w4.heap.size = M := ⟨_, rfl⟩
  rw [hKb] at hBk hL1
  obtain ⟨W5, hW5⟩ : ∃ W, ((w4.alloc (.cells #[.int .i64 2, .slice q4 4 c4] 34)).alloc (.cells #[.int .u8 0, .int .u8 1] 5)) = W := ⟨_, rfl⟩
  rw [hW5] at hbx hBk hL1
  have HBk := Lib.hid hBk
  have HL1 := Lib.hid hL1
  have HBW5 := Lib.hid (HBw4.out.trans (hbx.mono HBw4.out.size))
  have HXW5 := Lib.hid hbx
  rw [hKb, hW5]
  clear hbx hKb hW5 hBk hL1
  have HG1 := Lib.hid (get_lv (some ⟨Kb + 1, 0, none⟩) [0, 1] 2 2 true true W5 (HT.out.below HBW5.out) (bytes_of_blk (xs := [0, 1]) HL1.out (inb (by decide))) rfl (by omega) Upd.zero 3 1 lv_cut)
  refine HG1.out.mono ?_
  rintro e w6 ⟨ul, rfl, hu, hb⟩
  obtain ⟨gp1, gn1, gc1, rp1, rn1, rc1, ⟨pp1, pn1, pc1, cp1, cn1, cc1⟩⟩ := ul
  have HU1 := Lib.hid hu
  have HBw6 := Lib.hid (HBW5.out.trans (hb.mono HBW5.out.size))
  have HYw6 := Lib.hid hb
  clear hu hb HG1
  have heq : updL Upd.zero ⟨gp1, gn1, gc1, rp1, rn1, rc1, ⟨pp1, pn1, pc1, cp1, cn1, cc1⟩⟩ = [.slice gp1 gn1 gc1, .slice rp1 rn1 rc1, .int .i64 0, .slice pp1 pn1 pc1, .int .u32 0, .int .i64 0, .int .i64 0, .slice cp1 cn1 cc1, .bool false] := rfl
  rw [heq]
  clear heq
  go_wp2_with fail
  have hBy := ((Blk.new w6 29 [.slice gp1 gn1 gc1, .slice rp1 rn1 rc1, .int .i64 0, .slice pp1 pn1 pc1, .int .u32 0, .int .i64 0, .int .i64 0, .slice cp1 cn1 cc1, .bool false]).alloc (.cells #[.int .i64 3, .int .i64 1, .slice none 0 0] 41)).alloc (.cells #[.int .u8 0, .int .u8 0, .int .u8 0, .int .u8 0, .int .u8 8, .int .u8 10] 5)
  have hBw := (Blk.new (w6.alloc (.cells #[.slice gp1 gn1 gc1, .slice rp1 rn1 rc1, .int .i64 0, .slice pp1 pn1 pc1, .int .u32 0, .int .i64 0, .int .i64 0, .slice cp1 cn1 cc1, .bool false] 29)) 41 [.int .i64 3, .int .i64 1, .slice none 0 0]).alloc (.cells #[.int .u8 0, .int .u8 0, .int .u8 0, .int .u8 0, .int .u8 8, .int .u8 10] 5)
  have hL2 := Blk.new ((w6.alloc (.cells #[.slice gp1 gn1 gc1, .slice rp1 rn1 rc1, .int .i64 0, .slice pp1 pn1 pc1, .int .u32 0, .int .i64 0, .int .i64 0, .slice cp1 cn1 cc1, .bool false] 29)).alloc (.cells #[.int .i64 3, .int .i64 1, .slice none 0 0] 41)) 5 [.int .u8 0, .int .u8 0, .int .u8 0, .int .u8 0, .int .u8 8, .int .u8 10]
  rw [sz_alloc] at hBw
  rw [sz_alloc, sz_alloc] at hL2
  have hbx := (two_below w6 (.cells #[.slice gp1 gn1 gc1, .slice rp1 rn1 rc1, .int .i64 0, .slice pp1 pn1 pc1, .int .u32 0, .int .i64 0, .int .i64 0, .slice cp1 cn1 cc1, .bool false] 29) (.cells #[.int .i64 3, .int .i64 1, .slice none 0 0] 41)).alloc (by simp; omega) (.cells #[.int .u8 0, .int .u8 0, .int .u8 0, .int .u8 0, .int .u8 8, .int .u8 10] 5)
  obtain ⟨Nb, hNb⟩ : ∃ M, w6.heap.size = M := ⟨_, rfl⟩
  rw [hNb] at hBy hBw hL2
  obtain ⟨W7, hW7⟩ : ∃ W, (((w6.alloc (.cells #[.slice gp1 gn1 gc1, .slice rp1 rn1 rc1, .int .i64 0, .slice pp1 pn1 pc1, .int .u32 0, .int .i64 0, .int .i64 0, .slice cp1 cn1 cc1, .bool false] 29)).alloc (.cells #[.int .i64 3, .int .i64 1, .slice none 0 0] 41)).alloc (.cells #[.int .u8 0, .int .u8 0, .int .u8 0, .int .u8 0, .int .u8 8, .int .u8 10] 5)) = W := ⟨_, rfl⟩
  rw [hW7] at hbx hBy hBw hL2
  have HBy := Lib.hid hBy
  have HBw := Lib.hid hBw
  have HL2 := Lib.hid hL2
  have HBW7 := Lib.hid (HBw6.out.trans (hbx.mono HBw6.out.size))
  have HXW7 := Lib.hid hbx
  rw [hNb, hW7]
  clear hbx hNb hW7 hBy hBw hL2
  have HG2 := Lib.hid (get_lv (some ⟨Nb + 1 + 1, 0, none⟩) [0, 0, 0, 0, 8, 10] 6 6 true false W7 (HT.out.below HBW7.out) (bytes_of_blk (xs := [0, 0, 0, 0, 8, 10]) HL2.out (inb (by decide))) rfl (by omega) lvT 0 0 lv_soft)
  refine HG2.out.mono ?_
  rintro e w8 ⟨ul, rfl, hu, hb⟩
  obtain ⟨gp2, gn2, gc2, rp2, rn2, rc2, ⟨pp2, pn2, pc2, cp2, cn2, cc2⟩⟩ := ul
  have HU2 := Lib.hid hu
  have HBw8 := Lib.hid (HBW7.out.trans (hb.mono HBW7.out.size))
  have HYw8 := Lib.hid hb
  clear hu hb HG2
  have heq : updL lvT ⟨gp2, gn2, gc2, rp2, rn2, rc2, ⟨pp2, pn2, pc2, cp2, cn2, cc2⟩⟩ = [.slice gp2 gn2 gc2, .slice rp2 rn2 rc2, .int .i64 0, .slice pp2 pn2 pc2, .int .u32 0, .int .i64 0, .int .i64 0, .slice cp2 cn2 cc2, .bool true] := rfl
  rw [heq]
  clear heq
  go_wp2_with fail
  have hBs := ((Blk.new w8 29 [.slice gp2 gn2 gc2, .slice rp2 rn2 rc2, .int .i64 0, .slice pp2 pn2 pc2, .int .u32 0, .int .i64 0, .int .i64 0, .slice cp2 cn2 cc2, .bool true]).alloc (.cells #[.int .i64 0, .int .i64 0, .slice none 0 0] 41)).alloc (.cells #[.int .u8 0, .int .u8 1, .int .u8 33, .int .u8 0, .int .u8 0] 5)
  have hBx := (Blk.new (w8.alloc (.cells #[.slice gp2 gn2 gc2, .slice rp2 rn2 rc2, .int .i64 0, .slice pp2 pn2 pc2, .int .u32 0, .int .i64 0, .int .i64 0, .slice cp2 cn2 cc2, .bool true] 29)) 41 [.int .i64 0, .int .i64 0, .slice none 0 0]).alloc (.cells #[.int .u8 0, .int .u8 1, .int .u8 33, .int .u8 0, .int .u8 0] 5)
  have hL3 := Blk.new ((w8.alloc (.cells #[.slice gp2 gn2 gc2, .slice rp2 rn2 rc2, .int .i64 0, .slice pp2 pn2 pc2, .int .u32 0, .int .i64 0, .int .i64 0, .slice cp2 cn2 cc2, .bool true] 29)).alloc (.cells #[.int .i64 0, .int .i64 0, .slice none 0 0] 41)) 5 [.int .u8 0, .int .u8 1, .int .u8 33, .int .u8 0, .int .u8 0]
  rw [sz_alloc] at hBx
  rw [sz_alloc, sz_alloc] at hL3
  have hbx := (two_below w8 (.cells #[.slice gp2 gn2 gc2, .slice rp2 rn2 rc2, .int .i64 0, .slice pp2 pn2 pc2, .int .u32 0, .int .i64 0, .int .i64 0, .slice cp2 cn2 cc2, .bool true] 29) (.cells #[.int .i64 0, .int .i64 0, .slice none 0 0] 41)).alloc (by simp; omega) (.cells #[.int .u8 0, .int .u8 1, .int .u8 33, .int .u8 0, .int .u8 0] 5)
  obtain ⟨Sb, hSb⟩ : ∃ M, w8.heap.size = M := ⟨_, rfl⟩
  rw [hSb] at hBs hBx hL3
  obtain ⟨W9, hW9⟩ : ∃ W, (((w8.alloc (.cells #[.slice gp2 gn2 gc2, .slice rp2 rn2 rc2, .int .i64 0, .slice pp2 pn2 pc2, .int .u32 0, .int .i64 0, .int .i64 0, .slice cp2 cn2 cc2, .bool true] 29)).alloc (.cells #[.int .i64 0, .int .i64 0, .slice none 0 0] 41)).alloc (.cells #[.int .u8 0, .int .u8 1, .int .u8 33, .int .u8 0, .int .u8 0] 5)) = W := ⟨_, rfl⟩
  rw [hW9] at hbx hBs hBx hL3
  have HBs := Lib.hid hBs
  have HBx := Lib.hid hBx
  have HL3 := Lib.hid hL3
  have HBW9 := Lib.hid (HBw8.out.trans (hbx.mono HBw8.out.size))
  have HXW9 := Lib.hid hbx
  rw [hSb, hW9]
  clear hbx hSb hW9 hBs hBx hL3
  have HG3 := Lib.hid (get_lv (some ⟨Sb + 1 + 1, 0, none⟩) [0, 1, 33, 0, 0] 5 5 true false W9 (HT.out.below HBW9.out) (bytes_of_blk (xs := [0, 1, 33, 0, 0]) HL3.out (inb (by decide))) rfl (by omega) Upd.zero 3 10 lv_odd)
  refine HG3.out.mono ?_
  rintro e w10 ⟨ul, rfl, hu, hb⟩
  obtain ⟨gp3, gn3, gc3, rp3, rn3, rc3, ⟨pp3, pn3, pc3, cp3, cn3, cc3⟩⟩ := ul
  have HU3 := Lib.hid hu
  have HBw10 := Lib.hid (HBW9.out.trans (hb.mono HBW9.out.size))
  have HYw10 := Lib.hid hb
  clear hu hb HG3
  have heq : updL Upd.zero ⟨gp3, gn3, gc3, rp3, rn3, rc3, ⟨pp3, pn3, pc3, cp3, cn3, cc3⟩⟩ = [.slice gp3 gn3 gc3, .slice rp3 rn3 rc3, .int .i64 0, .slice pp3 pn3 pc3, .int .u32 0, .int .i64 0, .int .i64 0, .slice cp3 cn3 cc3, .bool false] := rfl
  rw [heq]
  clear heq
  obtain rfl : gn2 = 1 := (HU2.out.up.gn).symm
  have hy := Blk.new (w10.alloc (.cells #[.slice gp3 gn3 gc3, .slice rp3 rn3 rc3, .int .i64 0, .slice pp3 pn3 pc3, .int .u32 0, .int .i64 0, .int .i64 0, .slice cp3 cn3 cc3, .bool false] 29)) 41 [.int .i64 3, .int .i64 10, .slice none 0 0]
  rw [sz_alloc] at hy
  have E10 := two_below w10 (.cells #[.slice gp3 gn3 gc3, .slice rp3 rn3 rc3, .int .i64 0, .slice pp3 pn3 pc3, .int .u32 0, .int .i64 0, .int .i64 0, .slice cp3 cn3 cc3, .bool false] 29) (.cells #[.int .i64 3, .int .i64 10, .slice none 0 0] 41)
  obtain ⟨Yb, hYb⟩ : ∃ M, w10.heap.size = M := ⟨_, rfl⟩
  rw [hYb] at hy
  obtain ⟨W11, hW11⟩ : ∃ W, (w10.alloc (.cells #[.slice gp3 gn3 gc3, .slice rp3 rn3 rc3, .int .i64 0, .slice pp3 pn3 pc3, .int .u32 0, .int .i64 0, .int .i64 0, .slice cp3 cn3 cc3, .bool false] 29)).alloc (.cells #[.int .i64 3, .int .i64 10, .slice none 0 0] 41) = W := ⟨_, rfl⟩
  rw [hW11] at hy E10
  have E9 := bt HYw10.out E10
  have E8 := bt HXW9.out E9
  have E7 := bt HYw8.out E8
  have E6 := bt HXW7.out E7
  have E5 := bt HYw6.out E6
  have E4 := bt HXW5.out E5
  have E3 := bt HY4.out E4
  have E2 := bt HXW3.out E3
  have HV11 := Lib.hid (HBw10.out.trans (E10.mono HBw10.out.size))
  have HyB := Lib.hid hy
  have HuB := Lib.hid (HRB.out.next HV11.out)
  have HmB := Lib.hid (HM3.out.next E2)
  have HvB := Lib.hid (HBv.out.next E3)
  have HnB := Lib.hid (HBn.out.next E3)
  have HkB := Lib.hid (HBk.out.next E5)
  have HwB := Lib.hid (HBw.out.next E7)
  have HsB := Lib.hid (HBs.out.next E9)
  have HxB := Lib.hid (HBx.out.next E9)
  have HkO := Lib.hid (HO4.out.below E4)
  have HUP := Lib.hid (HUA.out.below HV11.out)
  have HVP := Lib.hid ((HUv.out.below E2).up)
  have HSP := Lib.hid ((HU2.out.below E8).up)
  have HTT := Lib.hid (HT.out.below HV11.out)
  have HNN := Lib.hid (HN.out.below HV11.out)
  have HW11 := Lib.hid hW11
  have HYb := Lib.hid hYb
  have hm0 := HmB.out.cell 0 (by simp)
  have hn0 := HnB.out.cell 0 (by simp)
  have hu0 := HuB.out.cell 0 (by simp)
  have hu1 := HuB.out.cell 1 (by simp)
  have hu2 := HuB.out.cell 2 (by simp)
  have hu3 := HuB.out.cell 3 (by simp)
  have hu4 := HuB.out.cell 4 (by simp)
  have hu5 := HuB.out.cell 5 (by simp)
  have hu6 := HuB.out.cell 6 (by simp)
  have hu7 := HuB.out.cell 7 (by simp)
  have hu8 := HuB.out.cell 8 (by simp)
  have hv0 := HvB.out.cell 0 (by simp)
  have hv1 := HvB.out.cell 1 (by simp)
  have hv2 := HvB.out.cell 2 (by simp)
  have hv3 := HvB.out.cell 3 (by simp)
  have hv4 := HvB.out.cell 4 (by simp)
  have hv5 := HvB.out.cell 5 (by simp)
  have hv6 := HvB.out.cell 6 (by simp)
  have hv7 := HvB.out.cell 7 (by simp)
  have hv8 := HvB.out.cell 8 (by simp)
  rw [← hW11] at hm0 hn0 hu0 hu1 hu2 hu3 hu4 hu5 hu6 hu7 hu8 hv0 hv1 hv2 hv3 hv4 hv5 hv6 hv7 hv8
  clear hy E10 E9 E8 E7 E6 E5 E4 E3 E2 hYb hW11
  have HSM := Lib.hid (show Calls Tryd.prog 14 #[.agg #[.slice (some ⟨P, 0, none⟩) 1 1, .slice (some ⟨P, 0, none⟩) 1 1, .int .i64 0, .slice none 0 0, .int .u32 1, .int .i64 (-1), .int .i64 200, .slice none 0 0, .bool false], .agg #[.slice gp gn gc, .slice rp rn rc, .int .i64 0, .slice pp pn pc, .int .u32 1, .int .i64 (-1), .int .i64 200, .slice cp cn cc, .bool false]] W11 _ from rsameU_yes lvU ⟨some ⟨P, 0, none⟩, 1, 1, some ⟨P, 0, none⟩, 1, 1, Loc.zero⟩ ⟨gp, gn, gc, rp, rn, rc, ⟨pp, pn, pc, cp, cn, cc⟩⟩ W11 HUP.out HVP.out)
  go_wp2_with fail
  rw [HW11.out, HYb.out]
  refine HSM.out.mono ?_
  rintro e w12 ⟨rfl, hb⟩
  have HB12 := Lib.hid hb
  have hkk := (HkB.out.next hb).cell 1 (by simp)
  have hT : (convert 32 9 (.slice q4 4 c4)).run Tryd.prog w12 = .ok (.string ⟨#[0, 0, 0, 0]⟩) w12 := run_text (xs := [0, 0, 0, 0]) (HkO.out.below hb) c4
  have hw0 := (HwB.out.next hb).cell 0 (by simp)
  have hw1 := (HwB.out.next hb).cell 1 (by simp)
  have hx0 := (HxB.out.next hb).cell 0 (by simp)
  have hs8 := (HsB.out.next hb).cell 8 (by simp)
  have hs0 := (HsB.out.next hb).cell 0 (by simp)
  have hy1 := (HyB.out.next hb).cell 1 (by simp)
  have gu0 := (HuB.out.next hb).cell 0 (by simp)
  have gu1 := (HuB.out.next hb).cell 1 (by simp)
  have gu2 := (HuB.out.next hb).cell 2 (by simp)
  have gu3 := (HuB.out.next hb).cell 3 (by simp)
  have gu4 := (HuB.out.next hb).cell 4 (by simp)
  have gu5 := (HuB.out.next hb).cell 5 (by simp)
  have gu6 := (HuB.out.next hb).cell 6 (by simp)
  have gu7 := (HuB.out.next hb).cell 7 (by simp)
  have gu8 := (HuB.out.next hb).cell 8 (by simp)
  have gv0 := (HvB.out.next hb).cell 0 (by simp)
  have gv1 := (HvB.out.next hb).cell 1 (by simp)
  have gv2 := (HvB.out.next hb).cell 2 (by simp)
  have gv3 := (HvB.out.next hb).cell 3 (by simp)
  have gv4 := (HvB.out.next hb).cell 4 (by simp)
  have gv5 := (HvB.out.next hb).cell 5 (by simp)
  have gv6 := (HvB.out.next hb).cell 6 (by simp)
  have gv7 := (HvB.out.next hb).cell 7 (by simp)
  have gv8 := (HvB.out.next hb).cell 8 (by simp)
  have HSU := Lib.hid (show Calls Tryd.prog 26 #[.agg #[.slice (some ⟨P, 0, none⟩) 1 1, .slice (some ⟨P, 0, none⟩) 1 1, .int .i64 0, .slice none 0 0, .int .u32 1, .int .i64 (-1), .int .i64 200, .slice none 0 0, .bool false], .agg #[.slice gp gn gc, .slice rp rn rc, .int .i64 0, .slice pp pn pc, .int .u32 1, .int .i64 (-1), .int .i64 200, .slice cp cn cc, .bool false]] w12 _ from sameU_yes lvU ⟨some ⟨P, 0, none⟩, 1, 1, some ⟨P, 0, none⟩, 1, 1, Loc.zero⟩ ⟨gp, gn, gc, rp, rn, rc, ⟨pp, pn, pc, cp, cn, cc⟩⟩ w12 (HUP.out.below hb) (HVP.out.below hb))
  clear hb HSM hm0 hn0 hu0 hu1 hu2 hu3 hu4 hu5 hu6 hu7 hu8 hv0 hv1 hv2 hv3 hv4 hv5 hv6 hv7 hv8
  go_wp2_with fail
  refine HSU.out.mono ?_
  rintro e w13 ⟨rfl, hb⟩
  have hb := bt HB12.out hb
  have HB13 := Lib.hid hb
  have u0 := (HuB.out.next hb).cell 0 (by simp)
  have u1 := (HuB.out.next hb).cell 1 (by simp)
  have u2 := (HuB.out.next hb).cell 2 (by simp)
  have u3 := (HuB.out.next hb).cell 3 (by simp)
  have u4 := (HuB.out.next hb).cell 4 (by simp)
  have u5 := (HuB.out.next hb).cell 5 (by simp)
  have u6 := (HuB.out.next hb).cell 6 (by simp)
  have u7 := (HuB.out.next hb).cell 7 (by simp)
  have u8 := (HuB.out.next hb).cell 8 (by simp)
  have HFT := Lib.hid (show Calls Tryd.prog 25 #[.slice (some ⟨P, 0, none⟩) 1 1, .agg #[.int .i64 0, .slice none 0 0, .int .u32 1, .int .i64 (-1), .int .i64 200, .slice none 0 0], .bool true, .bool false] w13 fun e w' => e = .returned (.int .i64 1) ∧ Below w13.heap.size w13 w' from by
    have := fit_any lvW Loc.zero lvX (some ⟨P, 0, none⟩) 1 1 true false w13 (HTT.out.below hb) (HUP.out.below hb).at_ lv_okA (HNN.out.below hb) (by omega) lv_size
    rw [lv_fit] at this
    exact this)
  clear hb HSU hkk hT hw0 hw1 hx0 hs8 hs0 hy1 gu0 gu1 gu2 gu3 gu4 gu5 gu6 gu7 gu8 gv0 gv1 gv2 gv3 gv4 gv5 gv6 gv7 gv8
  go_wp2_with fail
  refine HFT.out.mono ?_
  rintro e w14 ⟨rfl, hb⟩
  have hb := bt HB13.out hb
  have HB14 := Lib.hid hb
  have z0 := (HsB.out.next hb).cell 0 (by simp)
  have z1 := (HsB.out.next hb).cell 1 (by simp)
  have z2 := (HsB.out.next hb).cell 2 (by simp)
  have z3 := (HsB.out.next hb).cell 3 (by simp)
  have z4 := (HsB.out.next hb).cell 4 (by simp)
  have z5 := (HsB.out.next hb).cell 5 (by simp)
  have z6 := (HsB.out.next hb).cell 6 (by simp)
  have z7 := (HsB.out.next hb).cell 7 (by simp)
  have z8 := (HsB.out.next hb).cell 8 (by simp)
  have HCK := Lib.hid (show Calls Tryd.prog 11 #[.agg #[.slice gp2 1 gc2, .slice rp2 rn2 rc2, .int .i64 0, .slice pp2 pn2 pc2, .int .u32 0, .int .i64 0, .int .i64 0, .slice cp2 cn2 cc2, .bool true], .bool true, .bool false] w14 fun e w' => e = .returned (.int .i64 70) ∧ Below w14.heap.size w14 w' from by
    have := checkU_any lvT ⟨gp2, 1, gc2, rp2, rn2, rc2, ⟨pp2, pn2, pc2, cp2, cn2, cc2⟩⟩ true false w14 (HTT.out.below hb) (HSP.out.below hb)
    rw [lv_no] at this
    exact this)
  clear hb HFT u0 u1 u2 u3 u4 u5 u6 u7 u8
  go_wp2_with fail
  refine HCK.out.mono ?_
  rintro e w15 ⟨rfl, hb⟩
  have HB15 := Lib.hid (bt HB14.out hb)
  clear hb HCK z0 z1 z2 z3 z4 z5 z6 z7 z8
  go_wp2_with fail
  go_ret
  have hvw := HV11.out.trans (HB15.out.mono HV11.out.size)
  have hf := HA.out.trans (hvw.mono (show P ≤ V.heap.size from HP.out ▸ HA.out.size))
  exact ⟨rfl, by rw [HP.out]; exact hf⟩
end Go.Proofs.YtpeagakpmjnelaaDoor.Ax
