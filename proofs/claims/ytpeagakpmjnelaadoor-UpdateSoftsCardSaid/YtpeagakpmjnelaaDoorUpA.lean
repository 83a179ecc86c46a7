/- attr: Get, and whose its lists are. -/
import Derived.Test.YtpeagakpmjnelaaDoorAB
namespace Go.Proofs.YtpeagakpmjnelaaDoor.Ax
open Go.RowKit
set_option maxRecDepth 100000
set_option linter.unusedVariables false
set_option linter.unusedSimpArgs false

/-- Attributes whose lists are the call's own. -/
structure AtOwn (w : World) (B : Nat) (a : At) (l : Loc) : Prop where
  intro ::
  path : PathOwn w B l.pp l.pn l.pc a.path
  comms : w.ownsRow B 3 1 (.slice l.cp l.cn l.cc) l.cn (a.comms.map (Value.int .i64))
  n0 : 0 ≤ a.next
  n1 : a.next ≤ 4294967295
theorem AtOwn.at {w : World} {B : Nat} {a : At} {l : Loc} (h : AtOwn w B a l) : AtAt w a l := at_of h.path h.comms h.n0 h.n1
theorem AtOwn.below {w w' : World} {B : Nat} {a : At} {l : Loc} (h : AtOwn w B a l) (hb : Below w.heap.size w w') : AtOwn w' B a l := ⟨h.path.below hb, row_below h.comms hb, h.n0, h.n1⟩
theorem AtOwn.past {w w' : World} {B : Nat} {a : At} {l : Loc} (h : AtOwn w B a l) {g : Nat} {t : TypeId} {vs : List Value} (hb : Blk w g t vs) (h1 : t ≠ 88) (h2 : t ≠ 3) (hg : w.grownBy w' (some g)) : AtOwn w' B a l :=
  ⟨h.path.past hb h1 h2 hg, row_past h.comms hb h2 hg, h.n0, h.n1⟩
theorem zeroOwn (w : World) (B : Nat) : AtOwn w B At.zero ⟨none, 0, 0, none, 0, 0⟩ := ⟨PathOwn.nil _ _, World.ownsRow_nil _ _ _ _, by decide, by decide⟩
def GetOwn (w w' : World) (e : Ending) (r : At × Int) : Prop := ∃ l B, e = .returned (.tuple #[.agg (atL r.1 l).toArray, .int .i64 r.2]) ∧ AtOwn w' B r.1 l ∧ Below w.heap.size w w'
set_option maxRecDepth 100000 in
set_option maxHeartbeats 8000000 in
theorem getO_any (four : Bool) (p : Option Addr) (xs : List Int) (n c : Nat) (w : World) (ht : Tab w) (hb : BytesAt w p xs) (hn : xs.length = n) (hl : n ≤ 1000000) :
    Calls Tryd.prog 65 #[.slice p n c, .bool four] w fun e w' => GetOwn w w' e (getA xs four) := by
  obtain ⟨W, hW⟩ : ∃ W, (w.alloc (.cells #[.int .i64 0, .slice none 0 0, .int .u32 0, .int .i64 0, .int .i64 0, .slice none 0 0] 27)).alloc (.cells #[.int .i64 0, .slice none 0 0, .int .u32 0, .int .i64 (-1), .int .i64 (-1), .slice none 0 0, .int .u64 0, .bool four] 130) = W := ⟨_, rfl⟩
  have hbl : Below w.heap.size w W := by rw [← hW]; exact two_below _ _ _
  have hou : Blk W w.heap.size 27 [.int .i64 0, .slice none 0 0, .int .u32 0, .int .i64 0, .int .i64 0, .slice none 0 0] := by rw [← hW]; exact (Blk.new w 27 [.int .i64 0, .slice none 0 0, .int .u32 0, .int .i64 0, .int .i64 0, .slice none 0 0]).alloc _
  have hhd : Blk W (w.heap.size + 1) 130 [.int .i64 0, .slice none 0 0, .int .u32 0, .int .i64 (-1), .int .i64 (-1), .slice none 0 0, .int .u64 0, .bool four] := by rw [← hW, ← sz_alloc w (.cells #[.int .i64 0, .slice none 0 0, .int .u32 0, .int .i64 0, .int .i64 0, .slice none 0 0] 27)]; exact Blk.new _ 130 [.int .i64 0, .slice none 0 0, .int .u32 0, .int .i64 (-1), .int .i64 (-1), .slice none 0 0, .int .u64 0, .bool four]
  have HF := Lib.hid (show Calls Tryd.prog 31 #[.slice p n c] W fun e w' => NewAt W w' e (fun g => RdAt w' g (some xs)) by subst hn; exact from_any p xs c W (by omega) (hb.below hbl))
  have hg0 : 0 < w.heap.size := World.block_lt_of_cell? w _ (ht 0 (by omega))
  have HBL := Lib.hid hbl
  have HOU := Lib.hid hou
  have HHD := Lib.hid hhd
  have HW := Lib.hid hW
  have HT := Lib.hid ht
  have HWS := Lib.hid (show W.heap.size = w.heap.size + 2 by rw [← hW]; simp)
  obtain ⟨A, hA⟩ : ∃ A, getA xs four = A := ⟨_, rfl⟩
  obtain ⟨R, hR⟩ : ∃ R, getS four (xs.length + 1) (At.start, 0) xs = R := ⟨_, rfl⟩
  rw [hA]
  have HA := Lib.hid (show A = finA R from by rw [← hA, ← hR]; rfl)
  have HR := Lib.hid hR
  have HN := Lib.hid hn
  clear hb hn hW hbl hou hhd ht hA hR
  go_enter Tryd.func65, Tryd.ntmps65
  go_wp2_with fail
  rw [HW.out]
  refine HF.out.mono ?_; rintro e w1 ⟨gr, rfl, hnew, hrd, hbel⟩
  have hgr : w.heap.size + 1 < gr := by have := HWS.out; omega
  have hgl := hrd.lt
  have HG1 := Lib.hid (show GSt w w1 w1 (w.heap.size + 1) gr At.start ⟨none, 0, 0, none, 0, 0⟩ 0 four (some xs) from ⟨⟨HHD.out.next hbel, PathOwn.nil _ _, World.ownsRow_nil _ _ _ _, by decide, by decide⟩, hrd, HOU.out.next hbel, HBL.out.trans (hbel.mono HBL.out.size), Nat.le_refl _⟩)
  clear hrd hbel HF HOU HHD
  go_wp2_with fail
  go_loopg [8] xs.length (fun k _ wr => GetRel w w1 (w.heap.size + 1) gr four R k wr)
  case atStart => exact ⟨At.start, _, 0, xs, _, HG1.out, by decide, by rw [HN.out]; exact hl, Nat.lt_succ_self _, HR.out, rfl⟩
  case round =>
    obtain ⟨a, l, th, ys, f, G, hth, hyl, hf, hp, hk⟩ := hrel
    have HG := Lib.hid G
    have HP := Lib.hid hp
    have HTH := Lib.hid hth
    have HL := Lib.hid (left_any wr gr _ G.rd)
    clear G hp hth HG1 HR
    obtain ⟨f, rfl⟩ : ∃ f', f = f' + 1 := ⟨f - 1, by omega⟩
    match ys, hyl, hf, hk, HP, HG, HL with
    | [], hyl, hf, hk, HP, HG, HL =>
      obtain ⟨t0, t1⟩ := allTh_bd th HTH.out
      have HWH := Lib.hid (whole_any _ _ _ _ _ _ wr HG.out.hd t0 t1)
      have HAR := Lib.hid (show A = if wholeB th then (a, 1) else (At.zero, 2) from by rw [HA.out, ← HP.out]; rfl)
      have O1 := Lib.hid HG.out.out
      have K1 := Lib.hid HG.out.hd.blk
      clear hyl hf hk t0 t1
      have o0 := O1.out.cell 0 (by simp)
      have fo0 := O1.out.f 0
      have o1 := O1.out.cell 1 (by simp)
      have fo1 := O1.out.f 1
      have o2 := O1.out.cell 2 (by simp)
      have fo2 := O1.out.f 2
      have o3 := O1.out.cell 3 (by simp)
      have fo3 := O1.out.f 3
      have o4 := O1.out.cell 4 (by simp)
      have fo4 := O1.out.f 4
      have o5 := O1.out.cell 5 (by simp)
      have fo5 := O1.out.f 5
      obtain ⟨lpp, lpn, lpc, lcp, lcn, lcc⟩ := l
      obtain ⟨ao, ap, an, am, ar, ac⟩ := a
      have k0 := K1.out.cell 0 (by simp [hdL])
      have k1 := K1.out.cell 1 (by simp [hdL])
      have k2 := K1.out.cell 2 (by simp [hdL])
      have k3 := K1.out.cell 3 (by simp [hdL])
      have k4 := K1.out.cell 4 (by simp [hdL])
      have k5 := K1.out.cell 5 (by simp [hdL])
      simp only [hdL, List.getD_cons_zero, List.getD_cons_succ] at k0 k1 k2 k3 k4 k5
      rcases hwh : wholeB th with _ | _
      · rw [hwh] at HWH HAR
        have HAR' := Lib.hid (show A = (At.zero, 2) from HAR.out)
        clear hwh HAR
        go_wp2_with fail
        refine HL.out.mono ?_; rintro e w2 ⟨rfl, rfl⟩
        rw [show leftV (some ([] : List Int)) = 0 from rfl]
        go_wp2_with fail
        refine HWH.out.mono ?_; rintro e w2 ⟨rfl, rfl⟩
        go_wp2_with fail
        refine bodyPost_ret (v := .tuple #[.agg #[.int .i64 0, .slice none 0 0, .int .u32 0, .int .i64 0, .int .i64 0, .slice none 0 0], .int .i64 2]) (by simp [results, Tryd.results65, go_sem, o0, o1, o2, o3, o4, o5]) rfl ?_
        rw [HAR'.out]
        exact ⟨⟨none, 0, 0, none, 0, 0⟩, 0, rfl, zeroOwn _ _, below6 HG.out.bel (Nat.le_refl _) _ _ _ _ _ _⟩
      · rw [hwh] at HWH HAR
        have HAR' := Lib.hid (show A = (⟨ao, ap, an, am, ar, ac⟩, 1) from HAR.out)
        clear hwh HAR
        go_wp2_with fail
        refine HL.out.mono ?_; rintro e w2 ⟨rfl, rfl⟩
        rw [show leftV (some ([] : List Int)) = 0 from rfl]
        go_wp2_with fail
        refine HWH.out.mono ?_; rintro e w2 ⟨rfl, rfl⟩
        go_wp2_with fail
        refine bodyPost_ret (v := .tuple #[.agg #[.int .i64 ao, .slice lpp lpn lpc, .int .u32 an, .int .i64 am, .int .i64 ar, .slice lcp lcn lcc], .int .i64 1]) (by simp [results, Tryd.results65, go_sem, o0, o1, o2, o3, o4, o5]) rfl ?_
        rw [HAR'.out]
        exact ⟨⟨lpp, lpn, lpc, lcp, lcn, lcc⟩, _, rfl, AtOwn.intro (HG.out.hd.path.past HG.out.out (by decide) (by decide) (gb6 _ _ _ _ _ _ _ _)) (row_past HG.out.hd.comms HG.out.out (by decide) (gb6 _ _ _ _ _ _ _ _)) HG.out.hd.n0 HG.out.hd.n1, below6 HG.out.bel (Nat.le_refl _) _ _ _ _ _ _⟩
    | [x], hyl, hf, hk, HP, HG, HL =>
      obtain ⟨x0, x1⟩ := inByte_cons HG.out.rd.inb
      have HN1 := Lib.hid (num1_cons (k := x) (t := []) HG.out.rd)
      have HAR := Lib.hid (show A = (At.zero, 3) from by rw [HA.out, ← HP.out]; rfl)
      clear hyl hf hk
      go_wp2_with fail
      refine HL.out.mono ?_; rintro e w2 ⟨rfl, rfl⟩
      rw [show leftV (some [x]) = 1 from rfl]
      go_wp2_with fail
      refine HN1.out.mono ?_; rintro e w2 ⟨rfl, hr, hg⟩
      have G2 := Lib.hid (HG.out.num hr hg (Nat.lt_succ_self _) hgr hgl)
      have HN2 := Lib.hid (num1_nil hr)
      clear hr hg HN1 HL
      go_wp2_with fail
      refine HN2.out.mono ?_; rintro e w3 ⟨rfl, hr, hg⟩
      have G3 := Lib.hid (G2.out.num hr hg (Nat.lt_succ_self _) hgr hgl)
      have HR3 := Lib.hid hr
      clear hr hg HN2
      rcases hwd : (bits BinOp.and IntKind.i64 x 16 != 0) with _ | _
      · have HWD := Lib.hid (show wideOf x = 1 from by unfold wideOf; rw [hwd]; rfl)
        have HN4 := Lib.hid (num_none 1 HR3.out)
        clear HWD
        go_wp2_with fail
        refine HN4.out.mono ?_; rintro e w4 ⟨rfl, hr, hg⟩
        have G4 := Lib.hid (G3.out.num hr hg (Nat.lt_succ_self _) hgr hgl)
        have HY := Lib.hid (bytes_bad 0 rfl hr)
        clear hr hg HN4
        go_wp2_with fail
        refine HY.out.mono ?_; rintro e w5 ⟨q, rfl, _, _, _, _, _, hr, hg⟩
        have G5 := Lib.hid (G4.out.num hr hg (Nat.lt_succ_self _) hgr hgl)
        have HB5 := Lib.hid (bad_any w5 gr _ hr)
        clear hr hg HY
        go_wp2_with fail
        refine HB5.out.mono ?_; rintro e w6 ⟨rfl, rfl⟩
        have O1 := Lib.hid G5.out.out
        have o0 := O1.out.cell 0 (by simp)
        have fo0 := O1.out.f 0
        have o1 := O1.out.cell 1 (by simp)
        have fo1 := O1.out.f 1
        have o2 := O1.out.cell 2 (by simp)
        have fo2 := O1.out.f 2
        have o3 := O1.out.cell 3 (by simp)
        have fo3 := O1.out.f 3
        have o4 := O1.out.cell 4 (by simp)
        have fo4 := O1.out.f 4
        have o5 := O1.out.cell 5 (by simp)
        have fo5 := O1.out.f 5
        go_wp2_with fail
        refine bodyPost_ret (v := .tuple #[.agg #[.int .i64 0, .slice none 0 0, .int .u32 0, .int .i64 0, .int .i64 0, .slice none 0 0], .int .i64 3]) (by simp [results, Tryd.results65, go_sem, o0, o1, o2, o3, o4, o5]) rfl ?_
        rw [HAR.out]
        exact ⟨⟨none, 0, 0, none, 0, 0⟩, 0, rfl, zeroOwn _ _, below6 G5.out.bel (Nat.le_refl _) _ _ _ _ _ _⟩
      · have HWD := Lib.hid (show wideOf x = 2 from by unfold wideOf; rw [hwd]; rfl)
        have HN4 := Lib.hid (num_none 2 HR3.out)
        clear HWD
        go_wp2_with fail
        refine HN4.out.mono ?_; rintro e w4 ⟨rfl, hr, hg⟩
        have G4 := Lib.hid (G3.out.num hr hg (Nat.lt_succ_self _) hgr hgl)
        have HY := Lib.hid (bytes_bad 0 rfl hr)
        clear hr hg HN4
        go_wp2_with fail
        refine HY.out.mono ?_; rintro e w5 ⟨q, rfl, _, _, _, _, _, hr, hg⟩
        have G5 := Lib.hid (G4.out.num hr hg (Nat.lt_succ_self _) hgr hgl)
        have HB5 := Lib.hid (bad_any w5 gr _ hr)
        clear hr hg HY
        go_wp2_with fail
        refine HB5.out.mono ?_; rintro e w6 ⟨rfl, rfl⟩
        have O1 := Lib.hid G5.out.out
        have o0 := O1.out.cell 0 (by simp)
        have fo0 := O1.out.f 0
        have o1 := O1.out.cell 1 (by simp)
        have fo1 := O1.out.f 1
        have o2 := O1.out.cell 2 (by simp)
        have fo2 := O1.out.f 2
        have o3 := O1.out.cell 3 (by simp)
        have fo3 := O1.out.f 3
        have o4 := O1.out.cell 4 (by simp)
        have fo4 := O1.out.f 4
        have o5 := O1.out.cell 5 (by simp)
        have fo5 := O1.out.f 5
        go_wp2_with fail
        refine bodyPost_ret (v := .tuple #[.agg #[.int .i64 0, .slice none 0 0, .int .u32 0, .int .i64 0, .int .i64 0, .slice none 0 0], .int .i64 3]) (by simp [results, Tryd.results65, go_sem, o0, o1, o2, o3, o4, o5]) rfl ?_
        rw [HAR.out]
        exact ⟨⟨none, 0, 0, none, 0, 0⟩, 0, rfl, zeroOwn _ _, below6 G5.out.bel (Nat.le_refl _) _ _ _ _ _ _⟩
    | x :: k :: t, hyl, hf, hk, HP, HG, HL =>
      obtain ⟨x0, x1⟩ := inByte_cons HG.out.rd.inb
      obtain ⟨k0, k1⟩ := inByte_cons (inByte_tail HG.out.rd.inb)
      obtain ⟨kn, rfl⟩ := Int.eq_ofNat_of_zero_le k0
      have hkn : kn ≤ 255 := by omega
      have HIN := Lib.hid (inByte_tail (inByte_tail HG.out.rd.inb))
      have HN1 := Lib.hid (num1_cons (k := x) (t := (kn : Int) :: t) HG.out.rd)
      have HEV := Lib.hid (show getS four (f + 1) (a, th) (x :: (kn : Int) :: t) = if wideOf x ≤ t.length then (if (getV (t.take (wideOf x))).toNat ≤ (t.drop (wideOf x)).length then (takeV four (a, th) x kn ((t.drop (wideOf x)).take (getV (t.take (wideOf x))).toNat)).bind (fun s' => getS four f s' ((t.drop (wideOf x)).drop (getV (t.take (wideOf x))).toNat)) else none) else none from rfl)
      have HLV := Lib.hid (show leftV (some (x :: (kn : Int) :: t)) = t.length + 2 from rfl)
      have hkl : gk = t.length + 2 := hk
      have hfl : t.length + 1 < f := by simp at hf; omega
      have htl : t.length ≤ 1000000 := by simp at hyl; omega
      clear hyl hf hk k0 k1
      go_wp2_with fail
      refine HL.out.mono ?_; rintro e w2 ⟨rfl, rfl⟩
      rw [HLV.out]
      go_wp2_with fail
      refine HN1.out.mono ?_; rintro e w2 ⟨rfl, hr, hg⟩
      have G2 := Lib.hid (HG.out.num hr hg (Nat.lt_succ_self _) hgr hgl)
      have HN2 := Lib.hid (num1_cons (k := (kn : Int)) (t := t) hr)
      clear hr hg HN1 HL HG
      go_wp2_with fail
      refine HN2.out.mono ?_; rintro e w3 ⟨rfl, hr, hg⟩
      have G3 := Lib.hid (G2.out.num hr hg (Nat.lt_succ_self _) hgr hgl)
      clear hr hg HN2 G2
      rcases hwd : (bits BinOp.and IntKind.i64 x 16 != 0) with _ | _
      · have HWD := Lib.hid (show wideOf x = 1 from by unfold wideOf; rw [hwd]; rfl)
        rw [HWD.out] at HEV
        by_cases hw : 1 ≤ t.length
        · have HN4 := Lib.hid (num_ok 1 1 rfl (by omega) (by omega) hw G3.out.rd)
          have HE1 := Lib.hid (HEV.out.trans (if_pos hw))
          have hvb : 0 ≤ getV (t.take 1) ∧ getV (t.take 1) < 65536 := by
            have := getV_bd t HIN.out 1 hw
            have hp : (256 : Int) ^ 1 ≤ 65536 := by decide
            omega
          obtain ⟨j, hj⟩ := Int.eq_ofNat_of_zero_le hvb.1
          have hj2 : j < 65536 := by omega
          rw [hj] at HN4 HE1
          obtain ⟨r, hr0⟩ : ∃ r, t.drop 1 = r := ⟨_, rfl⟩
          have HRL := Lib.hid (show r.length + 1 = t.length by rw [← hr0, List.length_drop]; omega)
          rw [hr0] at HN4 HE1
          clear HEV hvb hj hr0 hw HWD
          go_wp2_with fail
          refine HN4.out.mono ?_; rintro e w4 ⟨rfl, hr, hg⟩
          have G4 := Lib.hid (G3.out.num hr hg (Nat.lt_succ_self _) hgr hgl)
          clear hr hg HN4 G3
          by_cases hjl : j ≤ r.length
          · have HY := Lib.hid (bytes_ok (j : Int) j rfl hjl G4.out.rd)
            have HE2 := Lib.hid (HE1.out.trans (if_pos (by rw [Int.toNat_natCast]; exact hjl)))
            rw [Int.toNat_natCast] at HE2
            go_wp2_with fail
            refine HY.out.mono ?_; rintro e w5 ⟨q, rfl, hrow, hin, hlen, hq1, hq2, hr, hg⟩
            have G5 := Lib.hid (G4.out.num hr hg (Nat.lt_succ_self _) hgr hgl)
            have HB5 := Lib.hid (bad_any w5 gr _ hr)
            have hqg : q ≠ w.heap.size + 1 := by have := G4.out.sz; omega
            have HTK := Lib.hid (takeA_any w1.heap.size (w.heap.size + 1) a l th x four kn (some ⟨q, 0, none⟩) (r.take j) j j w5 (HT.out.below G5.out.bel) G5.out.hd G5.out.sz (by omega) (fun u hu => (hrow.grown hqg hu).bytes hin) hlen (by omega) HTH.out x0 x1 hkn)
            clear hr hg hrow hin hlen hq1 hq2 hqg HY HE1 G4
            go_wp2_with fail
            refine HB5.out.mono ?_; rintro e w6 ⟨rfl, rfl⟩
            rw [show (some (List.drop j r)).isNone = false from rfl]
            obtain ⟨tk, htk⟩ : ∃ tk, takeV four (a, th) x kn (r.take j) = tk := ⟨_, rfl⟩
            have HTV := Lib.hid htk
            rw [htk] at HTK HE2
            clear htk
            rcases tk with _ | ⟨a', th'⟩
            · have HAR := Lib.hid (show A = (At.zero, 3) from by rw [HA.out, ← HP.out, HE2.out]; rfl)
              go_wp2_with fail
              refine HTK.out.mono ?_; rintro e w7 ⟨rfl, hg⟩
              have HB7 := Lib.hid (below_new G5.out.bel hg (Nat.le_succ _) G5.out.bel.size)
              have O1 := Lib.hid (G5.out.out.grown (Nat.ne_of_lt (Nat.lt_succ_self _)) hg)
              clear hg HTK
              have o0 := O1.out.cell 0 (by simp)
              have fo0 := O1.out.f 0
              have o1 := O1.out.cell 1 (by simp)
              have fo1 := O1.out.f 1
              have o2 := O1.out.cell 2 (by simp)
              have fo2 := O1.out.f 2
              have o3 := O1.out.cell 3 (by simp)
              have fo3 := O1.out.f 3
              have o4 := O1.out.cell 4 (by simp)
              have fo4 := O1.out.f 4
              have o5 := O1.out.cell 5 (by simp)
              have fo5 := O1.out.f 5
              go_wp2_with fail
              refine bodyPost_ret (v := .tuple #[.agg #[.int .i64 0, .slice none 0 0, .int .u32 0, .int .i64 0, .int .i64 0, .slice none 0 0], .int .i64 3]) (by simp [results, Tryd.results65, go_sem, o0, o1, o2, o3, o4, o5]) rfl ?_
              rw [HAR.out]
              exact ⟨⟨none, 0, 0, none, 0, 0⟩, 0, rfl, zeroOwn _ _, below6 HB7.out (Nat.le_refl _) _ _ _ _ _ _⟩
            · have HTH' := Lib.hid (takeV_th hkn HTV.out HTH.out)
              go_wp2_with fail
              refine HTK.out.mono ?_; rintro e w7 ⟨⟨l', rfl, hh⟩, hg⟩
              have G7 := Lib.hid (G5.out.take hh hg (Nat.lt_succ_self _) hgr)
              clear hg hh HTK
              go_wp2_with fail
              go_roundg (r.drop j).length
              case rel => exact ⟨a', l', th', r.drop j, f, G7.out, HTH'.out, by rw [List.length_drop]; have := HRL.out; omega, by rw [List.length_drop]; have := HRL.out; omega, by rw [← HP.out, HE2.out]; rfl, rfl⟩
              case measure => rw [List.length_drop]; have := HRL.out; omega
          · have HY := Lib.hid (bytes_bad (j : Int) (by simp [okTake]; omega) G4.out.rd)
            have HAR := Lib.hid (show A = (At.zero, 3) from by rw [HA.out, ← HP.out, HE1.out, if_neg (by rw [Int.toNat_natCast]; exact hjl)]; rfl)
            go_wp2_with fail
            refine HY.out.mono ?_; rintro e w5 ⟨q, rfl, _, _, _, _, _, hr, hg⟩
            have G5 := Lib.hid (G4.out.num hr hg (Nat.lt_succ_self _) hgr hgl)
            have HB5 := Lib.hid (bad_any w5 gr _ hr)
            clear hr hg HY HE1
            go_wp2_with fail
            refine HB5.out.mono ?_; rintro e w6 ⟨rfl, rfl⟩
            have O1 := Lib.hid G5.out.out
            have o0 := O1.out.cell 0 (by simp)
            have fo0 := O1.out.f 0
            have o1 := O1.out.cell 1 (by simp)
            have fo1 := O1.out.f 1
            have o2 := O1.out.cell 2 (by simp)
            have fo2 := O1.out.f 2
            have o3 := O1.out.cell 3 (by simp)
            have fo3 := O1.out.f 3
            have o4 := O1.out.cell 4 (by simp)
            have fo4 := O1.out.f 4
            have o5 := O1.out.cell 5 (by simp)
            have fo5 := O1.out.f 5
            go_wp2_with fail
            refine bodyPost_ret (v := .tuple #[.agg #[.int .i64 0, .slice none 0 0, .int .u32 0, .int .i64 0, .int .i64 0, .slice none 0 0], .int .i64 3]) (by simp [results, Tryd.results65, go_sem, o0, o1, o2, o3, o4, o5]) rfl ?_
            rw [HAR.out]
            exact ⟨⟨none, 0, 0, none, 0, 0⟩, 0, rfl, zeroOwn _ _, below6 G5.out.bel (Nat.le_refl _) _ _ _ _ _ _⟩
        · have HN4 := Lib.hid (num_short 1 1 rfl (by omega) G3.out.rd)
          have HAR := Lib.hid (show A = (At.zero, 3) from by rw [HA.out, ← HP.out, HEV.out, if_neg hw]; rfl)
          clear HEV HWD
          go_wp2_with fail
          refine HN4.out.mono ?_; rintro e w4 ⟨rfl, hr, hg⟩
          have G4 := Lib.hid (G3.out.num hr hg (Nat.lt_succ_self _) hgr hgl)
          have HY := Lib.hid (bytes_bad 0 rfl hr)
          clear hr hg HN4
          go_wp2_with fail
          refine HY.out.mono ?_; rintro e w5 ⟨q, rfl, _, _, _, _, _, hr, hg⟩
          have G5 := Lib.hid (G4.out.num hr hg (Nat.lt_succ_self _) hgr hgl)
          have HB5 := Lib.hid (bad_any w5 gr _ hr)
          clear hr hg HY
          go_wp2_with fail
          refine HB5.out.mono ?_; rintro e w6 ⟨rfl, rfl⟩
          have O1 := Lib.hid G5.out.out
          have o0 := O1.out.cell 0 (by simp)
          have fo0 := O1.out.f 0
          have o1 := O1.out.cell 1 (by simp)
          have fo1 := O1.out.f 1
          have o2 := O1.out.cell 2 (by simp)
          have fo2 := O1.out.f 2
          have o3 := O1.out.cell 3 (by simp)
          have fo3 := O1.out.f 3
          have o4 := O1.out.cell 4 (by simp)
          have fo4 := O1.out.f 4
          have o5 := O1.out.cell 5 (by simp)
          have fo5 := O1.out.f 5
          go_wp2_with fail
          refine bodyPost_ret (v := .tuple #[.agg #[.int .i64 0, .slice none 0 0, .int .u32 0, .int .i64 0, .int .i64 0, .slice none 0 0], .int .i64 3]) (by simp [results, Tryd.results65, go_sem, o0, o1, o2, o3, o4, o5]) rfl ?_
          rw [HAR.out]
          exact ⟨⟨none, 0, 0, none, 0, 0⟩, 0, rfl, zeroOwn _ _, below6 G5.out.bel (Nat.le_refl _) _ _ _ _ _ _⟩
      · have HWD := Lib.hid (show wideOf x = 2 from by unfold wideOf; rw [hwd]; rfl)
        rw [HWD.out] at HEV
        by_cases hw : 2 ≤ t.length
        · have HN4 := Lib.hid (num_ok 2 2 rfl (by omega) (by omega) hw G3.out.rd)
          have HE1 := Lib.hid (HEV.out.trans (if_pos hw))
          have hvb : 0 ≤ getV (t.take 2) ∧ getV (t.take 2) < 65536 := by
            have := getV_bd t HIN.out 2 hw
            have hp : (256 : Int) ^ 2 ≤ 65536 := by decide
            omega
          obtain ⟨j, hj⟩ := Int.eq_ofNat_of_zero_le hvb.1
          have hj2 : j < 65536 := by omega
          rw [hj] at HN4 HE1
          obtain ⟨r, hr0⟩ : ∃ r, t.drop 2 = r := ⟨_, rfl⟩
          have HRL := Lib.hid (show r.length + 2 = t.length by rw [← hr0, List.length_drop]; omega)
          rw [hr0] at HN4 HE1
          clear HEV hvb hj hr0 hw HWD
          go_wp2_with fail
          refine HN4.out.mono ?_; rintro e w4 ⟨rfl, hr, hg⟩
          have G4 := Lib.hid (G3.out.num hr hg (Nat.lt_succ_self _) hgr hgl)
          clear hr hg HN4 G3
          by_cases hjl : j ≤ r.length
          · have HY := Lib.hid (bytes_ok (j : Int) j rfl hjl G4.out.rd)
            have HE2 := Lib.hid (HE1.out.trans (if_pos (by rw [Int.toNat_natCast]; exact hjl)))
            rw [Int.toNat_natCast] at HE2
            go_wp2_with fail
            refine HY.out.mono ?_; rintro e w5 ⟨q, rfl, hrow, hin, hlen, hq1, hq2, hr, hg⟩
            have G5 := Lib.hid (G4.out.num hr hg (Nat.lt_succ_self _) hgr hgl)
            have HB5 := Lib.hid (bad_any w5 gr _ hr)
            have hqg : q ≠ w.heap.size + 1 := by have := G4.out.sz; omega
            have HTK := Lib.hid (takeA_any w1.heap.size (w.heap.size + 1) a l th x four kn (some ⟨q, 0, none⟩) (r.take j) j j w5 (HT.out.below G5.out.bel) G5.out.hd G5.out.sz (by omega) (fun u hu => (hrow.grown hqg hu).bytes hin) hlen (by omega) HTH.out x0 x1 hkn)
            clear hr hg hrow hin hlen hq1 hq2 hqg HY HE1 G4
            go_wp2_with fail
            refine HB5.out.mono ?_; rintro e w6 ⟨rfl, rfl⟩
            rw [show (some (List.drop j r)).isNone = false from rfl]
            obtain ⟨tk, htk⟩ : ∃ tk, takeV four (a, th) x kn (r.take j) = tk := ⟨_, rfl⟩
            have HTV := Lib.hid htk
            rw [htk] at HTK HE2
            clear htk
            rcases tk with _ | ⟨a', th'⟩
            · have HAR := Lib.hid (show A = (At.zero, 3) from by rw [HA.out, ← HP.out, HE2.out]; rfl)
              go_wp2_with fail
              refine HTK.out.mono ?_; rintro e w7 ⟨rfl, hg⟩
              have HB7 := Lib.hid (below_new G5.out.bel hg (Nat.le_succ _) G5.out.bel.size)
              have O1 := Lib.hid (G5.out.out.grown (Nat.ne_of_lt (Nat.lt_succ_self _)) hg)
              clear hg HTK
              have o0 := O1.out.cell 0 (by simp)
              have fo0 := O1.out.f 0
              have o1 := O1.out.cell 1 (by simp)
              have fo1 := O1.out.f 1
              have o2 := O1.out.cell 2 (by simp)
              have fo2 := O1.out.f 2
              have o3 := O1.out.cell 3 (by simp)
              have fo3 := O1.out.f 3
              have o4 := O1.out.cell 4 (by simp)
              have fo4 := O1.out.f 4
              have o5 := O1.out.cell 5 (by simp)
              have fo5 := O1.out.f 5
              go_wp2_with fail
              refine bodyPost_ret (v := .tuple #[.agg #[.int .i64 0, .slice none 0 0, .int .u32 0, .int .i64 0, .int .i64 0, .slice none 0 0], .int .i64 3]) (by simp [results, Tryd.results65, go_sem, o0, o1, o2, o3, o4, o5]) rfl ?_
              rw [HAR.out]
              exact ⟨⟨none, 0, 0, none, 0, 0⟩, 0, rfl, zeroOwn _ _, below6 HB7.out (Nat.le_refl _) _ _ _ _ _ _⟩
            · have HTH' := Lib.hid (takeV_th hkn HTV.out HTH.out)
              go_wp2_with fail
              refine HTK.out.mono ?_; rintro e w7 ⟨⟨l', rfl, hh⟩, hg⟩
              have G7 := Lib.hid (G5.out.take hh hg (Nat.lt_succ_self _) hgr)
              clear hg hh HTK
              go_wp2_with fail
              go_roundg (r.drop j).length
              case rel => exact ⟨a', l', th', r.drop j, f, G7.out, HTH'.out, by rw [List.length_drop]; have := HRL.out; omega, by rw [List.length_drop]; have := HRL.out; omega, by rw [← HP.out, HE2.out]; rfl, rfl⟩
              case measure => rw [List.length_drop]; have := HRL.out; omega
          · have HY := Lib.hid (bytes_bad (j : Int) (by simp [okTake]; omega) G4.out.rd)
            have HAR := Lib.hid (show A = (At.zero, 3) from by rw [HA.out, ← HP.out, HE1.out, if_neg (by rw [Int.toNat_natCast]; exact hjl)]; rfl)
            go_wp2_with fail
            refine HY.out.mono ?_; rintro e w5 ⟨q, rfl, _, _, _, _, _, hr, hg⟩
            have G5 := Lib.hid (G4.out.num hr hg (Nat.lt_succ_self _) hgr hgl)
            have HB5 := Lib.hid (bad_any w5 gr _ hr)
            clear hr hg HY HE1
            go_wp2_with fail
            refine HB5.out.mono ?_; rintro e w6 ⟨rfl, rfl⟩
            have O1 := Lib.hid G5.out.out
            have o0 := O1.out.cell 0 (by simp)
            have fo0 := O1.out.f 0
            have o1 := O1.out.cell 1 (by simp)
            have fo1 := O1.out.f 1
            have o2 := O1.out.cell 2 (by simp)
            have fo2 := O1.out.f 2
            have o3 := O1.out.cell 3 (by simp)
            have fo3 := O1.out.f 3
            have o4 := O1.out.cell 4 (by simp)
            have fo4 := O1.out.f 4
            have o5 := O1.out.cell 5 (by simp)
            have fo5 := O1.out.f 5
            go_wp2_with fail
            refine bodyPost_ret (v := .tuple #[.agg #[.int .i64 0, .slice none 0 0, .int .u32 0, .int .i64 0, .int .i64 0, .slice none 0 0], .int .i64 3]) (by simp [results, Tryd.results65, go_sem, o0, o1, o2, o3, o4, o5]) rfl ?_
            rw [HAR.out]
            exact ⟨⟨none, 0, 0, none, 0, 0⟩, 0, rfl, zeroOwn _ _, below6 G5.out.bel (Nat.le_refl _) _ _ _ _ _ _⟩
        · have HN4 := Lib.hid (num_short 2 2 rfl (by omega) G3.out.rd)
          have HAR := Lib.hid (show A = (At.zero, 3) from by rw [HA.out, ← HP.out, HEV.out, if_neg hw]; rfl)
          clear HEV HWD
          go_wp2_with fail
          refine HN4.out.mono ?_; rintro e w4 ⟨rfl, hr, hg⟩
          have G4 := Lib.hid (G3.out.num hr hg (Nat.lt_succ_self _) hgr hgl)
          have HY := Lib.hid (bytes_bad 0 rfl hr)
          clear hr hg HN4
          go_wp2_with fail
          refine HY.out.mono ?_; rintro e w5 ⟨q, rfl, _, _, _, _, _, hr, hg⟩
          have G5 := Lib.hid (G4.out.num hr hg (Nat.lt_succ_self _) hgr hgl)
          have HB5 := Lib.hid (bad_any w5 gr _ hr)
          clear hr hg HY
          go_wp2_with fail
          refine HB5.out.mono ?_; rintro e w6 ⟨rfl, rfl⟩
          have O1 := Lib.hid G5.out.out
          have o0 := O1.out.cell 0 (by simp)
          have fo0 := O1.out.f 0
          have o1 := O1.out.cell 1 (by simp)
          have fo1 := O1.out.f 1
          have o2 := O1.out.cell 2 (by simp)
          have fo2 := O1.out.f 2
          have o3 := O1.out.cell 3 (by simp)
          have fo3 := O1.out.f 3
          have o4 := O1.out.cell 4 (by simp)
          have fo4 := O1.out.f 4
          have o5 := O1.out.cell 5 (by simp)
          have fo5 := O1.out.f 5
          go_wp2_with fail
          refine bodyPost_ret (v := .tuple #[.agg #[.int .i64 0, .slice none 0 0, .int .u32 0, .int .i64 0, .int .i64 0, .slice none 0 0], .int .i64 3]) (by simp [results, Tryd.results65, go_sem, o0, o1, o2, o3, o4, o5]) rfl ?_
          rw [HAR.out]
          exact ⟨⟨none, 0, 0, none, 0, 0⟩, 0, rfl, zeroOwn _ _, below6 G5.out.bel (Nat.le_refl _) _ _ _ _ _ _⟩
end Go.Proofs.YtpeagakpmjnelaaDoor.Ax
