/- The document's Get: the walk. -/
import Derived.Test.YtpeagakpmjnelaaDoorUqK
namespace Go.Proofs.YtpeagakpmjnelaaDoor.Ax
open Go.RowKit
set_option maxRecDepth 100000

theorem infoBool : (Tryd.prog.info? 4).map (fun i => (i.zero, i.size, i.bytes)) = some (some (.bool false), 1, 1) := by kernel_rfl
theorem run_seen (w : World) : (Instr.makeSlice 80 (.int .i64 256) (.int .i64 256)).run Tryd.prog w = .ok (.slice (some ⟨w.heap.size, 0, none⟩) 256 256) (w.alloc (.cells (madeCells #[.bool false] 256) 4)) := by
  obtain ⟨i, hi, hz, hs, hb⟩ := info_parts infoBool
  have hr := run_make (P := Tryd.prog) w 80 4 i (.bool false) Tryd.underlying80 hi hz .i64 .i64 256 256 (by decide) (by decide) (by rw [hb]; decide) (by decide)
  simp only [hs, Nat.mul_one] at hr
  exact hr
def RGRel (w W : World) (gr : Nat) (four : Bool) (R : Option (At × Int)) (gk : Nat) (wr : World) : Prop :=
  ∃ (a : At) (l : Loc) (th : Int) (ys : List Int) (f : Nat), RGSt w W wr gr a l th (some ys) ∧ th ∈ allTh ∧ InByte ys ∧ ys.length ≤ 1000000 ∧ ys.length < f ∧ getS four f (a, th) ys = R ∧ gk = ys.length
theorem nextV_in {s : Option (List Int)} {n : Int} {L : Nat} (h : ∀ zs, s = some zs → zs.length ≤ L ∧ InByte zs) : ∀ zs, nextV s n = some zs → zs.length ≤ L ∧ InByte zs := by
  intro zs hz
  unfold nextV at hz
  rcases s with _ | ys
  · simp [okTake] at hz
  · obtain ⟨h1, h2⟩ := h ys rfl
    split at hz
    · simp at hz
      rw [← hz]
      exact ⟨by rw [List.length_drop]; omega, inByte_drop h2 _⟩
    · cases hz
theorem numNext_in {s : Option (List Int)} {n : Int} {L : Nat} (h : ∀ zs, s = some zs → zs.length ≤ L ∧ InByte zs) : ∀ zs, numNext s n = some zs → zs.length ≤ L ∧ InByte zs := by
  intro zs hz
  unfold numNext at hz
  split at hz
  · exact nextV_in h zs hz
  · cases hz
theorem outV_top {s : Option (List Int)} {n : Int} {L : Nat} (h : ∀ zs, s = some zs → zs.length ≤ L) : (outV s n).length ≤ L := by
  unfold outV
  rcases s with _ | ys
  · simp [okTake]
  · have := h ys rfl
    split
    · simp; omega
    · simp
theorem known_six {k : Nat} (h : ¬flagsL.getD k 0 = 0) : k = 1 ∨ k = 2 ∨ k = 3 ∨ k = 4 ∨ k = 5 ∨ k = 8 := by
  have h9 : k < 9 := by
    rcases Nat.lt_or_ge k 9 with h9 | h9
    · exact h9
    · exact absurd (flags_far h9) h
  have : k = 0 ∨ k = 1 ∨ k = 2 ∨ k = 3 ∨ k = 4 ∨ k = 5 ∨ k = 6 ∨ k = 7 ∨ k = 8 := by omega
  rcases this with rfl | rfl | rfl | rfl | rfl | rfl | rfl | rfl | rfl
  all_goals first | (simp; done) | exact absurd rfl h
structure ROut (w wr : World) : Prop where
  out : Blk wr w.heap.size 27 zerosA
  bel : Below w.heap.size w wr
theorem seen_start : ∀ j, j < 256 → seenF 0 j = .bool false := by
  intro j _
  have key : ∀ j ∈ List.range 9, seenB 0 j = false := by decide +kernel
  unfold seenF
  by_cases h : j < 9
  · rw [key j (by simpa using h)]; simp
  · simp [h]

set_option maxRecDepth 100000 in
set_option maxHeartbeats 8000000 in
theorem rgetA_any (four : Bool) (p : Option Addr) (xs : List Int) (n c : Nat) (w : World) (hb : BytesAt w p xs) (hn : xs.length = n) (hl : n ≤ 1000000) :
    Calls Tryd.prog 17 #[.slice p n c, .bool four] w fun e w' => GetTo w w' e (getA xs four) := by
  obtain ⟨V, hV⟩ : ∃ V, ((w.alloc (.cells #[.int .i64 0, .slice none 0 0, .int .u32 0, .int .i64 0, .int .i64 0, .slice none 0 0] 27)).alloc (.cells #[.int .i64 0, .slice none 0 0, .int .u32 0, .int .i64 (-1), .int .i64 (-1), .slice none 0 0] 27)).alloc (.cells (madeCells #[.bool false] 256) 4) = V := ⟨_, rfl⟩
  have hvs : V.heap.size = w.heap.size + 1 + 1 + 1 := by rw [← hV]; simp
  have hbl : Below w.heap.size w V := by rw [← hV]; exact (two_below _ _ _).alloc (by simp; omega) _
  have hout : Blk V w.heap.size 27 zerosA := by rw [← hV]; exact ((Blk.new w 27 zerosA).alloc _).alloc _
  have hat : Blk V (w.heap.size + 1) 27 (atL At.start ⟨none, 0, 0, none, 0, 0⟩) := by
    rw [← hV, ← sz_alloc w (.cells #[.int .i64 0, .slice none 0 0, .int .u32 0, .int .i64 0, .int .i64 0, .slice none 0 0] 27)]
    exact (Blk.new _ 27 (atL At.start ⟨none, 0, 0, none, 0, 0⟩)).alloc _
  have hseen : V.rowIs (w.heap.size + 2) 4 256 (seenF 0) := by
    rw [← hV, show w.heap.size + 2 = ((w.alloc (.cells #[.int .i64 0, .slice none 0 0, .int .u32 0, .int .i64 0, .int .i64 0, .slice none 0 0] 27)).alloc (.cells #[.int .i64 0, .slice none 0 0, .int .u32 0, .int .i64 (-1), .int .i64 (-1), .slice none 0 0] 27)).heap.size by simp]
    exact World.rowIs.congr (World.rowIs_made _ (.bool false) 256 4) (fun j hj => (seen_start j hj).symm)
  have E1 := run_seen
  have hol := Own.lit V V.heap.size [] (fun i hi => by simp at hi) (by simp) (Nat.le_refl _)
  have hyv := (hb.below hbl).below (new_below V (.cells #[] 5))
  rw [hvs] at hol
  have HOL := Lib.hid (show Own (V.alloc (.cells #[] 5)) (w.heap.size + 1 + 1 + 1) (some ⟨w.heap.size + 1 + 1 + 1, 0, none⟩) 0 [] from hol)
  have HYV := Lib.hid hyv
  have HN := Lib.hid hn
  have HX := Lib.hid hb.1
  have HVS := Lib.hid hvs
  have HBL := Lib.hid hbl
  have HOUT := Lib.hid hout
  have HAT := Lib.hid hat
  have HSEEN := Lib.hid hseen
  have HV := Lib.hid hV
  obtain ⟨A, hA⟩ : ∃ A, getA xs four = A := ⟨_, rfl⟩
  obtain ⟨R, hR⟩ : ∃ R, getS four (xs.length + 1) (At.start, 0) xs = R := ⟨_, rfl⟩
  rw [hA]
  have HA := Lib.hid (show A = finA R from by rw [← hA, ← hR]; rfl)
  have HR := Lib.hid hR
  have HBX := Lib.hid (show w.heap.size + 1 + 1 + 1 ≤ (V.alloc (.cells #[] 5)).heap.size by simp; omega)
  clear hb hn hV hvs hbl hout hat hseen hol hyv hA hR
  go_enter Tryd.func17, Tryd.ntmps17
  go_wp2_with (rw [HV.out]; refine wpList_appo (o := ⟨some 18, _, _, _, _, _⟩) (by rfl) (.tmp 16) (.tmp 17) (by rfl) (w.heap.size + 1 + 1 + 1) (some ⟨w.heap.size + 1 + 1 + 1, 0, none⟩) 0 [] HOL.out 0 (by rfl) (by rfl) p n c xs HYV.out HN.out (by rfl) n (by omega) (by omega) HBX.out ?_; intro p3 c3 w3 hO3 hB3 hG3)
  have hb3 : Below V.heap.size V w3 := (new_below V (.cells #[] 5)).trans (by rw [HVS.out]; exact hB3.out)
  obtain ⟨W, hW⟩ : ∃ W, w3.alloc (.cells #[.slice p3 n c3, .bool false] 83) = W := ⟨_, rfl⟩
  have hnw : Below w3.heap.size w3 W := by rw [← hW]; exact new_below _ _
  have hws : W.heap.size = w3.heap.size + 1 := by rw [← hW]; simp
  have hrd : RRel W w3.heap.size (some xs) := by
    have ho : Own w3 (w.heap.size + 1 + 1 + 1) p3 c3 xs := hO3.out
    refine ⟨xs, ⟨p3, c3, ?_, ho.bytes.below hnw, ho.le, ho.max, fun b hb => (ho.block_lt hb).2⟩, fun ys hy => Option.some.inj hy⟩
    rw [← hW, HN.out]; exact Blk.new _ _ _
  have HG0 := Lib.hid (show RGSt w W W w3.heap.size At.start ⟨none, 0, 0, none, 0, 0⟩ 0 (some xs) from
    ⟨⟨(HAT.out.next hb3).next hnw, PathOwn.nil _ _, World.ownsRow_nil _ _ _ _, by decide, by decide⟩, World.rowIs.of_block HSEEN.out (by rw [hnw.block _ (Nat.lt_of_lt_of_le HSEEN.out.lt hb3.size), hb3.block _ HSEEN.out.lt]), (HOUT.out.next hb3).next hnw, hrd, (HBL.out.trans (hb3.mono HBL.out.size)).trans (hnw.mono (Nat.le_trans HBL.out.size hb3.size)), Nat.le_refl _⟩)
  have hgr1 : w.heap.size + 2 < w3.heap.size := by have := hb3.size; have := HVS.out; omega
  have hgr2 : w3.heap.size < W.heap.size := by omega
  have HW := Lib.hid hW
  clear hb3 hnw hws hrd hW hO3 hB3 hG3 HOL HYV HOUT HAT HSEEN HV HBX E1
  go_wp2_with fail
  rw [HW.out]
  obtain ⟨gr, hgr⟩ : ∃ gr, w3.heap.size = gr := ⟨_, rfl⟩
  rw [hgr] at HG0 hgr1 hgr2 ⊢
  clear hgr
  go_loopg [9] xs.length (fun k _ wr => RGRel w W gr four R k wr)
  case atStart => exact ⟨At.start, _, 0, xs, _, HG0.out, by decide, HX.out, by rw [HN.out]; exact hl, Nat.lt_succ_self _, HR.out, rfl⟩
  case round =>
    obtain ⟨a, l, th, ys, f, hst, hth, hib, hyl, hf, hp, hk⟩ := hrel
    have HP := Lib.hid hp
    have HTH := Lib.hid hth
    have G0 := Lib.hid hst
    have HL := Lib.hid (rleft_rel hst.rd)
    clear hst hth hp HG0 HR
    rcases ys with _ | ⟨x, t⟩
    · clear hk hib hyl
      have c1 := rbad_cell G0.out.rd
      rw [show (some ([] : List Int)).isNone = false from rfl] at c1
      have s1 : wr.cell? ⟨w.heap.size + 1 + 1, 1, none⟩ = some (.bool (seenB th 1)) := G0.out.seen.cell (show 1 < 256 by decide)
      have s2 : wr.cell? ⟨w.heap.size + 1 + 1, 2, none⟩ = some (.bool (seenB th 2)) := G0.out.seen.cell (show 2 < 256 by decide)
      have s3 : wr.cell? ⟨w.heap.size + 1 + 1, 3, none⟩ = some (.bool (seenB th 3)) := G0.out.seen.cell (show 3 < 256 by decide)
      have hwh := whole_seen th HTH.out
      have har : A = if wholeB th then (a, 1) else (At.zero, 2) := by
        obtain ⟨f, rfl⟩ : ∃ f', f = f' + 1 := ⟨f - 1, by omega⟩
        rw [HA.out, ← HP.out]; rfl
      rw [hwh] at har
      obtain ⟨b1, h1⟩ : ∃ b, seenB th 1 = b := ⟨_, rfl⟩
      obtain ⟨b2, h2⟩ : ∃ b, seenB th 2 = b := ⟨_, rfl⟩
      obtain ⟨b3, h3⟩ : ∃ b, seenB th 3 = b := ⟨_, rfl⟩
      rw [h1, h2, h3] at har
      rw [h1] at s1
      rw [h2] at s2
      rw [h3] at s3
      clear hwh h1 h2 h3 hf
      have HAR := Lib.hid har
      clear har
      have O1 := Lib.hid G0.out.out
      have o0 := O1.out.cell 0 (by simp [zerosA])
      have fo0 := O1.out.f 0
      have o1 := O1.out.cell 1 (by simp [zerosA])
      have fo1 := O1.out.f 1
      have o2 := O1.out.cell 2 (by simp [zerosA])
      have fo2 := O1.out.f 2
      have o3 := O1.out.cell 3 (by simp [zerosA])
      have fo3 := O1.out.f 3
      have o4 := O1.out.cell 4 (by simp [zerosA])
      have fo4 := O1.out.f 4
      have o5 := O1.out.cell 5 (by simp [zerosA])
      have fo5 := O1.out.f 5
      simp only [zerosA, List.getD_cons_zero, List.getD_cons_succ] at o0 o1 o2 o3 o4 o5
      have K1 := Lib.hid G0.out.atA.blk
      obtain ⟨lpp, lpn, lpc, lcp, lcn, lcc⟩ := l
      obtain ⟨ao, ap, an, am, ar, ac⟩ := a
      have k0 := K1.out.cell 0 (by simp [atL])
      have k1 := K1.out.cell 1 (by simp [atL])
      have k2 := K1.out.cell 2 (by simp [atL])
      have k3 := K1.out.cell 3 (by simp [atL])
      have k4 := K1.out.cell 4 (by simp [atL])
      have k5 := K1.out.cell 5 (by simp [atL])
      simp only [atL, List.getD_cons_zero, List.getD_cons_succ] at k0 k1 k2 k3 k4 k5
      go_wp2_with fail
      refine HL.out.mono ?_; rintro e w2 ⟨rfl, rfl⟩
      rw [show leftV (some ([] : List Int)) = 0 from rfl]
      cases b1
      · have HAR := Lib.hid (show A = (At.zero, 2) from HAR.out)
        go_wp2_with fail
        refine bodyPost_ret (v := .tuple #[.agg #[.int .i64 0, .slice none 0 0, .int .u32 0, .int .i64 0, .int .i64 0, .slice none 0 0], .int .i64 2]) (by simp [results, Tryd.results17, go_sem, o0, o1, o2, o3, o4, o5]) rfl ?_
        rw [HAR.out]
        exact ⟨⟨none, 0, 0, none, 0, 0⟩, rfl, zero_at _, below6 G0.out.bel (Nat.le_refl _) _ _ _ _ _ _⟩
      · cases b2
        · have HAR := Lib.hid (show A = (At.zero, 2) from HAR.out)
          go_wp2_with fail
          refine bodyPost_ret (v := .tuple #[.agg #[.int .i64 0, .slice none 0 0, .int .u32 0, .int .i64 0, .int .i64 0, .slice none 0 0], .int .i64 2]) (by simp [results, Tryd.results17, go_sem, o0, o1, o2, o3, o4, o5]) rfl ?_
          rw [HAR.out]
          exact ⟨⟨none, 0, 0, none, 0, 0⟩, rfl, zero_at _, below6 G0.out.bel (Nat.le_refl _) _ _ _ _ _ _⟩
        · cases b3
          · have HAR := Lib.hid (show A = (At.zero, 2) from HAR.out)
            go_wp2_with fail
            refine bodyPost_ret (v := .tuple #[.agg #[.int .i64 0, .slice none 0 0, .int .u32 0, .int .i64 0, .int .i64 0, .slice none 0 0], .int .i64 2]) (by simp [results, Tryd.results17, go_sem, o0, o1, o2, o3, o4, o5]) rfl ?_
            rw [HAR.out]
            exact ⟨⟨none, 0, 0, none, 0, 0⟩, rfl, zero_at _, below6 G0.out.bel (Nat.le_refl _) _ _ _ _ _ _⟩
          · have HAR := Lib.hid (show A = (⟨ao, ap, an, am, ar, ac⟩, 1) from HAR.out)
            go_wp2_with fail
            refine bodyPost_ret (v := .tuple #[.agg #[.int .i64 ao, .slice lpp lpn lpc, .int .u32 an, .int .i64 am, .int .i64 ar, .slice lcp lcn lcc], .int .i64 1]) (by simp [results, Tryd.results17, go_sem, o0, o1, o2, o3, o4, o5]) rfl ?_
            rw [HAR.out]
            exact ⟨⟨lpp, lpn, lpc, lcp, lcn, lcc⟩, rfl, at_of (G0.out.atA.path.past G0.out.out (by decide) (by decide) (gb6 _ _ _ _ _ _ _ _)) (row_past G0.out.atA.comms G0.out.out (by decide) (gb6 _ _ _ _ _ _ _ _)) G0.out.atA.n0 G0.out.atA.n1, below6 G0.out.bel (Nat.le_refl _) _ _ _ _ _ _⟩
    · obtain ⟨f, rfl⟩ : ∃ f', f = f' + 1 := ⟨f - 1, by omega⟩
      obtain ⟨x0, x1⟩ := inByte_cons hib
      have HTB := Lib.hid (inByte_tail hib)
      have HEV := Lib.hid (getS_read four f (a, th) x t (inByte_tail hib))
      have hkl : gk = t.length + 1 := hk
      have hfl : t.length + 1 < f + 1 := by simpa using hf
      have hyl2 : t.length + 1 ≤ 1000000 := by simpa using hyl
      have h1 := rnum_any wr gr (some (x :: t)) 1 G0.out.rd (fun zs hz => by obtain rfl := Option.some.inj hz; simp; omega)
      rw [(numV_one x t).1, (numV_one x t).2] at h1
      have HN1 := Lib.hid h1
      have HWD := Lib.hid (wide_div x x0 x1)
      have HLV := Lib.hid (show leftV (some (x :: t)) = t.length + 1 from rfl)
      clear hk hf hib hyl h1
      go_wp2_with fail
      refine HL.out.mono ?_; rintro e w2 ⟨rfl, rfl⟩
      rw [HLV.out]
      go_wp2_with fail
      refine HN1.out.mono ?_; rintro e w2 ⟨rfl, hr, hg⟩
      have G2 := Lib.hid (G0.out.num hr hg hgr1 hgr2)
      have hle : ∀ zs, some t = some zs → zs.length ≤ 1000000 := fun zs hz => by obtain rfl := Option.some.inj hz; omega
      have HLE2 := Lib.hid (numNext_le2 (wide := 1) hle)
      have HN2 := Lib.hid (rnum_any w2 gr (some t) 1 hr (fun zs hz => by have := hle zs hz; omega))
      obtain ⟨K, hK⟩ : ∃ K, numV (some t) 1 = K := ⟨_, rfl⟩
      obtain ⟨st2, hst2⟩ : ∃ st2, numNext (some t) 1 = st2 := ⟨_, rfl⟩
      have HKB := Lib.hid (show 0 ≤ K ∧ K ≤ 255 from by
        rw [← hK]
        rcases t with _ | ⟨k, r⟩
        · exact ⟨by decide, by decide⟩
        · rw [(numV_one k r).1]; exact inByte_cons HTB.out)
      have HST2 := Lib.hid (show ∀ zs, st2 = some zs → zs.length ≤ t.length ∧ InByte zs from by
        rw [← hst2]; intro zs hz
        rcases t with _ | ⟨k, r⟩
        · rw [show numNext (some []) 1 = none from (numV_no (wide := 1) (xs := []) (by simp)).2] at hz; cases hz
        · rw [(numV_one k r).2] at hz; obtain rfl := Option.some.inj hz; exact ⟨by simp, inByte_tail HTB.out⟩)
      rw [hK, hst2] at HN2 HEV
      rw [hst2] at HLE2
      clear hr hg hle hK hst2 HN1 HL
      go_wp2_with fail
      refine HN2.out.mono ?_; rintro e w3 ⟨rfl, hr, hg⟩
      have G3 := Lib.hid (G2.out.num hr hg hgr1 hgr2)
      have h3 := rnum_any w3 gr st2 (wideOf x : Nat) hr (fun zs hz => by have := HLE2.out zs hz; omega)
      have hst3 := numNext_in (n := (wideOf x : Nat)) HST2.out
      obtain ⟨n3, hn3⟩ : ∃ n3, numV st2 (wideOf x : Nat) = n3 := ⟨_, rfl⟩
      obtain ⟨st3, hs3⟩ : ∃ st3, numNext st2 (wideOf x : Nat) = st3 := ⟨_, rfl⟩
      rw [hn3, hs3] at h3 HEV
      rw [hs3] at hst3
      rw [HWD.out] at h3
      have HN3 := Lib.hid h3
      have HST3 := Lib.hid hst3
      clear hr hg HN2 h3 hn3 hs3 hst3
      go_wp2_with fail
      refine HN3.out.mono ?_; rintro e w4 ⟨rfl, hr, hg⟩
      have G4 := Lib.hid (G3.out.num hr hg hgr1 hgr2)
      have HY := Lib.hid (rbytes_any w4 gr st3 n3 hr (fun zs hz => by have := (HST3.out zs hz).1; omega))
      have hst4 := nextV_in (n := n3) HST3.out
      have hdl := outV_top (n := n3) (fun zs hz => (HST3.out zs hz).1)
      obtain ⟨st4, hs4⟩ : ∃ st4, nextV st3 n3 = st4 := ⟨_, rfl⟩
      obtain ⟨D, hD⟩ : ∃ D, outV st3 n3 = D := ⟨_, rfl⟩
      rw [hs4, hD] at HY HEV
      rw [hs4] at hst4
      rw [hD] at hdl
      have HST4 := Lib.hid hst4
      clear hr hg HN3 hs4 hD hst4
      obtain ⟨kn, hkn⟩ := Int.eq_ofNat_of_zero_le HKB.out.1
      subst hkn
      have hk255 : kn ≤ 255 := by have := HKB.out.2; omega
      rw [Int.toNat_natCast] at HEV
      go_wp2_with fail
      refine HY.out.mono ?_; rintro e w5 ⟨⟨q, cap, rfl, hown⟩, hr, hg⟩
      have G5 := Lib.hid (G4.out.num hr hg hgr1 hgr2)
      have HD := Lib.hid hown
      have c1 := rbad_cell hr
      obtain ⟨dn, hdn⟩ : ∃ dn, D.length = dn := ⟨_, rfl⟩
      rw [hdn] at hdl ⊢
      have HDN := Lib.hid hdn
      have HW4 := Lib.hid (show W.heap.size ≤ w4.heap.size from G4.out.sz)
      clear hr hg hown hdn HY G0 G2 G3 G4
      rcases st4 with _ | ys2
      · rw [show (none : Option (List Int)).isNone = true from rfl] at c1
        have HAR := Lib.hid (show A = (At.zero, 3) from by rw [HA.out, ← HP.out, HEV.out]; rfl)
        clear HEV HP
        have O1 := Lib.hid G5.out.out
        have o0 := O1.out.cell 0 (by simp [zerosA])
        have fo0 := O1.out.f 0
        have o1 := O1.out.cell 1 (by simp [zerosA])
        have fo1 := O1.out.f 1
        have o2 := O1.out.cell 2 (by simp [zerosA])
        have fo2 := O1.out.f 2
        have o3 := O1.out.cell 3 (by simp [zerosA])
        have fo3 := O1.out.f 3
        have o4 := O1.out.cell 4 (by simp [zerosA])
        have fo4 := O1.out.f 4
        have o5 := O1.out.cell 5 (by simp [zerosA])
        have fo5 := O1.out.f 5
        simp only [zerosA, List.getD_cons_zero, List.getD_cons_succ] at o0 o1 o2 o3 o4 o5
        go_wp2_with fail
        refine bodyPost_ret (v := .tuple #[.agg #[.int .i64 0, .slice none 0 0, .int .u32 0, .int .i64 0, .int .i64 0, .slice none 0 0], .int .i64 3]) (by simp [results, Tryd.results17, go_sem, o0, o1, o2, o3, o4, o5]) rfl ?_
        rw [HAR.out]
        exact ⟨⟨none, 0, 0, none, 0, 0⟩, rfl, zero_at _, below6 G5.out.bel (Nat.le_refl _) _ _ _ _ _ _⟩
      · rw [show (some ys2).isNone = false from rfl] at c1
        have HFL := fun u : World => Lib.hid (rflags_any kn u)
        rw [Option.bind_some] at HEV
        go_wp2_with fail
        refine (HFL _).out.mono ?_; rintro e w6 ⟨rfl, rfl⟩
        by_cases hunk : flagsL.getD kn 0 = 0
        · have hfv : flagV kn = -1 := if_pos hunk
          have htk : takeV four (a, th) x kn D = if optB x then some (a, th) else none := by unfold takeV; rw [if_pos hunk]
          rw [htk, opt_ge x x0 x1] at HEV
          rw [hfv]
          by_cases h128 : x < 128
          · have t1 : decide (x < 128) = true := by simpa using h128
            have HAR := Lib.hid (show A = (At.zero, 3) from by rw [HA.out, ← HP.out, HEV.out, t1]; rfl)
            clear HEV HP htk hfv hunk c1
            have O1 := Lib.hid G5.out.out
            have o0 := O1.out.cell 0 (by simp [zerosA])
            have fo0 := O1.out.f 0
            have o1 := O1.out.cell 1 (by simp [zerosA])
            have fo1 := O1.out.f 1
            have o2 := O1.out.cell 2 (by simp [zerosA])
            have fo2 := O1.out.f 2
            have o3 := O1.out.cell 3 (by simp [zerosA])
            have fo3 := O1.out.f 3
            have o4 := O1.out.cell 4 (by simp [zerosA])
            have fo4 := O1.out.f 4
            have o5 := O1.out.cell 5 (by simp [zerosA])
            have fo5 := O1.out.f 5
            simp only [zerosA, List.getD_cons_zero, List.getD_cons_succ] at o0 o1 o2 o3 o4 o5
            go_wp2_with fail
            refine bodyPost_ret (v := .tuple #[.agg #[.int .i64 0, .slice none 0 0, .int .u32 0, .int .i64 0, .int .i64 0, .slice none 0 0], .int .i64 3]) (by simp [results, Tryd.results17, go_sem, o0, o1, o2, o3, o4, o5]) rfl ?_
            rw [HAR.out]
            exact ⟨⟨none, 0, 0, none, 0, 0⟩, rfl, zero_at _, below6 G5.out.bel (Nat.le_refl _) _ _ _ _ _ _⟩
          · have t1 : decide (x < 128) = false := by simpa using h128
            have HEQ := Lib.hid (show getS four f (a, th) ys2 = R from by rw [← HP.out, HEV.out, t1]; rfl)
            clear HEV HP htk hfv hunk c1
            go_wp2_with fail
            go_roundg ys2.length
            case rel => exact ⟨a, l, th, ys2, f, G5.out, HTH.out, (HST4.out ys2 rfl).2, by have := (HST4.out ys2 rfl).1; omega, by have := (HST4.out ys2 rfl).1; omega, HEQ.out, rfl⟩
            case measure => have := (HST4.out ys2 rfl).1; omega
        · have hk6 : kn = 1 ∨ kn = 2 ∨ kn = 3 ∨ kn = 4 ∨ kn = 5 ∨ kn = 8 := known_six hunk
          have hfv : flagV kn = flagsL.getD kn 0 := if_neg hunk
          have htk : takeV four (a, th) x kn D = if seenB th kn then some (a, th) else if baseV x = flagsL.getD kn 0 then (readV four a kn D).map (fun a => (a, setT th kn)) else none := by unfold takeV; rw [if_neg hunk]
          have hfl : 0 ≤ flagsL.getD kn 0 := by rcases hk6 with rfl | rfl | rfl | rfl | rfl | rfl <;> decide
          rw [htk, base_div x x0 x1] at HEV
          rw [hfv]
          obtain ⟨fl, hfl2⟩ : ∃ fl, flagsL.getD kn 0 = fl := ⟨_, rfl⟩
          rw [hfl2] at HEV hfl ⊢
          have t1 : decide (fl < 0) = false := by simp; omega
          have sk : w5.cell? ⟨w.heap.size + 1 + 1, kn, none⟩ = some (.bool (decide (kn < 9) && seenB th kn)) := G5.out.seen.cell (show kn < 256 by omega)
          have sf : w5.frozen? ⟨w.heap.size + 1 + 1, kn, none⟩ = false := G5.out.seen.frozen kn
          have h9 : decide (kn < 9) = true := by simp; omega
          rw [h9, Bool.true_and] at sk
          clear hfv htk hunk hfl2 h9
          -- KNOWN
          rcases hs : seenB th kn with _ | _
          · rw [hs] at sk HEV
            obtain ⟨U, hU⟩ : ∃ U, w5.setCell ⟨w.heap.size + 1 + 1, kn, none⟩ (.bool true) = U := ⟨_, rfl⟩
            have HU := Lib.hid hU
            have G6 := Lib.hid (show RGSt w W U gr a l (setT th kn) (some ys2) from by rw [← hU]; exact G5.out.mark kn hk6 HTH.out hgr1 hgr2)
            have HD6 := Lib.hid (show Own U w4.heap.size q cap D from by rw [← hU]; exact HD.out.setBelow (a := ⟨w.heap.size + 1 + 1, kn, none⟩) (by have := hgr1; have := hgr2; have := HW4.out; show w.heap.size + 1 + 1 < w4.heap.size; omega) (.bool true))
            have HTH6 := Lib.hid (allTh_set th HTH.out kn (by simpa using hk6))
            clear hU
            by_cases hbase : x / 32 * 32 = fl
            · have t2 : (x / 32 * 32 != fl) = false := by simpa using hbase
              have HSET := Lib.hid (rset_any W.heap.size (w.heap.size + 1) a l w4.heap.size kn q D dn cap four U G6.out.atA G6.out.sz HD6.out HDN.out (by omega) hk6)
              have HE2 := Lib.hid (show getS four (f + 1) (a, th) (x :: t) = ((readV four a kn D).map (fun a => (a, setT th kn))).bind (fun s' => getS four f s' ys2) from by rw [HEV.out, if_neg (by decide), if_pos hbase])
              obtain ⟨rv, hrv⟩ : ∃ rv, readV four a kn D = rv := ⟨_, rfl⟩
              rw [hrv] at HSET HE2
              clear hrv HEV
              go_wp2_with fail
              rw [HU.out]
              rcases rv with _ | a2
              · have HAR := Lib.hid (show A = (At.zero, 3) from by rw [HA.out, ← HP.out, HE2.out]; rfl)
                clear HE2 HP sk sf c1
                refine HSET.out.mono ?_; rintro e w7 ⟨rfl, hg⟩
                have O7 := Lib.hid (show ROut w w7 from ⟨G6.out.out.grown (by omega) hg, below_new G6.out.bel hg (by omega) G6.out.bel.size⟩)
                clear hg HSET
                have O1 := Lib.hid O7.out.out
                have o0 := O1.out.cell 0 (by simp [zerosA])
                have fo0 := O1.out.f 0
                have o1 := O1.out.cell 1 (by simp [zerosA])
                have fo1 := O1.out.f 1
                have o2 := O1.out.cell 2 (by simp [zerosA])
                have fo2 := O1.out.f 2
                have o3 := O1.out.cell 3 (by simp [zerosA])
                have fo3 := O1.out.f 3
                have o4 := O1.out.cell 4 (by simp [zerosA])
                have fo4 := O1.out.f 4
                have o5 := O1.out.cell 5 (by simp [zerosA])
                have fo5 := O1.out.f 5
                simp only [zerosA, List.getD_cons_zero, List.getD_cons_succ] at o0 o1 o2 o3 o4 o5
                go_wp2_with fail
                refine bodyPost_ret (v := .tuple #[.agg #[.int .i64 0, .slice none 0 0, .int .u32 0, .int .i64 0, .int .i64 0, .slice none 0 0], .int .i64 3]) (by simp [results, Tryd.results17, go_sem, o0, o1, o2, o3, o4, o5]) rfl ?_
                rw [HAR.out]
                exact ⟨⟨none, 0, 0, none, 0, 0⟩, rfl, zero_at _, below6 O7.out.bel (Nat.le_refl _) _ _ _ _ _ _⟩
              · have HEQ := Lib.hid (show getS four f (a2, setT th kn) ys2 = R from by rw [← HP.out, HE2.out]; rfl)
                clear HE2 HP sk sf c1
                refine HSET.out.mono ?_; rintro e w7 ⟨⟨l2, rfl, hra⟩, hg⟩
                have G7 := Lib.hid (G6.out.put hra hg hgr1)
                clear hg hra HSET
                go_wp2_with fail
                go_roundg ys2.length
                case rel => exact ⟨a2, l2, setT th kn, ys2, f, G7.out, HTH6.out, (HST4.out ys2 rfl).2, by have := (HST4.out ys2 rfl).1; omega, by have := (HST4.out ys2 rfl).1; omega, HEQ.out, rfl⟩
                case measure => have := (HST4.out ys2 rfl).1; omega
            · have t2 : (x / 32 * 32 != fl) = true := by simpa using hbase
              have HAR := Lib.hid (show A = (At.zero, 3) from by rw [HA.out, ← HP.out, HEV.out, if_neg (by decide), if_neg hbase]; rfl)
              clear HEV HP c1
              have O8 := Lib.hid (show ROut w (w5.setCell ⟨w.heap.size + 1 + 1, kn, none⟩ (.bool true)) from by rw [HU.out]; exact ⟨G6.out.out, G6.out.bel⟩)
              clear HU
              have O1 := Lib.hid O8.out.out
              have o0 := O1.out.cell 0 (by simp [zerosA])
              have fo0 := O1.out.f 0
              have o1 := O1.out.cell 1 (by simp [zerosA])
              have fo1 := O1.out.f 1
              have o2 := O1.out.cell 2 (by simp [zerosA])
              have fo2 := O1.out.f 2
              have o3 := O1.out.cell 3 (by simp [zerosA])
              have fo3 := O1.out.f 3
              have o4 := O1.out.cell 4 (by simp [zerosA])
              have fo4 := O1.out.f 4
              have o5 := O1.out.cell 5 (by simp [zerosA])
              have fo5 := O1.out.f 5
              simp only [zerosA, List.getD_cons_zero, List.getD_cons_succ] at o0 o1 o2 o3 o4 o5
              go_wp2_with fail
              refine bodyPost_ret (v := .tuple #[.agg #[.int .i64 0, .slice none 0 0, .int .u32 0, .int .i64 0, .int .i64 0, .slice none 0 0], .int .i64 3]) (by simp [results, Tryd.results17, go_sem, o0, o1, o2, o3, o4, o5]) rfl ?_
              rw [HAR.out]
              exact ⟨⟨none, 0, 0, none, 0, 0⟩, rfl, zero_at _, below6 O8.out.bel (Nat.le_refl _) _ _ _ _ _ _⟩
          · rw [hs] at sk HEV
            have HEQ := Lib.hid (show getS four f (a, th) ys2 = R from by rw [← HP.out, HEV.out]; rfl)
            clear HEV HP c1 sf
            go_wp2_with fail
            go_roundg ys2.length
            case rel => exact ⟨a, l, th, ys2, f, G5.out, HTH.out, (HST4.out ys2 rfl).2, by have := (HST4.out ys2 rfl).1; omega, by have := (HST4.out ys2 rfl).1; omega, HEQ.out, rfl⟩
            case measure => have := (HST4.out ys2 rfl).1; omega
end Go.Proofs.YtpeagakpmjnelaaDoor.Ax
