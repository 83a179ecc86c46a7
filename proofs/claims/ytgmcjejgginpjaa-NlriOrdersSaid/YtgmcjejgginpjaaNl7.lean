/- nlri: the answer's Get. -/
import Derived.Test.YtgmcjejgginpjaaNl6
namespace Go.Proofs.Ytgmcjejgginpjaa
open Go.RowKit

def RNlsTo (w w' : World) (r : Option (List Nl)) (e : Ending) : Prop :=
  match r with
  | some l => ∃ q cap, e = .returned (.tuple #[.slice q l.length cap, .bool true]) ∧ NlsOwn w' w.heap.size q l.length cap l ∧ Below w.heap.size w w'
  | none => e = .returned (.tuple #[.slice none 0 0, .bool false]) ∧ Below w.heap.size w w'
theorem rgetp_n (p : Option Addr) (xs : List Int) (n c : Nat) (w : World) (hb : BytesAt w p xs) (hn : xs.length = n) (hc : n ≤ c) (hm : c ≤ maxLen) :
    Calls Try.prog 30 #[.slice p n c] w fun e w' => RGotOut (gotP xs) e ∧ Below w.heap.size w w' := by
  subst hn
  exact rgetp_any p xs c w hb hc (by unfold maxLen at hm; omega)
theorem rget_4 (p : Option Addr) (xs : List Int) (c : Nat) (w : World) (hl : xs.length = 4) (hb : BytesAt w p xs) :
    Calls Try.prog 29 #[.slice p 4 c] w fun e w' => e = .returned (.int .i64 (getV xs)) ∧ w = w' := by
  have h := rget_any p xs c w (by omega) hb
  rw [hl] at h; exact h
set_option maxRecDepth 100000 in
set_option maxHeartbeats 8000000 in
theorem rgetNl_any (p : Option Addr) (xs : List Int) (n c : Nat) (paths : Bool) (w : World) (hb : BytesAt w p xs) (hn : xs.length = n) (hc : n ≤ c) (hm : c ≤ maxLen) :
    Calls Try.prog 15 #[.slice p n c, .bool paths] w fun e w' => RNlsTo w w' (getNls paths xs) e := by
  obtain ⟨R, hR⟩ : ∃ R, getNls paths xs = R := ⟨_, rfl⟩
  rw [hR]
  have HR := Lib.hid (show R = (getNl paths (n + 1) 0 xs).map ([] ++ ·) from by rw [← hR, ← hn]; unfold getNls; simp)
  have HB0 := Lib.hid hb
  have HN := Lib.hid hn
  clear hb hn hR
  go_enter Try.func15, Try.ntmps15
  go_wp2
  go_loopw [0, 6] (fun b v wr => NGetRel w paths R b v wr) (fun b _ _ => lenV b)
  case atStart => exact ⟨p, xs, n, c, 0, none, 0, n + 1, [], rfl, HN.out, hc, hm, HB0.out, rfl, by omega, NlsOwn.nil _ _, by omega, HR.out, Below.refl _ _⟩
  case round =>
    obtain ⟨q, ys, m, c1, k, lq, lc, f, done, rfl, hm1, hm2, hm3, hY, rfl, hk, hO, hf, hRR, hB⟩ := hrel
    have HY := Lib.hid hY
    have HOW := Lib.hid hO
    have HRR := Lib.hid hRR
    have HB := Lib.hid hB
    have HM := Lib.hid hm1
    obtain ⟨f, rfl⟩ : ∃ f', f = f' + 1 := ⟨f - 1, by omega⟩
    clear hY hO hRR hB
    by_cases h0 : m = 0
    · subst h0
      have HD := Lib.hid (show R = some done from by rw [HRR.out, getNl, if_pos HM.out]; simp)
      have hcap := HOW.out.cap
      clear hm1
      go_wp2
      go_ret2
      have hl := HOW.out.len
      rw [HD.out]
      exact ⟨lq, lc, by rw [hl] <;> rfl, by rw [hl]; exact HOW.out, HB.out⟩
    · have t0 : decide ((0 : Int) < (m : Int)) = true := by simp; omega
      have hpos : 0 < m := by omega
      have HST := Lib.hid (show R = (match firstL paths ys with
        | none => none
        | some (x, s) => if k = 1024 then none else (getNl paths f (k + 1) (ys.drop s)).map (x :: ·)).map (done ++ ·) from by rw [HRR.out, getNl, if_neg (by omega)]; rfl)
      obtain ⟨V, hV⟩ : ∃ V, wr.alloc (.cells #[.int .i64 0, .int .u32 0, .int .i64 0] 41) = V := ⟨_, rfl⟩
      have hbV : Below wr.heap.size wr V := by rw [← hV]; exact newB _ _
      have hKV : Blk V wr.heap.size 41 [.int .i64 0, .int .u32 0, .int .i64 0] := by rw [← hV]; exact Blk.new wr 41 [.int .i64 0, .int .u32 0, .int .i64 0]
      have hVs : wr.heap.size ≤ V.heap.size := hbV.size
      have HV := Lib.hid hV
      obtain ⟨go, hgo⟩ : ∃ go, wr.heap.size = go := ⟨_, rfl⟩
      have HGO := Lib.hid hgo
      rw [hgo] at hKV
      have HKV := Lib.hid hKV
      have HBV := Lib.hid (HB.out.trans (hbV.mono HB.out.size))
      have hYV := HY.out.below HBV.out
      clear hV hgo hKV
      cases paths
      · have hbU := hbV
        have hUs := hVs
        have HGP := Lib.hid (rgetp_n q ys m c1 V hYV hm1 hm2 hm3)
        rcases hg : gotP ys with _ | ⟨v, nn, s⟩
        · rw [hg] at HGP
          unfold RGotOut at HGP
          simp only at HGP
          have HN2 := Lib.hid (show R = none from by rw [HST.out, show firstL false ys = none from by unfold firstL; rw [hg]; rfl]; rfl)
          clear hg h0
          go_wp2_with fail
          rw [HV.out, HGO.out]
          refine HGP.out.mono ?_; rintro e w2 ⟨rfl, hb2⟩
          have HB2 := Lib.hid (HBV.out.trans (hb2.mono HBV.out.size))
          clear hb2
          go_wp2_with fail
          go_ret2
          rw [HN2.out]
          exact ⟨rfl, HB2.out.alloc HB2.out.size _⟩
        · have hsl := gotP_len hg
          have hfl : firstL false ys = some (⟨0, mk v nn, cl nn⟩, s) := by unfold firstL; rw [hg]; rfl
          have had := firstL_addr (HY.out.1) hfl
          rw [hg] at HGP
          unfold RGotOut at HGP
          simp only at HGP
          obtain ⟨A, hA⟩ : ∃ A, mk v nn = A := ⟨_, rfl⟩
          obtain ⟨L, hL⟩ : ∃ L, cl nn = L := ⟨_, rfl⟩
          rw [hA, hL] at HGP hfl had
          have HAD := Lib.hid had
          by_cases hk24 : k = 1024
          · have HN2 := Lib.hid (show R = none from by rw [HST.out, hfl]; simp only; rw [if_pos hk24]; rfl)
            subst hk24
            clear hg hfl h0 hA hL had
            go_wp2_with fail
            rw [HV.out, HGO.out]
            refine HGP.out.mono ?_; rintro e w2 ⟨rfl, hb2⟩
            have HB2 := Lib.hid (HBV.out.trans (hb2.mono HBV.out.size))
            clear hb2
            go_wp2_with fail
            go_ret2
            rw [HN2.out]
            exact ⟨rfl, HB2.out.alloc HB2.out.size _⟩
          · have t1 : decide ((1024 : Int) ≤ (k : Int)) = false := by simp; omega
            have hk2 : k < 1024 := by omega
            have HNX := Lib.hid (show R = (getNl false f (k + 1) (ys.drop (s))).map ((done ++ [⟨0, A, L⟩]) ++ ·) from by
              rw [HST.out, hfl]; simp only; rw [if_neg hk24, Option.map_map]; congr 1; funext z; simp)
            have E9 := fun u => run_cut_l u q m c1 (s : Int) s rfl (by omega)
            obtain ⟨q2, hq2⟩ : ∃ q2, cutP q c1 s = q2 := ⟨_, rfl⟩
            rw [hq2] at E9
            have HY2 := Lib.hid (show BytesAt w q2 (ys.drop (s)) from by have := (HY.out).cutl c1 s (by omega) (by omega); rw [hq2] at this; exact this)
            have HL2 := Lib.hid (show (ys.drop (s)).length = m - s from by rw [List.length_drop]; omega)
            clear hq2 hg hfl h0 hA hL had hk24
            go_wp2_with fail
            rw [HV.out, HGO.out]
            refine HGP.out.mono ?_; rintro e w2 ⟨rfl, hb2⟩
            have HK2 := Lib.hid (HKV.out.next hb2)
            have hb3 := newB w2 (.cells #[.int .u32 A, .int .i64 L] 39)
            have hP := Blk.new w2 39 [.int .u32 A, .int .i64 L]
            have HK3 := Lib.hid (HK2.out.next hb3)
            obtain ⟨w3, hw3⟩ : ∃ w3, w2.alloc (.cells #[.int .u32 A, .int .i64 L] 39) = w3 := ⟨_, rfl⟩
            rw [show w2.alloc (.cells [.int .u32 A, .int .i64 L].toArray 39) = w3 from hw3] at hP
            rw [hw3] at hb3 HK3
            have p0 : w3.cell? ⟨w2.heap.size, 0, none⟩ = some (.int .u32 A) := hP.cell 0 (by simp)
            have p1 : w3.cell? ⟨w2.heap.size, 1, none⟩ = some (.int .i64 L) := hP.cell 1 (by simp)
            have k1 := HK3.out.cell 1 (by simp)
            have k2 := HK3.out.cell 2 (by simp)
            have f1 := HK3.out.f 1
            have f2 := HK3.out.f 2
            simp only [List.getD_cons_zero, List.getD_cons_succ] at k1 k2
            have HKX := Lib.hid ((HK3.out.set 1 (.int .u32 A)).set 2 (.int .i64 L))
            have x0 : ((w3.setCell ⟨go, 1, none⟩ (.int .u32 A)).setCell ⟨go, 2, none⟩ (.int .i64 L)).cell? ⟨go, 0, none⟩ = some (.int .i64 0) := HKX.out.cell 0 (by simp)
            have x1 : ((w3.setCell ⟨go, 1, none⟩ (.int .u32 A)).setCell ⟨go, 2, none⟩ (.int .i64 L)).cell? ⟨go, 1, none⟩ = some (.int .u32 A) := HKX.out.cell 1 (by simp)
            have x2 : ((w3.setCell ⟨go, 1, none⟩ (.int .u32 A)).setCell ⟨go, 2, none⟩ (.int .i64 L)).cell? ⟨go, 2, none⟩ = some (.int .i64 L) := HKX.out.cell 2 (by simp)
            have HW3 := Lib.hid hw3
            have hbx : Below wr.heap.size V ((w3.setCell ⟨go, 1, none⟩ (.int .u32 A)).setCell ⟨go, 2, none⟩ (.int .i64 L)) := (((hb2.trans (hb3.mono hb2.size)).mono hUs).setCell (Nat.le_of_eq HGO.out) _).setCell (Nat.le_of_eq HGO.out) _
            obtain ⟨X, hX⟩ : ∃ X, (w3.setCell ⟨go, 1, none⟩ (.int .u32 A)).setCell ⟨go, 2, none⟩ (.int .i64 L) = X := ⟨_, rfl⟩
            have HXX := Lib.hid hX
            rw [hX] at hbx
            have hb5 := newB X (.cells #[.int .i64 0, .int .u32 A, .int .i64 L] 41)
            have HXK := Lib.hid (show Blk (X.alloc (.cells #[.int .i64 0, .int .u32 A, .int .i64 L] 41)) X.heap.size 41 (nlC ⟨0, A, L⟩) from Blk.new X 41 [.int .i64 0, .int .u32 A, .int .i64 L])
            have hxs : X.heap.size = w3.heap.size := by rw [← hX]; simp
            rw [hxs] at HXK
            have hwx : Below wr.heap.size wr X := hbU.trans hbx
            have HO5 := Lib.hid ((HOW.out.below hwx).below hb5)
            have HB5 := Lib.hid ((HB.out.trans (hwx.mono HB.out.size)).trans (hb5.mono (HB.out.trans (hwx.mono HB.out.size)).size))
            clear hX hw3 hb2 hb3 hP hbx hb5 hwx HKX HK3 HK2
            go_wp2_with (first
              | (rw [HW3.out])
              | (rw [HXX.out]; refine wpList_appn (o := ⟨some 43, _, _, _, _, _⟩) (by rfl) (.tmp 40) (.tmp 42) (by rfl) w.heap.size lq lc k done HO5.out (by rfl) w3.heap.size ⟨0, A, L⟩ HAD.out (by rfl) HXK.out (by omega) HB5.out.size ?_; intro q5 cap5 w5 hO5 hB5))
            go_roundw
            case rel => exact ⟨q2, ys.drop (s), m - s, c1 - s, k + 1, q5, cap5, f, done ++ [⟨0, A, L⟩], rfl, HL2.out, by omega, by omega, HY2.out, rfl, by omega, hO5.out, by omega, HNX.out, HB5.out.trans hB5.out⟩
            case measure => simp [lenV]; omega
      · by_cases h4 : m < 4
        · have t4 : decide ((m : Int) < 4) = true := by simp; omega
          have HN2 := Lib.hid (show R = none from by rw [HST.out, show firstL true ys = none from by unfold firstL; rw [if_pos rfl, if_pos (by omega)]]; rfl)
          clear h0
          go_wp2_with fail
          rw [HV.out]
          go_ret2
          rw [HN2.out]
          exact ⟨rfl, HBV.out⟩
        · have t4 : decide ((m : Int) < 4) = false := by simp; omega
          have hqx : BytesAt w (cutP q c1 4) (ys.drop 4) := HY.out.cutl c1 4 (by omega) (by omega)
          have hcx : BytesAt V (cutP q c1 0) (ys.take 4) := by
            have := (HY.out.below HBV.out).cut c1 0 4 (Nat.zero_le _) (by omega) (by omega)
            simpa using this
          have hmx : (ys.drop 4).length = m - 4 := by rw [List.length_drop, hm1]
          have hgt := rget_4 (cutP q c1 0) (ys.take 4) c1 V (by rw [List.length_take]; omega) hcx
          obtain ⟨I, hI⟩ : ∃ I, getV (ys.take 4) = I := ⟨_, rfl⟩
          rw [hI] at hgt
          have HID := Lib.hid hI
          have HGT := Lib.hid hgt
          have E0 := fun u => run_cut_h u q m c1 4 4 rfl (by omega)
          have E1 := fun u => run_cut_l u q m c1 4 4 rfl (by omega)
          obtain ⟨q0, hq0⟩ : ∃ q0, cutP q c1 0 = q0 := ⟨_, rfl⟩
          obtain ⟨qx, hq4⟩ : ∃ qx, cutP q c1 4 = qx := ⟨_, rfl⟩
          rw [hq0] at E0 HGT
          rw [hq4] at E1 hqx
          have k0 := HKV.out.cell 0 (by simp)
          have f0 := HKV.out.f 0
          simp only [List.getD_cons_zero] at k0
          have HKU := Lib.hid (show Blk (V.setCell ⟨go, 0, none⟩ (.int .i64 I)) go 41 [.int .i64 I, .int .u32 0, .int .i64 0] from HKV.out.set 0 (.int .i64 I))
          have hbU : Below wr.heap.size wr (V.setCell ⟨go, 0, none⟩ (.int .i64 I)) := hbV.setCell (Nat.le_of_eq HGO.out) _
          obtain ⟨U, hU⟩ : ∃ U, V.setCell ⟨go, 0, none⟩ (.int .i64 I) = U := ⟨_, rfl⟩
          rw [hU] at hbU HKU
          have HUU := Lib.hid hU
          have hUs := hbU.size
          have HBU := Lib.hid (HB.out.trans (hbU.mono HB.out.size))
          have HYD := Lib.hid hqx
          clear hcx hgt hI hq0 hq4 hU
          go_wp2_with fail
          rw [HV.out, HGO.out]
          refine HGT.out.mono ?_; rintro e w9 ⟨rfl, rfl⟩
          have HGP := Lib.hid (rgetp_n qx (ys.drop 4) (m - 4) (c1 - 4) U (HYD.out.below HBU.out) hmx (by omega) (by omega))
          rcases hg : gotP (ys.drop 4) with _ | ⟨v, nn, s⟩
          · rw [hg] at HGP
            unfold RGotOut at HGP
            simp only at HGP
            have HN2 := Lib.hid (show R = none from by rw [HST.out, show firstL true ys = none from by unfold firstL; rw [if_pos rfl, if_neg (by omega), hg]; rfl]; rfl)
            clear hg h0
            go_wp2_with fail
            rw [HUU.out]
            refine HGP.out.mono ?_; rintro e w2 ⟨rfl, hb2⟩
            have HB2 := Lib.hid (HBU.out.trans (hb2.mono HBU.out.size))
            clear hb2
            go_wp2_with fail
            go_ret2
            rw [HN2.out]
            exact ⟨rfl, HB2.out.alloc HB2.out.size _⟩
          · have hsl := gotP_len hg
            have hfl : firstL true ys = some (⟨I, mk v nn, cl nn⟩, 4 + s) := by unfold firstL; rw [if_pos rfl, if_neg (by omega), hg, ← HID.out]; rfl
            have had := firstL_addr (HY.out.1) hfl
            rw [hg] at HGP
            unfold RGotOut at HGP
            simp only at HGP
            obtain ⟨A, hA⟩ : ∃ A, mk v nn = A := ⟨_, rfl⟩
            obtain ⟨L, hL⟩ : ∃ L, cl nn = L := ⟨_, rfl⟩
            rw [hA, hL] at HGP hfl had
            have HAD := Lib.hid had
            by_cases hk24 : k = 1024
            · have HN2 := Lib.hid (show R = none from by rw [HST.out, hfl]; simp only; rw [if_pos hk24]; rfl)
              subst hk24
              clear hg hfl h0 hA hL had
              go_wp2_with fail
              rw [HUU.out]
              refine HGP.out.mono ?_; rintro e w2 ⟨rfl, hb2⟩
              have HB2 := Lib.hid (HBU.out.trans (hb2.mono HBU.out.size))
              clear hb2
              go_wp2_with fail
              go_ret2
              rw [HN2.out]
              exact ⟨rfl, HB2.out.alloc HB2.out.size _⟩
            · have t1 : decide ((1024 : Int) ≤ (k : Int)) = false := by simp; omega
              have hk2 : k < 1024 := by omega
              have HNX := Lib.hid (show R = (getNl true f (k + 1) (ys.drop (4 + s))).map ((done ++ [⟨I, A, L⟩]) ++ ·) from by
                rw [HST.out, hfl]; simp only; rw [if_neg hk24, Option.map_map]; congr 1; funext z; simp)
              have E9 := fun u => run_cut_l u qx (m - 4) (c1 - 4) (s : Int) s rfl (by omega)
              obtain ⟨q2, hq2⟩ : ∃ q2, cutP qx (c1 - 4) s = q2 := ⟨_, rfl⟩
              rw [hq2] at E9
              have HY2 := Lib.hid (show BytesAt w q2 (ys.drop (4 + s)) from by have := (HYD.out).cutl (c1 - 4) s (by omega) (by omega); rw [hq2, List.drop_drop] at this; exact this)
              have HL2 := Lib.hid (show (ys.drop (4 + s)).length = (m - 4) - s from by rw [List.length_drop]; omega)
              clear hq2 hg hfl h0 hA hL had hk24
              go_wp2_with fail
              rw [HUU.out]
              refine HGP.out.mono ?_; rintro e w2 ⟨rfl, hb2⟩
              have HK2 := Lib.hid (HKU.out.next hb2)
              have hb3 := newB w2 (.cells #[.int .u32 A, .int .i64 L] 39)
              have hP := Blk.new w2 39 [.int .u32 A, .int .i64 L]
              have HK3 := Lib.hid (HK2.out.next hb3)
              obtain ⟨w3, hw3⟩ : ∃ w3, w2.alloc (.cells #[.int .u32 A, .int .i64 L] 39) = w3 := ⟨_, rfl⟩
              rw [show w2.alloc (.cells [.int .u32 A, .int .i64 L].toArray 39) = w3 from hw3] at hP
              rw [hw3] at hb3 HK3
              have p0 : w3.cell? ⟨w2.heap.size, 0, none⟩ = some (.int .u32 A) := hP.cell 0 (by simp)
              have p1 : w3.cell? ⟨w2.heap.size, 1, none⟩ = some (.int .i64 L) := hP.cell 1 (by simp)
              have k1 := HK3.out.cell 1 (by simp)
              have k2 := HK3.out.cell 2 (by simp)
              have f1 := HK3.out.f 1
              have f2 := HK3.out.f 2
              simp only [List.getD_cons_zero, List.getD_cons_succ] at k1 k2
              have HKX := Lib.hid ((HK3.out.set 1 (.int .u32 A)).set 2 (.int .i64 L))
              have x0 : ((w3.setCell ⟨go, 1, none⟩ (.int .u32 A)).setCell ⟨go, 2, none⟩ (.int .i64 L)).cell? ⟨go, 0, none⟩ = some (.int .i64 I) := HKX.out.cell 0 (by simp)
              have x1 : ((w3.setCell ⟨go, 1, none⟩ (.int .u32 A)).setCell ⟨go, 2, none⟩ (.int .i64 L)).cell? ⟨go, 1, none⟩ = some (.int .u32 A) := HKX.out.cell 1 (by simp)
              have x2 : ((w3.setCell ⟨go, 1, none⟩ (.int .u32 A)).setCell ⟨go, 2, none⟩ (.int .i64 L)).cell? ⟨go, 2, none⟩ = some (.int .i64 L) := HKX.out.cell 2 (by simp)
              have HW3 := Lib.hid hw3
              have hbx : Below wr.heap.size U ((w3.setCell ⟨go, 1, none⟩ (.int .u32 A)).setCell ⟨go, 2, none⟩ (.int .i64 L)) := (((hb2.trans (hb3.mono hb2.size)).mono hUs).setCell (Nat.le_of_eq HGO.out) _).setCell (Nat.le_of_eq HGO.out) _
              obtain ⟨X, hX⟩ : ∃ X, (w3.setCell ⟨go, 1, none⟩ (.int .u32 A)).setCell ⟨go, 2, none⟩ (.int .i64 L) = X := ⟨_, rfl⟩
              have HXX := Lib.hid hX
              rw [hX] at hbx
              have hb5 := newB X (.cells #[.int .i64 I, .int .u32 A, .int .i64 L] 41)
              have HXK := Lib.hid (show Blk (X.alloc (.cells #[.int .i64 I, .int .u32 A, .int .i64 L] 41)) X.heap.size 41 (nlC ⟨I, A, L⟩) from Blk.new X 41 [.int .i64 I, .int .u32 A, .int .i64 L])
              have hxs : X.heap.size = w3.heap.size := by rw [← hX]; simp
              rw [hxs] at HXK
              have hwx : Below wr.heap.size wr X := hbU.trans hbx
              have HO5 := Lib.hid ((HOW.out.below hwx).below hb5)
              have HB5 := Lib.hid ((HB.out.trans (hwx.mono HB.out.size)).trans (hb5.mono (HB.out.trans (hwx.mono HB.out.size)).size))
              clear hX hw3 hb2 hb3 hP hbx hb5 hwx HKX HK3 HK2
              go_wp2_with (first
                | (rw [HW3.out])
                | (rw [HXX.out]; refine wpList_appn (o := ⟨some 43, _, _, _, _, _⟩) (by rfl) (.tmp 40) (.tmp 42) (by rfl) w.heap.size lq lc k done HO5.out (by rfl) w3.heap.size ⟨I, A, L⟩ HAD.out (by rfl) HXK.out (by omega) HB5.out.size ?_; intro q5 cap5 w5 hO5 hB5))
              go_roundw
              case rel => exact ⟨q2, ys.drop (4 + s), (m - 4) - s, (c1 - 4) - s, k + 1, q5, cap5, f, done ++ [⟨I, A, L⟩], rfl, HL2.out, by omega, by omega, HY2.out, rfl, by omega, hO5.out, by omega, HNX.out, HB5.out.trans hB5.out⟩
              case measure => simp [lenV]; omega
end Go.Proofs.Ytgmcjejgginpjaa
