/- capa: lives. -/
import Derived.Test.YtlkpalaakncicaaY4
namespace Go.Proofs.Ytlkpalaakncicaa
open Go.RowKit Go.Maps
set_option linter.unusedVariables false
set_option linter.unusedSimpArgs false
set_option maxRecDepth 100000

def li0 : Ifc := ⟨5, 0, 0, 0, 200⟩
def li1 : Ifc := ⟨7, 1, 0, 0, 30⟩
def lc0 : Cy := ⟨5, 100, false⟩
def lc1 : Cy := ⟨7, 0, true⟩
def lc2 : Cy := ⟨6, 0, false⟩
def lF0 : Int → Option Cy := fun _ => none
def lF1 : Int → Option Cy := setC lF0 [lc0, lc1]
def lS1 : Nat → Sr := setS S0 2 ⟨1, 9, true⟩
theorem li_ok : okIfs [li0, li1] = true := by decide +kernel
theorem li_in : ∀ x ∈ [li0, li1], InIf x := by
  intro x hx
  simp at hx
  rcases hx with rfl | rfl <;> exact ⟨by decide, by decide, by decide⟩
theorem li_lim : limC (gotC [li0, li1] lF0 5).1 950 = 190 := by decide +kernel
theorem li_t1 : takeE [li0, li1] S0 2 1 [lc0, lc1] 9 = 0 := by decide +kernel
theorem li_t2 : takeE [li0, li1] lS1 2 1 [] 10 = 170 := by decide +kernel
theorem li_t3 : takeE [li0, li1] lS1 0 1 [lc2] 10 = 4 := by decide +kernel
theorem li_get : gotC [li0, li1] lF1 5 = (lc0, true) := by decide +kernel
theorem li_lim7 : limC (gotC [li0, li1] lF1 7).1 500 = 0 := by decide +kernel
theorem li_lim6 : limC (gotC [li0, li1] lF1 6).1 500 = 0 := by decide +kernel
theorem li_car : [li0, li1].map (carryV lF1) = [lc0, lc1] := by decide +kernel
theorem li_stamp : stampC lS1 2 = (9, true) := by decide +kernel
theorem li_chk : okCar (-1) 0 [] = false := by decide +kernel
theorem li_inc : ∀ x ∈ [lc0, lc1], InCy x := by
  intro x hx
  simp at hx
  rcases hx with rfl | rfl <;> (unfold InCy; decide)
theorem li_fok : FOk lF1 := by
  intro i y h
  have e : lF1 = putF (putF lF0 5 lc0) 7 lc1 := rfl
  rw [e] at h
  unfold putF lF0 at h
  split at h
  · rename_i hi; cases h; subst hi; exact ⟨rfl, by unfold InCy; decide⟩
  · split at h
    · rename_i hi; cases h; subst hi; exact ⟨rfl, by unfold InCy; decide⟩
    · cases h
theorem li_sorted : [li0, li1].Pairwise (fun x y : Ifc => x.id < y.id) := by simp [li0, li1]
theorem HopAt.mono {w : World} {B B' h b : Nat} {F : Nat → TrF} {l : List Ifc} (H : HopAt w B h b F l) (hB : B' ≤ B) : HopAt w B' h b F l :=
  ⟨⟨H.hb.blk, fun i hi => (H.hb.tr i hi).mono hB, H.hb.dis, Nat.le_trans hB H.hb.bh⟩, H.map, H.trs, H.len, Nat.le_trans hB H.bb⟩
/-- A Capa as lives has it. -/
def LS (w W : World) (c h b mb N : Nat) (F : Nat → TrF) (f : Int → Option Cy) (S : Nat → Sr) : Prop := (∃ nn, nn ≤ N ∧ CapAt W w.heap.size c h b mb nn F [li0, li1] f S) ∧ Below w.heap.size w W
theorem LS.next {w W W' : World} {c h b mb N : Nat} {F : Nat → TrF} {f : Int → Option Cy} {S : Nat → Sr} (H : LS w W c h b mb N F f S) (hb : Below W.heap.size W W') : LS w W' c h b mb N F f S := by
  obtain ⟨⟨nn, h1, h2⟩, h3⟩ := H
  exact ⟨⟨nn, h1, h2.below hb⟩, h3.trans (hb.mono h3.size)⟩
theorem LS.lt {w W : World} {c h b mb N : Nat} {F : Nat → TrF} {f : Int → Option Cy} {S : Nat → Sr} (H : LS w W c h b mb N F f S) : c < W.heap.size := by
  obtain ⟨⟨nn, h1, h2⟩, h3⟩ := H
  exact h2.blk.lt
theorem LS.take {w W : World} {c h b mb N : Nat} {F : Nat → TrF} {f : Int → Option Cy} {S : Nat → Sr} (H : LS w W c h b mb N F f S) (hN : N ≤ 10000) (src seq now : Int) (p : Option Addr) (L : List Cy) (n c' : Nat) (hl : CysAt W p L) (hn : L.length = n) (hm : n ≤ maxLen) (hpc : L ≠ [] → ∀ b off, p = some ⟨b, off, none⟩ → b ≠ c) :
    Calls Try.prog 24 #[.pointer (some ⟨c, 0, none⟩), .agg #[.int .i64 src, .int .i64 seq, .slice p n c'], .int .i64 now] W fun e w' => e = .returned (.int .i64 (takeE [li0, li1] S src seq L now)) ∧ LS w w' c h b mb (N + 256) F (takeF [li0, li1] S f src seq L now) (takeS [li0, li1] S src seq L now) := by
  obtain ⟨⟨nn, h1, h2⟩, h3⟩ := H
  refine (ctake_any W _ c h b mb nn F _ f S src seq now p L n c' hl hn hm hpc h2 h3.size (by omega)).mono ?_
  rintro e w' ⟨he, hb, nn', h4, h5⟩
  exact ⟨he, ⟨nn', by omega, h5⟩, h3.trans (hb.below h3.size (fun k hk => by rcases hk with e | e <;> rw [e] <;> first | exact h2.bc | exact h2.bm))⟩
theorem LS.limit {w W : World} {c h b mb N : Nat} {F : Nat → TrF} {f : Int → Option Cy} {S : Nat → Sr} (H : LS w W c h b mb N F f S) (id : Int) (hid : (Lit.int .i64 id).wf = true) (m : Int) :
    Calls Try.prog 32 #[.pointer (some ⟨c, 0, none⟩), .int .i64 id, .int .i64 m] W fun e w' => e = .returned (.int .i64 (limC (gotC [li0, li1] f id).1 m)) ∧ Below W.heap.size W w' := by
  obtain ⟨⟨nn, h1, h2⟩, h3⟩ := H
  exact climit_any W _ c h b mb nn F _ f S h2 li_in id hid m
set_option maxHeartbeats 16000000 in
theorem lives18_any (w : World) :
    Calls Try.prog 19 #[] w fun e w' => e = .returned (.bool true) ∧ Below w.heap.size w w' := by
  obtain ⟨W1, hW1⟩ : ∃ W1, w.alloc (.cells #[.int .i64 5, .int .i64 0, .int .u32 0, .int .i64 0, .int .i64 200, .int .i64 7, .int .i64 1, .int .u32 0, .int .i64 0, .int .i64 30] 34) = W1 := ⟨_, rfl⟩
  have hOW : IfsOwn W1 w.heap.size (some ⟨w.heap.size, 0, none⟩) 2 2 [li0, li1] := hW1 ▸ IfsOwn.lit w w.heap.size [li0, li1] li_in (Nat.le_refl _) (by unfold maxLen; simp)
  have hb1 : Below w.heap.size w W1 := hW1 ▸ newB w _
  have HB1 := Lib.hid hb1
  have HW1 := Lib.hid hW1
  have HN1 := Lib.hid (newH_any (some ⟨w.heap.size, 0, none⟩) [li0, li1] 2 2 W1 hOW.at rfl)
  clear hOW hb1 hW1
  go_enter Try.func19, Try.ntmps19
  go_wp2_with fail
  rw [HW1.out]
  refine HN1.out.mono ?_
  rintro e w2 ⟨hb, _, hy⟩
  obtain ⟨h, b, F, rfl, hH⟩ := hy li_ok
  have HB2 := Lib.hid (HB1.out.trans (hb.mono HB1.out.size))
  have HN2 := Lib.hid (cnew_any w2 w.heap.size h b F [li0, li1] (hH.mono HB1.out.size) (Nat.le_trans HB1.out.size hb.size))
  clear hb hy hH HN1
  go_wp2_with fail
  refine HN2.out.mono ?_
  rintro e w3 ⟨c, mb, rfl, hc, hb⟩
  have HL3 := Lib.hid (show LS w w3 c h b mb 0 F lF0 S0 from ⟨⟨0, by omega, hc⟩, HB2.out.trans (hb.mono HB2.out.size)⟩)
  clear hc hb HN2
  have hlm := HL3.out.limit 5 (by decide) 950
  rw [li_lim] at hlm
  have HLM := Lib.hid hlm
  clear hlm
  go_wp2_with fail
  refine HLM.out.mono ?_
  rintro e w4 ⟨rfl, hb⟩
  have hb4 := hb.trans ((newB w4 (.cells #[.int .i64 5, .int .i64 100, .bool false, .int .i64 7, .int .i64 0, .bool true] 67)).mono hb.size)
  obtain ⟨W4, hW4⟩ : ∃ W4, w4.alloc (.cells #[.int .i64 5, .int .i64 100, .bool false, .int .i64 7, .int .i64 0, .bool true] 67) = W4 := ⟨_, rfl⟩
  have hlit : CysAt W4 (some ⟨w4.heap.size, 0, none⟩) [lc0, lc1] := hW4 ▸ (LOwn.lit rowCy w4 w4.heap.size [lc0, lc1] li_inc (Nat.le_refl _) (by unfold maxLen; simp)).at rowCy
  have hc4 : c < w4.heap.size := (HL3.out.next hb).lt
  rw [hW4] at hb4
  have HL4 := Lib.hid (HL3.out.next hb4)
  have HW4 := Lib.hid hW4
  have ht := HL4.out.take (by omega) 2 1 9 (some ⟨w4.heap.size, 0, none⟩) [lc0, lc1] 2 2 hlit rfl (by unfold maxLen; omega) (fun _ b' o e => by injection e with e; injection e with e; omega)
  rw [li_t1, (take_yes lF0 li_t1).1, (take_yes lF0 li_t1).2] at ht
  have HT := Lib.hid ht
  clear hb hb4 hlit hc4 hW4 HLM ht
  go_wp2_with fail
  rw [HW4.out]
  refine HT.out.mono ?_
  rintro e w5 ⟨rfl, hl5⟩
  have HL5 := Lib.hid (show LS w w5 c h b mb 256 F lF1 lS1 from hl5)
  clear hl5
  have ht := HL5.out.take (by omega) 2 1 10 none [] 0 0 (LAt.nil _ _ _ _ _ _) rfl (by unfold maxLen; omega) (fun _ b' o e => by cases e)
  rw [li_t2, (take_no lF1 (by rw [li_t2]; decide)).1, (take_no lF1 (by rw [li_t2]; decide)).2] at ht
  have HT2 := Lib.hid ht
  clear ht HL3 HL4 HT
  go_wp2_with fail
  refine HT2.out.mono ?_
  rintro e w6 ⟨rfl, hl6⟩
  have HL6 := Lib.hid hl6
  have hb7 := newB w6 (.cells #[.int .i64 6, .int .i64 0, .bool false] 67)
  obtain ⟨W7, hW7⟩ : ∃ W7, w6.alloc (.cells #[.int .i64 6, .int .i64 0, .bool false] 67) = W7 := ⟨_, rfl⟩
  have hlit : CysAt W7 (some ⟨w6.heap.size, 0, none⟩) [lc2] := hW7 ▸ (LOwn.lit rowCy w6 w6.heap.size [lc2] (fun x hx => by simp at hx; subst hx; unfold InCy; decide) (Nat.le_refl _) (by unfold maxLen; simp)).at rowCy
  have hc7 := hl6.lt
  rw [hW7] at hb7
  have HL7 := Lib.hid (hl6.next hb7)
  have HW7 := Lib.hid hW7
  have ht := HL7.out.take (by omega) 0 1 10 (some ⟨w6.heap.size, 0, none⟩) [lc2] 1 1 hlit rfl (by unfold maxLen; omega) (fun _ b' o e => by injection e with e; injection e with e; omega)
  rw [li_t3, (take_no lF1 (by rw [li_t3]; decide)).1, (take_no lF1 (by rw [li_t3]; decide)).2] at ht
  have HT3 := Lib.hid ht
  clear ht HL5 HT2 hl6 hb7 hlit hc7 hW7
  go_wp2_with fail
  rw [HW7.out]
  refine HT3.out.mono ?_
  rintro e w8 ⟨rfl, hl8⟩
  have HL8 := Lib.hid hl8
  obtain ⟨⟨n8, hn8, hk8⟩, hbw8⟩ := hl8
  have hg := cget_any w8 _ c h b mb n8 F _ lF1 lS1 hk8 li_in 5 (by decide)
  rw [li_get] at hg
  have HG := Lib.hid (show Calls Try.prog 30 #[.pointer (some ⟨c, 0, none⟩), .int .i64 5] w8 fun e w' => e = .returned (.tuple #[.agg #[.int .i64 5, .int .i64 100, .bool false], .bool true]) ∧ Below w8.heap.size w8 w' from hg)
  clear hg hn8 hk8 hbw8 HL6 HL7 HT3
  go_wp2_with fail
  refine HG.out.mono ?_
  rintro e w9 ⟨rfl, hb⟩
  have hb9 := hb.trans ((newB w9 (.cells #[.int .i64 5, .int .i64 100, .bool false] 67)).mono hb.size)
  obtain ⟨W9, hW9⟩ : ∃ W9, w9.alloc (.cells #[.int .i64 5, .int .i64 100, .bool false] 67) = W9 := ⟨_, rfl⟩
  have hX := Blk.new w9 67 [.int .i64 5, .int .i64 100, .bool false]
  rw [hW9] at hb9 hX
  have HL9 := Lib.hid (HL8.out.next hb9)
  have HX9 := Lib.hid hX
  have HW9 := Lib.hid hW9
  obtain ⟨⟨n9, hn9, hk9⟩, hbw9⟩ := HL9.out
  have HA := Lib.hid (call_any W9 _ c h b mb n9 F _ lF1 lS1 hk9 li_ok li_in li_fok)
  clear hb hb9 hW9 hX hn9 hk9 hbw9 HG HL8
  go_wp2_with fail
  rw [HW9.out]
  refine HA.out.mono ?_
  rintro e w10 ⟨q, k, cap, ss, rfl, hk, hcap, hperm, hsort, hat, hb⟩
  obtain rfl : ss = [li0, li1] := sorted_one hsort li_sorted hperm.symm
  obtain rfl : k = 2 := hk.symm
  rw [li_car] at hat
  have HL10 := Lib.hid (HL9.out.next hb)
  have HX10 := Lib.hid (HX9.out.next hb)
  have HAT := Lib.hid hat
  obtain ⟨⟨n10, hn10, hk10⟩, hbw10⟩ := HL10.out
  have hst := cstamp_any w10 _ c h b mb n10 F _ lF1 lS1 hk10 2
  rw [li_stamp] at hst
  have HSTP := Lib.hid (show Calls Try.prog 26 #[.pointer (some ⟨c, 0, none⟩), .int .i64 2] w10 fun e w' => e = .returned (.tuple #[.int .i64 9, .bool true]) ∧ Below w10.heap.size w10 w' from hst)
  clear hk hcap hperm hsort hat hb hn10 hk10 hbw10 hst HA HL9 HX9
  go_wp2_with fail
  refine HSTP.out.mono ?_
  rintro e w11 ⟨rfl, hb⟩
  have HL11 := Lib.hid (HL10.out.next hb)
  have HX11 := Lib.hid (HX10.out.next hb)
  have HAT11 := Lib.hid (HAT.out.below hb)
  have HNN := Lib.hid (cnew_nil w11)
  clear hb HSTP HL10 HX10 HAT
  go_wp2_with fail
  refine HNN.out.mono ?_
  rintro e w12 ⟨rfl, hb⟩
  have HL12 := Lib.hid (HL11.out.next hb)
  have hX12 := HX11.out.next hb
  have hAT12 := HAT11.out.below hb
  clear hb HNN HL11 HX11 HAT11
  have x1 : w12.cell? ⟨w9.heap.size, 1, none⟩ = some (.int .i64 100) := hX12.cell 1 (by simp)
  obtain ⟨b', off, rfl, _, _, l1⟩ := cy_cell (n := 2) (k := 1) hAT12 rfl (by omega)
  change w12.cell? ⟨b', off + 3 + 2, none⟩ = some (.bool true) at l1
  have h7 := HL12.out.limit 7 (by decide) 500
  rw [li_lim7] at h7
  have H7 := Lib.hid h7
  clear h7 hX12 hAT12
  go_wp2_with fail
  refine H7.out.mono ?_
  rintro e w13 ⟨rfl, hb⟩
  have HL13 := Lib.hid (HL12.out.next hb)
  have h6 := HL13.out.limit 6 (by decide) 500
  rw [li_lim6] at h6
  have H6 := Lib.hid h6
  clear h6 hb x1 l1
  go_wp2_with fail
  refine H6.out.mono ?_
  rintro e w14 ⟨rfl, hb⟩
  have HL14 := Lib.hid (HL13.out.next hb)
  have hck := ccheck_any (-1) 0 none [] 0 0 w14 (LAt.nil _ _ _ _ _ _) rfl (by unfold maxLen; omega)
  rw [li_chk] at hck
  have HCK := Lib.hid (show Calls Try.prog 22 #[.agg #[.int .i64 (-1), .int .i64 0, .slice none 0 0]] w14 fun e w' => e = .returned (.int .i64 1) ∧ Below w14.heap.size w14 w' from hck)
  clear hck hb
  go_wp2_with fail
  refine HCK.out.mono ?_
  rintro e w15 ⟨rfl, hb⟩
  have HB15 := Lib.hid (HL14.out.next hb).2
  clear hb
  go_wp2_with fail
  go_ret
  exact ⟨by simp, HB15.out⟩
end Go.Proofs.Ytlkpalaakncicaa
