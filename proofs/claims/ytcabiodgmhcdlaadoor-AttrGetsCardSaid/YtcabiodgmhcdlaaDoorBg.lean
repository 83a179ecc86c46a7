/- AttrGets: the walk. -/
import Derived.Test.YtcabiodgmhcdlaaDoorBf
namespace Go.Proofs.YtcabiodgmhcdlaaDoor
open Go.RowKit

theorem getX (four : Bool) (p : Option Addr) (xs : List Int) (n c : Nat) (w : World) (ht : Tab w) (hb : BytesAt w p xs) (hn : xs.length = n) (hl : n ≤ 1000000) {ao an am ar v : Int} {ap : List Seg} {ac : List Int} (hA : getA xs four = (⟨ao, ap, an, am, ar, ac⟩, v)) :
    Calls Tryd.prog 11 #[.slice p n c, .bool four] w fun e w' => ∃ (pp cp : Option Addr) (pn pc cn cc : Nat), e = .returned (.tuple #[.agg #[.int .i64 ao, .slice pp pn pc, .int .u32 an, .int .i64 am, .int .i64 ar, .slice cp cn cc], .int .i64 v]) ∧ AtAt w' ⟨ao, ap, an, am, ar, ac⟩ ⟨pp, pn, pc, cp, cn, cc⟩ ∧ Below w.heap.size w w' := by
  have h := getA_any four p xs n c w ht hb hn hl
  rw [hA] at h
  refine h.mono ?_; rintro e w' ⟨⟨pp, pn, pc, cp, cn, cc⟩, rfl, ha, hb⟩
  exact ⟨pp, cp, pn, pc, cn, cc, rfl, ha, hb⟩
theorem rgetX (four : Bool) (p : Option Addr) (xs : List Int) (n c : Nat) (w : World) (hb : BytesAt w p xs) (hn : xs.length = n) (hl : n ≤ 1000000) {ao an am ar v : Int} {ap : List Seg} {ac : List Int} (hA : getA xs four = (⟨ao, ap, an, am, ar, ac⟩, v)) :
    Calls Tryd.prog 14 #[.slice p n c, .bool four] w fun e w' => ∃ (pp cp : Option Addr) (pn pc cn cc : Nat), e = .returned (.tuple #[.agg #[.int .i64 ao, .slice pp pn pc, .int .u32 an, .int .i64 am, .int .i64 ar, .slice cp cn cc], .int .i64 v]) ∧ AtAt w' ⟨ao, ap, an, am, ar, ac⟩ ⟨pp, pn, pc, cp, cn, cc⟩ ∧ Below w.heap.size w w' := by
  have h := rgetA_any four p xs n c w hb hn hl
  rw [hA] at h
  refine h.mono ?_; rintro e w' ⟨⟨pp, pn, pc, cp, cn, cc⟩, rfl, ha, hb⟩
  exact ⟨pp, cp, pn, pc, cn, cc, rfl, ha, hb⟩
theorem sameX {ao an am ar : Int} {ap : List Seg} {ac : List Int} {pp cp : Option Addr} {pn pc cn cc : Nat} {qp dp : Option Addr} {qn qc dn dc : Nat} (w : World) (h1 : AtAt w ⟨ao, ap, an, am, ar, ac⟩ ⟨pp, pn, pc, cp, cn, cc⟩) (h2 : AtAt w ⟨ao, ap, an, am, ar, ac⟩ ⟨qp, qn, qc, dp, dn, dc⟩) :
    Calls Tryd.prog 13 #[.agg #[.int .i64 ao, .slice pp pn pc, .int .u32 an, .int .i64 am, .int .i64 ar, .slice cp cn cc], .agg #[.int .i64 ao, .slice qp qn qc, .int .u32 an, .int .i64 am, .int .i64 ar, .slice dp dn dc]] w fun e w' => e = .returned (.bool true) ∧ Below w.heap.size w w' :=
  rsame_yes ⟨ao, ap, an, am, ar, ac⟩ ⟨pp, pn, pc, cp, cn, cc⟩ ⟨qp, qn, qc, dp, dn, dc⟩ w h1 h2
set_option maxRecDepth 100000 in
set_option maxHeartbeats 4000000 in
theorem attrGets_any (p : Option Addr) (xs : List Int) (n c : Nat) (four : Bool) (w : World) (ht : Tab w) (hb : BytesAt w p xs) (hn : xs.length = n) :
    Calls Tryd.prog 4 #[.slice p n c, .bool four] w fun e w' => e = .returned (.bool true) ∧ Below w.heap.size w w' := by
  by_cases hbig : 3000 < n
  · have t1 : decide (3000 < (n : Int)) = true := by simp; omega
    have HL := Lib.hid (lives_any w ht)
    clear ht hb hn
    go_enter Tryd.func4, Tryd.ntmps4
    go_wp2_with fail
    refine HL.out.mono ?_; rintro e w1 ⟨rfl, hb1⟩
    have HB1 := Lib.hid hb1
    clear hb1
    go_wp2_with fail
    go_ret
    exact ⟨rfl, HB1.out⟩
  · have t1 : decide (3000 < (n : Int)) = false := by simp; omega
    have hver := getA_verdict xs four
    have hfine := getA_fine xs four hb.1
    obtain ⟨⟨⟨ao, ap, an, am, ar, ac⟩, v⟩, hA⟩ : ∃ r, getA xs four = r := ⟨_, rfl⟩
    rw [hA] at hver hfine
    have HG := Lib.hid (getX four p xs n c w ht hb hn (by omega) hA)
    have HRG := fun u (h : Below w.heap.size w u) => Lib.hid (rgetX four p xs n c u (hb.below h) hn (by omega) hA)
    have HLV := fun u (h : Below w.heap.size w u) => Lib.hid (lives_any u (ht.below h))
    have HFI := Lib.hid hfine
    have HVE := Lib.hid hver
    clear ht hb hn hA hfine hver
    go_enter Tryd.func4, Tryd.ntmps4
    go_wp2_with fail
    refine HG.out.mono ?_; rintro e w1 ⟨pp, cp, pn, pc, cn, cc, rfl, ha, hb1⟩
    obtain ⟨V, hV⟩ : ∃ V, w1.alloc (.cells #[.int .i64 ao, .slice pp pn pc, .int .u32 an, .int .i64 am, .int .i64 ar, .slice cp cn cc] 26) = V := ⟨_, rfl⟩
    have hnb : Below w1.heap.size w1 V := by rw [← hV]; exact new_below _ _
    have hbv := hb1.trans (hnb.mono hb1.size)
    have HK1 := Lib.hid (show Blk V w1.heap.size 26 [.int .i64 ao, .slice pp pn pc, .int .u32 an, .int .i64 am, .int .i64 ar, .slice cp cn cc] from by rw [← hV]; exact Blk.new _ _ _)
    have HA1 := Lib.hid (ha.below hnb)
    have HR1 := HRG V hbv
    have HBV := Lib.hid hbv
    have HV := Lib.hid hV
    clear hV hnb hbv ha hb1 HRG HG
    go_wp2_with fail
    rw [HV.out]
    refine HR1.out.mono ?_; rintro e w2 ⟨qp, dp, qn, qc, dn, dc, rfl, ha, hb2⟩
    obtain ⟨U, hU⟩ : ∃ U, w2.alloc (.cells #[.int .i64 ao, .slice qp qn qc, .int .u32 an, .int .i64 am, .int .i64 ar, .slice dp dn dc] 26) = U := ⟨_, rfl⟩
    have hnb : Below w2.heap.size w2 U := by rw [← hU]; exact new_below _ _
    have hbu := hb2.trans (hnb.mono hb2.size)
    have HK2 := Lib.hid (show Blk U w2.heap.size 26 [.int .i64 ao, .slice qp qn qc, .int .u32 an, .int .i64 am, .int .i64 ar, .slice dp dn dc] from by rw [← hU]; exact Blk.new _ _ _)
    have HA2 := Lib.hid (ha.below hnb)
    have HA1U := Lib.hid (HA1.out.below hbu)
    have HK1U := Lib.hid (HK1.out.next hbu)
    have HBU := Lib.hid (HBV.out.trans (hbu.mono HBV.out.size))
    have HLU := HLV U HBU.out
    have HU := Lib.hid hU
    clear hU hnb hbu ha hb2 HR1 HLV HK1 HA1 HBV HV
    go_wp2_with fail
    rw [HU.out]
    refine HLU.out.mono ?_; rintro e w3 ⟨rfl, hb3⟩
    have K1 := HK1U.out.next hb3
    have K2 := HK2.out.next hb3
    have HA1 := Lib.hid (HA1U.out.below hb3)
    have HA2 := Lib.hid (HA2.out.below hb3)
    have HB3 := Lib.hid (HBU.out.trans (hb3.mono HBU.out.size))
    have k0 := K1.cell 0 (by simp)
    have k1 := K1.cell 1 (by simp)
    have k2 := K1.cell 2 (by simp)
    have k3 := K1.cell 3 (by simp)
    have k4 := K1.cell 4 (by simp)
    have k5 := K1.cell 5 (by simp)
    have j0 := K2.cell 0 (by simp)
    have j1 := K2.cell 1 (by simp)
    have j2 := K2.cell 2 (by simp)
    have j3 := K2.cell 3 (by simp)
    have j4 := K2.cell 4 (by simp)
    have j5 := K2.cell 5 (by simp)
    simp only [List.getD_cons_zero, List.getD_cons_succ] at k0 k1 k2 k3 k4 k5 j0 j1 j2 j3 j4 j5
    have HKK := Lib.hid K1
    have HSM := Lib.hid (sameX w3 HA1.out HA2.out)
    clear K1 K2 hb3 HLU
    go_wp2_with fail
    refine HSM.out.mono ?_; rintro e w4 ⟨rfl, hb4⟩
    have K1 := HKK.out.next hb4
    have k0 := K1.cell 0 (by simp)
    have k1 := K1.cell 1 (by simp)
    have k2 := K1.cell 2 (by simp)
    have k3 := K1.cell 3 (by simp)
    have k4 := K1.cell 4 (by simp)
    have k5 := K1.cell 5 (by simp)
    simp only [List.getD_cons_zero, List.getD_cons_succ] at k0 k1 k2 k3 k4 k5
    have HA4 := Lib.hid (HA1.out.below hb4)
    have HB4 := Lib.hid (HB3.out.trans (hb4.mono HB3.out.size))
    clear K1 hb4 HSM
    rcases HVE.out with hv | hv | hv
    · have hv' : v = 1 := hv
      subst hv'
      have hok := HFI.out rfl
      have hck := checkA_any ⟨ao, ap, an, am, ar, ac⟩ ⟨pp, pn, pc, cp, cn, cc⟩ four w4 HA4.out
      rw [show errA ⟨ao, ap, an, am, ar, ac⟩ four = 0 from if_pos hok] at hck
      simp only [atL] at hck
      have HCK := Lib.hid hck
      clear hck hok hv
      go_wp2_with fail
      refine HCK.out.mono ?_; rintro e w5 ⟨rfl, hb5⟩
      have HB5 := Lib.hid (HB4.out.trans (hb5.mono HB4.out.size))
      clear hb5
      go_wp2_with fail
      go_ret
      exact ⟨rfl, HB5.out⟩
    · have hv' : v = 2 := hv
      subst hv'
      go_wp2_with fail
      go_ret
      exact ⟨rfl, HB4.out⟩
    · have hv' : v = 3 := hv
      subst hv'
      go_wp2_with fail
      go_ret
      exact ⟨rfl, HB4.out⟩
end Go.Proofs.YtcabiodgmhcdlaaDoor
