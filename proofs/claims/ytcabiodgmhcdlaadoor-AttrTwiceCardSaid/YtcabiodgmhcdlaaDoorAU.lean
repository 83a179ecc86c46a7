/- AttrPuts: the walk. -/
import Derived.Test.YtcabiodgmhcdlaaDoorAT
import Derived.Test.YtcabiodgmhcdlaaDoorAR
namespace Go.Proofs.YtcabiodgmhcdlaaDoor
open Go.RowKit

set_option maxRecDepth 100000 in
set_option maxHeartbeats 8000000 in
theorem attrPuts_any (a : At) (l : Loc) (four : Bool) (w : World) (ht : Tab w) (ha : AtAt w a l) :
    Calls Tryd.prog 3 #[.agg (atL a l).toArray, .bool four] w fun e w' => e = .returned (.bool true) ∧ Below w.heap.size w w' := by
  have S0 := BoxSt.new ha
  obtain ⟨W, hW⟩ : ∃ W, w.alloc (.cells (atL a l).toArray 26) = W := ⟨_, rfl⟩
  rw [hW] at S0
  have HW := Lib.hid hW
  have HT := Lib.hid ht
  have n0 := ha.n0
  have n1 := ha.n1
  have HLG := Lib.hid (large_any a l W S0.ad)
  have HCK := Lib.hid (fun u (h : Below W.heap.size W u) => rcheck_any a l four u (S0.ad.below h))
  have HAC := Lib.hid (fun u (h : Below W.heap.size W u) => checkA_any a l four u (S0.ad.below h))
  have HPN := Lib.hid (fun (hk : okA a four = false) u (h : Below W.heap.size W u) => putA_no a l four u (S0.ad.below h) hk)
  have HPY := Lib.hid (fun (hk : okA a four = true) u (h : Below W.heap.size W u) => putA_ok a l four u ((ht.below S0.bel).below h) (S0.ad.below h) hk)
  have HRP := Lib.hid (fun (hk : okA a four = true) u (h : Below W.heap.size W u) => show Calls Tryd.prog 12 #[.agg (atL a l).toArray, .bool four] u fun e w' => ∃ p cap, e = .returned (.slice p (putA a four).length cap) ∧ Own w' u.heap.size p cap (putA a four) ∧ Below u.heap.size u w' from rputA_any a.origin a.next a.med a.pref a.path a.comms l.pp l.cp l.pn l.pc l.cn l.cc four u (S0.ad.below h) hk)
  have HLV := Lib.hid (fun u (h : Below W.heap.size W u) => lives_any u ((ht.below S0.bel).below h))
  have HGT := Lib.hid (fun (hk : okA a four = true) u (h : Below W.heap.size W u) (p : Option Addr) (cap : Nat) (hb : BytesAt u p (putA a four)) => show Calls Tryd.prog 11 #[.slice p (putA a four).length cap, .bool four] u fun e w' => ∃ l', e = .returned (.tuple #[.agg (atL a l').toArray, .int .i64 1]) ∧ AtAt w' a l' ∧ Below u.heap.size u w' from by
    have hg := getA_any four p (putA a four) (putA a four).length cap u ((ht.below S0.bel).below h) hb rfl (by have := (putA_len a four hk).2.1; omega)
    rw [getA_put a four hk n0 n1] at hg
    exact hg)
  have HRS := Lib.hid (fun u (h : Below W.heap.size W u) (l' : Loc) (h2 : AtAt u a l') => rsame_yes a l l' u (S0.ad.below h) h2)
  obtain ⟨xs, hxs⟩ : ∃ xs, putA a four = xs := ⟨_, rfl⟩
  rw [hxs] at HPY HRP HGT
  obtain ⟨m, hm⟩ : ∃ m, xs.length = m := ⟨_, rfl⟩
  rw [hm] at HPY HRP HGT
  have HXM := Lib.hid hm
  obtain ⟨S, hSS⟩ : ∃ S : ByteArray, strOfNums xs = S := ⟨_, rfl⟩
  have HSS := Lib.hid hSS
  have K := Lib.hid S0.kb
  have HB := Lib.hid S0.bel
  have HER := Lib.hid (show errA a four = if okA a four then 0 else 50 from rfl)
  obtain ⟨origin, path, next, med, pref, comms⟩ := a
  obtain ⟨pp, pn, pc, cp, cn, cc⟩ := l
  simp only [atL] at *
  have k0 := K.out.cell 0 (by simp)
  have k1 := K.out.cell 1 (by simp)
  have k2 := K.out.cell 2 (by simp)
  have k3 := K.out.cell 3 (by simp)
  have k4 := K.out.cell 4 (by simp)
  have k5 := K.out.cell 5 (by simp)
  simp only [List.getD_cons_zero, List.getD_cons_succ] at k0 k1 k2 k3 k4 k5
  rw [← hW] at k0 k1 k2 k3 k4 k5
  clear S0 hW ht ha n0 n1 hxs hm hSS
  go_enter Tryd.func3, Tryd.ntmps3
  go_wp2_with fail
  rw [HW.out]
  clear k0 k1 k2 k3 k4 k5
  rcases hlg : largeB ⟨origin, path, next, med, pref, comms⟩ with _ | _
  · rw [hlg] at HLG
    refine HLG.out.mono ?_; rintro e w1 ⟨rfl, hb1⟩
    have K1 := Lib.hid (K.out.next hb1)
    have k0 := K1.out.cell 0 (by simp)
    have k1 := K1.out.cell 1 (by simp)
    have k2 := K1.out.cell 2 (by simp)
    have k3 := K1.out.cell 3 (by simp)
    have k4 := K1.out.cell 4 (by simp)
    have k5 := K1.out.cell 5 (by simp)
    simp only [List.getD_cons_zero, List.getD_cons_succ] at k0 k1 k2 k3 k4 k5
    have HB1 := Lib.hid hb1
    clear hb1 HLG hlg
    rcases hok : okA ⟨origin, path, next, med, pref, comms⟩ four with _ | _
    · rw [hok] at HER HCK
      have HER : errA ⟨origin, path, next, med, pref, comms⟩ four = 50 := by rw [HER.out]; rfl
      rw [HER] at HAC
      have HPN := Lib.hid (HPN.out hok)
      clear HPY HRP HGT hok HER
      go_wp2_with fail
      clear k0 k1 k2 k3 k4 k5
      refine (HPN.out _ HB1.out).mono ?_; rintro e w2 ⟨rfl, hb2⟩
      have HB2 := Lib.hid (HB1.out.trans (hb2.mono HB1.out.size))
      clear hb2
      go_wp2_with fail
      refine (HLV.out _ HB2.out).mono ?_; rintro e w3 ⟨rfl, hb3⟩
      have HB3 := Lib.hid (HB2.out.trans (hb3.mono HB2.out.size))
      have K3 := Lib.hid (K.out.next HB3.out)
      have k0 := K3.out.cell 0 (by simp)
      have k1 := K3.out.cell 1 (by simp)
      have k2 := K3.out.cell 2 (by simp)
      have k3 := K3.out.cell 3 (by simp)
      have k4 := K3.out.cell 4 (by simp)
      have k5 := K3.out.cell 5 (by simp)
      simp only [List.getD_cons_zero, List.getD_cons_succ] at k0 k1 k2 k3 k4 k5
      clear hb3
      go_wp2_with fail
      clear k0 k1 k2 k3 k4 k5
      refine (HCK.out _ HB3.out).mono ?_; rintro e w4 ⟨rfl, hb4⟩
      have HB4 := Lib.hid (HB3.out.trans (hb4.mono HB3.out.size))
      have K4 := Lib.hid (K.out.next HB4.out)
      have k0 := K4.out.cell 0 (by simp)
      have k1 := K4.out.cell 1 (by simp)
      have k2 := K4.out.cell 2 (by simp)
      have k3 := K4.out.cell 3 (by simp)
      have k4 := K4.out.cell 4 (by simp)
      have k5 := K4.out.cell 5 (by simp)
      simp only [List.getD_cons_zero, List.getD_cons_succ] at k0 k1 k2 k3 k4 k5
      clear hb4
      go_wp2_with fail
      clear k0 k1 k2 k3 k4 k5
      refine (HAC.out _ HB4.out).mono ?_; rintro e w5 ⟨rfl, hb5⟩
      have HB5 := Lib.hid (HB.out.trans ((HB4.out.trans (hb5.mono HB4.out.size)).mono HB.out.size))
      clear hb5
      go_wp2_with fail
      go_ret
      exact ⟨rfl, HB5.out⟩
    · rw [hok] at HER HCK
      have HER : errA ⟨origin, path, next, med, pref, comms⟩ four = 0 := by rw [HER.out]; rfl
      rw [HER] at HAC
      have HPY := Lib.hid (HPY.out hok)
      have HRP := Lib.hid (HRP.out hok)
      have HGT := Lib.hid (HGT.out hok)
      clear HPN hok HER
      go_wp2_with fail
      clear k0 k1 k2 k3 k4 k5
      refine (HPY.out _ HB1.out).mono ?_; rintro e w2 ⟨q, cap, rfl, hO, hb2⟩
      have HB2 := Lib.hid (HB1.out.trans (hb2.mono HB1.out.size))
      have O2 := Lib.hid hO.bytes
      clear hb2 hO HPY
      go_wp2_with fail
      refine (HLV.out _ HB2.out).mono ?_; rintro e w3 ⟨rfl, hb3⟩
      have HB3 := Lib.hid (HB2.out.trans (hb3.mono HB2.out.size))
      have O3 := Lib.hid (O2.out.below hb3)
      have K3 := Lib.hid (K.out.next HB3.out)
      have k0 := K3.out.cell 0 (by simp)
      have k1 := K3.out.cell 1 (by simp)
      have k2 := K3.out.cell 2 (by simp)
      have k3 := K3.out.cell 3 (by simp)
      have k4 := K3.out.cell 4 (by simp)
      have k5 := K3.out.cell 5 (by simp)
      simp only [List.getD_cons_zero, List.getD_cons_succ] at k0 k1 k2 k3 k4 k5
      clear hb3 HLV O2
      go_wp2_with fail
      clear k0 k1 k2 k3 k4 k5
      refine (HCK.out _ HB3.out).mono ?_; rintro e v4 ⟨rfl, hb4⟩
      have HB4 := Lib.hid (HB3.out.trans (hb4.mono HB3.out.size))
      have O4 := Lib.hid (O3.out.below hb4)
      clear hb4 HCK O3
      go_wp2_with fail
      refine (HGT.out _ HB4.out q cap O4.out).mono ?_; rintro e w4 ⟨⟨qp, qn, qc, dp, dn, dc⟩, rfl, hA, hb⟩
      obtain ⟨V, hV⟩ : ∃ V, w4.alloc (.cells #[.int .i64 origin, .slice qp qn qc, .int .u32 next, .int .i64 med, .int .i64 pref, .slice dp dn dc] 26) = V := ⟨_, rfl⟩
      have hb1 : Below w4.heap.size w4 V := by rw [← hV]; exact new_below _ _
      have N4 : Blk V w4.heap.size 26 [.int .i64 origin, .slice qp qn qc, .int .u32 next, .int .i64 med, .int .i64 pref, .slice dp dn dc] := by rw [← hV]; exact Blk.new w4 26 [.int .i64 origin, .slice qp qn qc, .int .u32 next, .int .i64 med, .int .i64 pref, .slice dp dn dc]
      have HB5 := Lib.hid (HB4.out.trans ((hb.trans (hb1.mono hb.size)).mono HB4.out.size))
      have K5 := K.out.next HB5.out
      have hO5 := (O4.out.below hb).below hb1
      have hA5 := hA.below hb1
      have HALL := Lib.hid (fun X (h : Below V.heap.size V X) => show X.cell? ⟨w.heap.size, 0, none⟩ = some (.int .i64 origin) ∧ X.cell? ⟨w.heap.size, 1, none⟩ = some (.slice pp pn pc) ∧ X.cell? ⟨w.heap.size, 2, none⟩ = some (.int .u32 next) ∧ X.cell? ⟨w.heap.size, 3, none⟩ = some (.int .i64 med) ∧ X.cell? ⟨w.heap.size, 4, none⟩ = some (.int .i64 pref) ∧ X.cell? ⟨w.heap.size, 5, none⟩ = some (.slice cp cn cc) ∧ X.cell? ⟨w4.heap.size, 0, none⟩ = some (.int .i64 origin) ∧ X.cell? ⟨w4.heap.size, 1, none⟩ = some (.slice qp qn qc) ∧ X.cell? ⟨w4.heap.size, 2, none⟩ = some (.int .u32 next) ∧ X.cell? ⟨w4.heap.size, 3, none⟩ = some (.int .i64 med) ∧ X.cell? ⟨w4.heap.size, 4, none⟩ = some (.int .i64 pref) ∧ X.cell? ⟨w4.heap.size, 5, none⟩ = some (.slice dp dn dc) ∧ (convert 29 9 (.slice q m cap)).run Tryd.prog X = .ok (.string S) X from
        ⟨kept h (K5.cell 0 (by simp)), kept h (K5.cell 1 (by simp)), kept h (K5.cell 2 (by simp)), kept h (K5.cell 3 (by simp)), kept h (K5.cell 4 (by simp)), kept h (K5.cell 5 (by simp)), kept h (N4.cell 0 (by simp)), kept h (N4.cell 1 (by simp)), kept h (N4.cell 2 (by simp)), kept h (N4.cell 3 (by simp)), kept h (N4.cell 4 (by simp)), kept h (N4.cell 5 (by simp)), by
          have h := run_text (hO5.below h) cap
          rw [HXM.out, HSS.out] at h; exact h⟩)
      have HA5 := Lib.hid (fun X (h : Below V.heap.size V X) => hA5.below h)
      have HWV := Lib.hid (fun X (h : Below V.heap.size V X) => HB5.out.trans (h.mono HB5.out.size))
      have BB : Hid (Below V.heap.size V V.drew) := Lib.hid (Below.refl _ _).drew
      have hS := HALL.out _ BB.out
      have HV := Lib.hid hV
      clear hb hb1 hA N4 K5 hO5 hA5 hV O4 HB4 HGT K3 K1 K
      go_wp2_with fail
      rw [HV.out]
      go_region_held (fun w' => w'.cell? ⟨w.heap.size, 0, none⟩ = some (.int .i64 origin) ∧ w'.cell? ⟨w.heap.size, 1, none⟩ = some (.slice pp pn pc) ∧ w'.cell? ⟨w.heap.size, 2, none⟩ = some (.int .u32 next) ∧ w'.cell? ⟨w.heap.size, 3, none⟩ = some (.int .i64 med) ∧ w'.cell? ⟨w.heap.size, 4, none⟩ = some (.int .i64 pref) ∧ w'.cell? ⟨w.heap.size, 5, none⟩ = some (.slice cp cn cc) ∧ w'.cell? ⟨w4.heap.size, 0, none⟩ = some (.int .i64 origin) ∧ w'.cell? ⟨w4.heap.size, 1, none⟩ = some (.slice qp qn qc) ∧ w'.cell? ⟨w4.heap.size, 2, none⟩ = some (.int .u32 next) ∧ w'.cell? ⟨w4.heap.size, 3, none⟩ = some (.int .i64 med) ∧ w'.cell? ⟨w4.heap.size, 4, none⟩ = some (.int .i64 pref) ∧ w'.cell? ⟨w4.heap.size, 5, none⟩ = some (.slice dp dn dc) ∧ (convert 29 9 (.slice q m cap)).run Tryd.prog w' = .ok (.string S) w') (with_reducible assumption) (first
        | (go_at_call 10; (with_reducible refine (HAC.out _ (HWV.out _ BB.out)).mono ?_); rintro e v ⟨rfl, hb⟩; have BB := Lib.hid (BB.out.trans (hb.mono BB.out.size)); have hS := HALL.out _ BB.out; clear hb)
        | (go_at_call 12; (with_reducible refine (HRP.out _ (HWV.out _ BB.out)).mono ?_); rintro e v ⟨p6, cap6, rfl, hO6, hb⟩; have BB := Lib.hid (BB.out.trans (hb.mono BB.out.size)); have hS := HALL.out _ BB.out; have d6 := run_text hO6.bytes cap6; rw [HXM.out, HSS.out] at d6; clear hb hO6)
        | (go_at_call 13; (with_reducible refine (HRS.out _ (HWV.out _ BB.out) ⟨qp, qn, qc, dp, dn, dc⟩ (HA5.out _ BB.out)).mono ?_); rintro e v ⟨rfl, hb⟩; have BB := Lib.hid (BB.out.trans (hb.mono BB.out.size)); have hS := HALL.out _ BB.out; clear hb))
      all_goals
        go_wp2_with fail
        go_ret
        exact ⟨ret_bool (by simp), HB.out.trans ((HWV.out _ BB.out).mono HB.out.size)⟩
  · rw [hlg] at HLG
    refine HLG.out.mono ?_; rintro e w1 ⟨rfl, hb1⟩
    have HB1 := Lib.hid hb1
    clear hb1 HCK HPN HPY HRP HGT HRS HAC
    go_wp2_with fail
    refine (HLV.out _ HB1.out).mono ?_; rintro e w3 ⟨rfl, hb3⟩
    have HB3 := Lib.hid (HB.out.trans ((HB1.out.trans (hb3.mono HB1.out.size)).mono HB.out.size))
    clear hb3
    go_wp2_with fail
    go_ret
    exact ⟨rfl, HB3.out⟩
end Go.Proofs.YtcabiodgmhcdlaaDoor
