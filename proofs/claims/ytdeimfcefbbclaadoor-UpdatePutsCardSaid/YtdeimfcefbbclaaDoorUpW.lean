/- update: UpdatePuts's walk. -/
import Derived.Test.YtdeimfcefbbclaaDoorUqH
import Derived.Test.YtdeimfcefbbclaaDoorUpG
namespace Go.Proofs.YtdeimfcefbbclaaDoor.Ax
open Go.RowKit
set_option maxRecDepth 100000
set_option linter.unusedVariables false
set_option linter.unusedSimpArgs false

set_option maxHeartbeats 16000000 in
theorem puts_walk (u : Upd) (l : ULoc) (four paths : Bool) (w : World) (ht : Tab w) (hu : UpAt w u l) (n0 : 0 ≤ u.a.next) (n1 : u.a.next ≤ 4294967295) :
    Calls Tryd.prog 3 #[.agg (updL u l).toArray, .bool four, .bool paths] w fun e w' => e = .returned (.bool true) ∧ Below w.heap.size w w' := by
  obtain ⟨V, hV⟩ : ∃ V, w.alloc (.cells (updL u l).toArray 29) = V := ⟨_, rfl⟩
  have hX := Blk.new w 29 (updL u l)
  have hA := newB w (.cells (updL u l).toArray 29)
  rw [hV] at hX hA
  have HA := Lib.hid hA
  have HX0 := Lib.hid hX
  have HV := Lib.hid hV
  have up : ∀ U : World, Below V.heap.size V U → Below w.heap.size w U := fun U hU => hA.trans (hU.mono hA.size)
  have HLV := Lib.hid (fun (U : World) (hU : Below V.heap.size V U) => lives_any U (ht.below (up U hU)))
  have HLG := Lib.hid (rlargeU_any u l V (hu.below hA))
  have HPU := Lib.hid (fun (U : World) (hU : Below V.heap.size V U) => putU_any u l four paths U (ht.below (up U hU)) (hu.below (up U hU)))
  have HCK := Lib.hid (fun (U : World) (hU : Below V.heap.size V U) h => rcheckU_any u l four paths U (hu.below (up U hU)) h)
  have HAC := Lib.hid (fun (U : World) (hU : Below V.heap.size V U) => checkU_any u l four paths U (ht.below (up U hU)) (hu.below (up U hU)))
  have HBO := Lib.hid (fun (U : World) (hU : Below V.heap.size V U) => rbody_any u l four paths U (hu.below (up U hU)))
  have HSA := Lib.hid (fun (U : World) (hU : Below V.heap.size V U) (ul : ULoc) (h2 : UpAt U u ul) => rsameU_yes u l ul U (hu.below (up U hU)) h2)
  have HGP := Lib.hid (fun hk => getU_put u four paths hk hu.gone.1 hu.come.1 n0 n1)
  have HUP := Lib.hid up
  have HTB := Lib.hid (fun (U : World) (hU : Below V.heap.size V U) => ht.below (up U hU))
  obtain ⟨lg, hlg⟩ : ∃ b, largeU u = b := ⟨_, rfl⟩
  rw [hlg] at HLG
  have hsz : lg = false → u.gone.length ≤ 1100 ∧ u.come.length ≤ 1100 := fun h => by
    rw [h] at hlg
    simp [largeU] at hlg
    omega
  have HSZ := Lib.hid hsz
  obtain ⟨ok, hok⟩ : ∃ b, okU u four paths = b := ⟨_, rfl⟩
  have HOK := Lib.hid hok
  rw [hok] at HPU HCK HAC HGP
  obtain ⟨bl, hbl⟩ : ∃ x, bodyL u four paths = x := ⟨_, rfl⟩
  have HBE := Lib.hid hbl
  have HC : Hid (∀ U, Below V.heap.size V U → Blk U w.heap.size 29 (updL u l)) := Lib.hid (fun U hU => HX0.out.below hU HX0.out.lt)
  obtain ⟨U0, hU0⟩ : ∃ x, u = x := ⟨_, rfl⟩
  have HUE := Lib.hid hU0
  clear hV hX hA up hlg hsz hok hbl ht hU0 hu n0 n1
  obtain ⟨gone, come, ⟨origin, path, next, med, pref, comms⟩, soft⟩ := u
  obtain ⟨gp, gn, gc, rp, rn, rc, ⟨pp, pn, pc, cp, cn, cc⟩⟩ := l
  simp only [updL, atL, List.cons_append, List.nil_append] at *
  have HK := Lib.hid (fun (U : World) (hU : Below V.heap.size V U) => upd_boxes (HC.out U hU))
  go_enter Tryd.func3, Tryd.ntmps3
  obtain ⟨k0, k1, k2, k3, k4, k5, k6, k7, k8⟩ := HK.out V (Below.refl _ _)
  rw [← HV.out] at k0 k1 k2 k3 k4 k5 k6 k7 k8
  go_wp2_with fail
  rw [HV.out]
  refine HLG.out.mono ?_
  rintro e w1 ⟨rfl, hb⟩
  have HB1 := Lib.hid hb
  clear hb k0 k1 k2 k3 k4 k5 k6 k7 k8 HLG
  rcases lg with _ | _
  rotate_left
  · go_wp2_with fail
    refine (HLV.out w1 HB1.out).mono ?_
    rintro e w2 ⟨rfl, hb⟩
    have HB2 := Lib.hid (HB1.out.trans (hb.mono HB1.out.size))
    clear hb
    go_wp2_with fail
    go_ret
    exact ⟨rfl, HUP.out _ HB2.out⟩
  have HLE := Lib.hid (HSZ.out rfl)
  obtain ⟨k0, k1, k2, k3, k4, k5, k6, k7, k8⟩ := HK.out w1 HB1.out
  go_wp2_with fail
  refine (HPU.out w1 HB1.out).mono ?_
  rintro e w2 ⟨hp1, hp2, hb⟩
  have HB2 := Lib.hid (HB1.out.trans (hb.mono HB1.out.size))
  clear hb k0 k1 k2 k3 k4 k5 k6 k7 k8 HPU
  rcases ok with _ | _
  · obtain rfl := hp2 rfl
    clear hp1 hp2
    obtain ⟨m2, hm2⟩ : ∃ m2, w2.alloc (.cells #[.int .i64 0, .slice none 0 0] 34) = m2 := ⟨_, rfl⟩
    have HBM := Lib.hid (show Below V.heap.size V m2 from hm2 ▸ HB2.out.alloc HB2.out.size _)
    have HMM := Lib.hid (show Blk m2 w2.heap.size 34 [.int .i64 0, .slice none 0 0] from hm2 ▸ Blk.new w2 34 [.int .i64 0, .slice none 0 0])
    have HM2 := Lib.hid hm2
    clear hm2
    go_wp2_with fail
    rw [HM2.out]
    refine (HLV.out m2 HBM.out).mono ?_
    rintro e w3 ⟨rfl, hb⟩
    have HB3 := Lib.hid (HBM.out.trans (hb.mono HBM.out.size))
    have HM3 := Lib.hid (HMM.out.next hb)
    clear hb
    obtain ⟨k0, k1, k2, k3, k4, k5, k6, k7, k8⟩ := HK.out w3 HB3.out
    go_wp2_with fail
    refine (HCK.out w3 HB3.out HLE.out).mono ?_
    rintro e w4 ⟨rfl, hb⟩
    have HB4 := Lib.hid (HB3.out.trans (hb.mono HB3.out.size))
    have HM4 := Lib.hid (HM3.out.next hb)
    clear hb k0 k1 k2 k3 k4 k5 k6 k7 k8
    obtain ⟨k0, k1, k2, k3, k4, k5, k6, k7, k8⟩ := HK.out w4 HB4.out
    have m0 := HM4.out.cell 0 (by simp)
    have m1 := HM4.out.cell 1 (by simp)
    go_wp2_with fail
    refine (HAC.out w4 HB4.out).mono ?_
    rintro e w5 ⟨rfl, hb⟩
    have HB5 := Lib.hid (HB4.out.trans (hb.mono HB4.out.size))
    clear hb k0 k1 k2 k3 k4 k5 k6 k7 k8 m0 m1
    go_wp2_with fail
    go_ret
    exact ⟨rfl, HUP.out _ HB5.out⟩
  · obtain ⟨q, cap, rfl, ho⟩ := hp1 rfl
    clear hp1 hp2
    rw [HBE.out] at ho
    obtain ⟨n, hn⟩ : ∃ n, bl.length = n := ⟨_, rfl⟩
    rw [HBE.out, hn]
    have HN := Lib.hid hn
    obtain ⟨m2, hm2⟩ : ∃ m2, w2.alloc (.cells #[.int .i64 2, .slice q n cap] 34) = m2 := ⟨_, rfl⟩
    have HBM := Lib.hid (show Below V.heap.size V m2 from hm2 ▸ HB2.out.alloc HB2.out.size _)
    have HMM := Lib.hid (show Blk m2 w2.heap.size 34 [.int .i64 2, .slice q n cap] from hm2 ▸ Blk.new w2 34 [.int .i64 2, .slice q n cap])
    have HOM := Lib.hid (show Own m2 w1.heap.size q cap bl from hm2 ▸ ho.alloc _)
    have HM2 := Lib.hid hm2
    clear hm2 hn ho
    go_wp2_with fail
    rw [HM2.out]
    refine (HLV.out m2 HBM.out).mono ?_
    rintro e w3 ⟨rfl, hb⟩
    have HB3 := Lib.hid (HBM.out.trans (hb.mono HBM.out.size))
    have HM3 := Lib.hid (HMM.out.next hb)
    have HO3 := Lib.hid (HOM.out.below hb)
    clear hb
    obtain ⟨k0, k1, k2, k3, k4, k5, k6, k7, k8⟩ := HK.out w3 HB3.out
    go_wp2_with fail
    refine (HCK.out w3 HB3.out HLE.out).mono ?_
    rintro e w4 ⟨rfl, hb⟩
    have HB4 := Lib.hid (HB3.out.trans (hb.mono HB3.out.size))
    have HM4 := Lib.hid (HM3.out.next hb)
    have HO4 := Lib.hid (HO3.out.below hb)
    clear hb k0 k1 k2 k3 k4 k5 k6 k7 k8
    have m1 := HM4.out.cell 1 (by simp)
    go_wp2_with fail
    have hgu : getU bl four paths = (⟨gone, come, ⟨origin, path, next, med, pref, comms⟩, soft⟩, 0, 0) := by rw [← HBE.out]; exact HGP.out (by trivial)
    have hnl : n ≤ 4077 := by
      have h := HOK.out
      unfold okU at h
      rw [HBE.out, HN.out] at h
      simp at h
      exact h.2
    have hget := getU_any q bl n cap four paths w4 (HTB.out w4 HB4.out) HO4.out.bytes HN.out (by omega)
    rw [hgu] at hget
    refine hget.mono ?_
    rintro e w5 ⟨⟨gp2, gn2, gc2, rp2, rn2, rc2, ⟨pp2, pn2, pc2, cp2, cn2, cc2⟩⟩, rfl, ho, hb⟩
    simp only [updL, atL, List.cons_append, List.nil_append] at *
    have HB5 := Lib.hid (HB4.out.trans (hb.mono HB4.out.size))
    have HM5 := Lib.hid (HM4.out.next hb)
    have HO5 := Lib.hid (HO4.out.below hb)
    have HW5 := Lib.hid ho
    clear hb ho hget hgu m1
    obtain ⟨W, hW⟩ : ∃ W, (w5.alloc (.cells #[.slice gp2 gn2 gc2, .slice rp2 rn2 rc2, .int .i64 origin, .slice pp2 pn2 pc2, .int .u32 next, .int .i64 med, .int .i64 pref, .slice cp2 cn2 cc2, .bool soft] 29)).alloc (.cells #[.int .i64 0, .int .i64 0, .slice none 0 0] 41) = W := ⟨_, rfl⟩
    have hb6 : Below w5.heap.size w5 W := by rw [← hW]; exact two_below _ _ _
    have HV6 := Lib.hid (show Blk W w5.heap.size 29 [.slice gp2 gn2 gc2, .slice rp2 rn2 rc2, .int .i64 origin, .slice pp2 pn2 pc2, .int .u32 next, .int .i64 med, .int .i64 pref, .slice cp2 cn2 cc2, .bool soft] by rw [← hW]; exact (Blk.new w5 29 [.slice gp2 gn2 gc2, .slice rp2 rn2 rc2, .int .i64 origin, .slice pp2 pn2 pc2, .int .u32 next, .int .i64 med, .int .i64 pref, .slice cp2 cn2 cc2, .bool soft]).alloc _)
    have HN6 := Lib.hid (show Blk W (w5.heap.size + 1) 41 [.int .i64 0, .int .i64 0, .slice none 0 0] by rw [← hW, ← sz_alloc w5 (.cells #[.slice gp2 gn2 gc2, .slice rp2 rn2 rc2, .int .i64 origin, .slice pp2 pn2 pc2, .int .u32 next, .int .i64 med, .int .i64 pref, .slice cp2 cn2 cc2, .bool soft] 29)]; exact Blk.new _ 41 [.int .i64 0, .int .i64 0, .slice none 0 0])
    have HB6 := Lib.hid (HB5.out.trans (hb6.mono HB5.out.size))
    have HM6 := Lib.hid (HM5.out.next hb6)
    have HO6 := Lib.hid (HO5.out.below hb6)
    have HW6 := Lib.hid (HW5.out.below hb6)
    have HWE := Lib.hid hW
    obtain ⟨T, hT⟩ : ∃ T, (convert 32 9 (.slice q n cap)).run Tryd.prog W = .ok (.string T) W ∧ ∀ (U : World) (p : Option Addr) (c : Nat), BytesAt U p bl → (convert 32 9 (.slice p n c)).run Tryd.prog U = .ok (.string T) U := by
      have h := fun (U : World) (p : Option Addr) (c : Nat) (hb : BytesAt U p bl) => run_text hb c
      simp only [HN.out] at h
      exact ⟨_, h W q cap HO6.out.bytes, h⟩
    have HTX := Lib.hid hT.2
    have HALL := Lib.hid (fun U (h : Below W.heap.size W U) => show U.cell? ⟨w.heap.size, 0, none⟩ = some (.slice gp gn gc) ∧ U.cell? ⟨w.heap.size, 1, none⟩ = some (.slice rp rn rc) ∧ U.cell? ⟨w.heap.size, 2, none⟩ = some (.int .i64 origin) ∧ U.cell? ⟨w.heap.size, 3, none⟩ = some (.slice pp pn pc) ∧ U.cell? ⟨w.heap.size, 4, none⟩ = some (.int .u32 next) ∧ U.cell? ⟨w.heap.size, 5, none⟩ = some (.int .i64 med) ∧ U.cell? ⟨w.heap.size, 6, none⟩ = some (.int .i64 pref) ∧ U.cell? ⟨w.heap.size, 7, none⟩ = some (.slice cp cn cc) ∧ U.cell? ⟨w.heap.size, 8, none⟩ = some (.bool soft) ∧ U.cell? ⟨w2.heap.size, 0, none⟩ = some (.int .i64 2) ∧ U.cell? ⟨w2.heap.size, 1, none⟩ = some (.slice q n cap) ∧ U.cell? ⟨w5.heap.size, 0, none⟩ = some (.slice gp2 gn2 gc2) ∧ U.cell? ⟨w5.heap.size, 1, none⟩ = some (.slice rp2 rn2 rc2) ∧ U.cell? ⟨w5.heap.size, 2, none⟩ = some (.int .i64 origin) ∧ U.cell? ⟨w5.heap.size, 3, none⟩ = some (.slice pp2 pn2 pc2) ∧ U.cell? ⟨w5.heap.size, 4, none⟩ = some (.int .u32 next) ∧ U.cell? ⟨w5.heap.size, 5, none⟩ = some (.int .i64 med) ∧ U.cell? ⟨w5.heap.size, 6, none⟩ = some (.int .i64 pref) ∧ U.cell? ⟨w5.heap.size, 7, none⟩ = some (.slice cp2 cn2 cc2) ∧ U.cell? ⟨w5.heap.size, 8, none⟩ = some (.bool soft) ∧ U.cell? ⟨w5.heap.size + 1, 0, none⟩ = some (.int .i64 0) ∧ U.cell? ⟨w5.heap.size + 1, 1, none⟩ = some (.int .i64 0) ∧ U.cell? ⟨w5.heap.size + 1, 2, none⟩ = some (.slice none 0 0) ∧ (convert 32 9 (.slice q n cap)).run Tryd.prog U = .ok (.string T) U from by
      obtain ⟨a0, a1, a2, a3, a4, a5, a6, a7, a8⟩ := HK.out U (HB6.out.trans (h.mono HB6.out.size))
      obtain ⟨c0, c1, c2, c3, c4, c5, c6, c7, c8⟩ := upd_boxes (HV6.out.next h)
      exact ⟨a0, a1, a2, a3, a4, a5, a6, a7, a8, (HM6.out.next h).cell 0 (by simp), (HM6.out.next h).cell 1 (by simp), c0, c1, c2, c3, c4, c5, c6, c7, c8, (HN6.out.next h).cell 0 (by simp), (HN6.out.next h).cell 1 (by simp), (HN6.out.next h).cell 2 (by simp), HTX.out U q cap (HO6.out.below h).bytes⟩)
    have HUB := Lib.hid (fun U (h : Below W.heap.size W U) => HB6.out.trans (h.mono HB6.out.size))
    have HUA := Lib.hid (fun U (h : Below W.heap.size W U) => (HW6.out.below h).up)
    have BB : Hid (Below W.heap.size W W.drew) := Lib.hid (Below.refl _ _).drew
    have hS := HALL.out _ BB.out
    have hpar : (okNls gone paths = true ∧ okNls come paths = true) ∧ (come ≠ [] → okA ⟨origin, path, next, med, pref, comms⟩ four = true) := by
      have h := HOK.out
      unfold okU partsU saidOk at h
      simp at h
      obtain ⟨⟨_, h1, h2, h3⟩, _⟩ := h
      refine ⟨⟨h1, h2⟩, fun hc => ?_⟩
      rcases come with _ | ⟨x, xs⟩
      · exact absurd rfl hc
      · simpa using h3
    have HPR := Lib.hid hpar
    clear hW hb6 hT hpar HK HLV HMM HOM HM2 HM3 HO3 HM4 HO4 HM5 HO5 HW5
    go_wp2_with fail
    rw [HWE.out]
    go_region_held (fun w' => w'.cell? ⟨w.heap.size, 0, none⟩ = some (.slice gp gn gc) ∧ w'.cell? ⟨w.heap.size, 1, none⟩ = some (.slice rp rn rc) ∧ w'.cell? ⟨w.heap.size, 2, none⟩ = some (.int .i64 origin) ∧ w'.cell? ⟨w.heap.size, 3, none⟩ = some (.slice pp pn pc) ∧ w'.cell? ⟨w.heap.size, 4, none⟩ = some (.int .u32 next) ∧ w'.cell? ⟨w.heap.size, 5, none⟩ = some (.int .i64 med) ∧ w'.cell? ⟨w.heap.size, 6, none⟩ = some (.int .i64 pref) ∧ w'.cell? ⟨w.heap.size, 7, none⟩ = some (.slice cp cn cc) ∧ w'.cell? ⟨w.heap.size, 8, none⟩ = some (.bool soft) ∧ w'.cell? ⟨w2.heap.size, 0, none⟩ = some (.int .i64 2) ∧ w'.cell? ⟨w2.heap.size, 1, none⟩ = some (.slice q n cap) ∧ w'.cell? ⟨w5.heap.size, 0, none⟩ = some (.slice gp2 gn2 gc2) ∧ w'.cell? ⟨w5.heap.size, 1, none⟩ = some (.slice rp2 rn2 rc2) ∧ w'.cell? ⟨w5.heap.size, 2, none⟩ = some (.int .i64 origin) ∧ w'.cell? ⟨w5.heap.size, 3, none⟩ = some (.slice pp2 pn2 pc2) ∧ w'.cell? ⟨w5.heap.size, 4, none⟩ = some (.int .u32 next) ∧ w'.cell? ⟨w5.heap.size, 5, none⟩ = some (.int .i64 med) ∧ w'.cell? ⟨w5.heap.size, 6, none⟩ = some (.int .i64 pref) ∧ w'.cell? ⟨w5.heap.size, 7, none⟩ = some (.slice cp2 cn2 cc2) ∧ w'.cell? ⟨w5.heap.size, 8, none⟩ = some (.bool soft) ∧ w'.cell? ⟨w5.heap.size + 1, 0, none⟩ = some (.int .i64 0) ∧ w'.cell? ⟨w5.heap.size + 1, 1, none⟩ = some (.int .i64 0) ∧ w'.cell? ⟨w5.heap.size + 1, 2, none⟩ = some (.slice none 0 0) ∧ (convert 32 9 (.slice q n cap)).run Tryd.prog w' = .ok (.string T) w') (with_reducible assumption) (first
      | (go_at_call 11; (with_reducible refine (HAC.out _ (HUB.out _ BB.out)).mono ?_); rintro e v ⟨rfl, hb⟩; have BB := Lib.hid (BB.out.trans (hb.mono BB.out.size)); have hS := HALL.out _ BB.out; clear hb)
      | (go_at_call 13; (with_reducible refine (HBO.out _ (HUB.out _ BB.out) HPR.out.1.1 HPR.out.1.2 HPR.out.2 HLE.out).mono ?_); rintro e v ⟨p6, cap6, rfl, hO6, hb⟩; rw [HBE.out] at hO6; rw [HBE.out, HN.out]; have BB := Lib.hid (BB.out.trans (hb.mono BB.out.size)); have hS := HALL.out _ BB.out; have d6 := HTX.out _ p6 cap6 hO6.bytes; clear hb hO6)
      | (go_at_call 14; (with_reducible refine (HSA.out _ (HUB.out _ BB.out) _ (HUA.out _ BB.out)).mono ?_); rintro e v ⟨rfl, hb⟩; have BB := Lib.hid (BB.out.trans (hb.mono BB.out.size)); have hS := HALL.out _ BB.out; clear hb))
    all_goals
      go_wp2_with fail
      go_ret
      exact ⟨by simp, HUP.out _ (HUB.out _ BB.out)⟩
end Go.Proofs.YtdeimfcefbbclaaDoor.Ax
