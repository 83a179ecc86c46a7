/- update: UpdateShort's walk. -/
import Derived.Test.YtpeagakpmjnelaaDoorUqH
import Derived.Test.YtpeagakpmjnelaaDoorUpG
namespace Go.Proofs.YtpeagakpmjnelaaDoor.Ax
open Go.RowKit
set_option maxRecDepth 100000
set_option linter.unusedVariables false
set_option linter.unusedSimpArgs false

theorem take2 (a b : List Int) (h : a.length ≤ 9900) (n : Nat) (hn : 2 ≤ n) : (cntL a ++ b).take n = [((a.length / 256 : Nat) : Int), ((a.length % 256 : Nat) : Int)] ++ (a ++ b).take (n - 2) := by
  rw [cnt2 a _ rfl h]
  obtain ⟨k, rfl⟩ : ∃ k, n = k + 2 := ⟨n - 2, by omega⟩
  simp
theorem num2 (m : Nat) (z : List Int) (h : m ≤ 9900) : numV (some ([((m / 256 : Nat) : Int), ((m % 256 : Nat) : Int)] ++ z)) 2 = (m : Int) := by
  have hle : (2 : Int) ≤ (z.length : Int) + 1 + 1 := by omega
  simp [numV, wideB, okTake, outV, getV, hle]
  omega
theorem next2 (x y : Int) (z : List Int) : numNext (some ([x, y] ++ z)) 2 = some z := by
  simp [numNext, nextV, wideB, okTake]
  omega
theorem next_short (z : List Int) (n : Int) (h : (z.length : Int) < n) : nextV (some z) n = none := by
  have : okTake (some z) n = false := by simp [okTake]; omega
  simp [nextV, this]
theorem nextN_short (z : List Int) (h : z.length < 2) : numNext (some z) 2 = none := by
  have : nextV (some z) 2 = none := next_short z 2 (by omega)
  simp [numNext, this]
theorem nextV_none (n : Int) : nextV none n = none := by simp [nextV, okTake]
theorem nextN_none (n : Int) : numNext none n = none := by simp [numNext, nextV_none]
theorem getU_short (u : Upd) (four paths : Bool) (h : (nlsL paths u.gone).length ≤ 9900) (n : Nat) (hn : n < 4 + (nlsL paths u.gone).length) :
    getU ((bodyL u four paths).take n) four paths = (Upd.zero, 3, 1) := by
  suffices hs : s4U ((bodyL u four paths).take n) = none by unfold getU; rw [hs]
  have hb : ∃ R, bodyL u four paths = cntL (nlsL paths u.gone) ++ R := ⟨_, rfl⟩
  obtain ⟨R, hR⟩ := hb
  rw [hR]
  by_cases h2 : n < 2
  · have h1 : s1U ((cntL (nlsL paths u.gone) ++ R).take n) = none := by
      unfold s1U
      exact nextN_short _ (by rw [List.length_take]; omega)
    unfold s4U s3U s2U
    rw [h1, nextV_none, nextN_none, nextV_none]
  · have h1 : s1U ((cntL (nlsL paths u.gone) ++ R).take n) = some ((nlsL paths u.gone ++ R).take (n - 2)) := by
      unfold s1U
      rw [take2 _ _ h n (by omega), next2]
    have hv : numV (some ((cntL (nlsL paths u.gone) ++ R).take n)) 2 = ((nlsL paths u.gone).length : Int) := by
      rw [take2 _ _ h n (by omega), num2 _ _ h]
    by_cases h3 : n < 2 + (nlsL paths u.gone).length
    · have hs2 : s2U ((cntL (nlsL paths u.gone) ++ R).take n) = none := by
        unfold s2U
        rw [h1, hv]
        exact next_short _ _ (by rw [List.length_take]; omega)
      unfold s4U s3U
      rw [hs2, nextN_none, nextV_none]
    · have hs2 : ∃ z, s2U ((cntL (nlsL paths u.gone) ++ R).take n) = some z ∧ z.length < 2 := by
        unfold s2U
        rw [h1, hv]
        obtain ⟨k, hk⟩ : ∃ k, n - 2 = (nlsL paths u.gone).length + k := ⟨n - 2 - (nlsL paths u.gone).length, by omega⟩
        rw [hk, List.take_length_add_append, next_app]
        exact ⟨_, rfl, by rw [List.length_take]; omega⟩
      obtain ⟨z, hz, hl⟩ := hs2
      unfold s4U s3U
      rw [hz, nextN_short z hl, nextV_none]

set_option maxHeartbeats 16000000 in
theorem short_walk (u : Upd) (l : ULoc) (four paths : Bool) (n : Int) (w : World) (ht : Tab w) (hu : UpAt w u l) :
    Calls Tryd.prog 6 #[.agg (updL u l).toArray, .bool four, .bool paths, .int .i64 n] w fun e w' => e = .returned (.bool true) ∧ Below w.heap.size w w' := by
  obtain ⟨V, hV⟩ : ∃ V, w.alloc (.cells (updL u l).toArray 29) = V := ⟨_, rfl⟩
  have hX := Blk.new w 29 (updL u l)
  have hA := newB w (.cells (updL u l).toArray 29)
  rw [hV] at hX hA
  have HA := Lib.hid hA
  have HX0 := Lib.hid hX
  have HV := Lib.hid hV
  have up : ∀ U : World, Below V.heap.size V U → Below w.heap.size w U := fun U hU => hA.trans (hU.mono hA.size)
  have HLV := Lib.hid (fun (U : World) (hU : Below V.heap.size V U) => lives_any U (ht.below (up U hU)))
  have HLG := Lib.hid (rlargeU_any u l V (hu.below hA))
  have HPU := Lib.hid (fun (U : World) (hU : Below V.heap.size V U) => putU_any u l four paths U (ht.below (up U hU)) (hu.below (up U hU)))
  have HCK := Lib.hid (fun (U : World) (hU : Below V.heap.size V U) h => rcheckU_any u l four paths U (hu.below (up U hU)) h)
  have HBO := Lib.hid (fun (U : World) (hU : Below V.heap.size V U) hg hl => show Calls Tryd.prog 13 #[.agg #[.slice l.gp l.gn l.gc, .slice none 0 0, .int .i64 0, .slice none 0 0, .int .u32 0, .int .i64 0, .int .i64 0, .slice none 0 0, .bool false], .bool four, .bool paths] U _ from rbody_any ⟨u.gone, [], At.zero, false⟩ ⟨l.gp, l.gn, l.gc, none, 0, 0, ⟨none, 0, 0, none, 0, 0⟩⟩ four paths U ⟨(hu.below (up U hU)).gone, hu.gn, hu.gc, hu.gm, NlsAt.nil _ _, rfl, Nat.le_refl _, Nat.zero_le _, zero_at U⟩ hg rfl (fun h => absurd rfl h) hl)
  have HUP := Lib.hid up
  have HTB := Lib.hid (fun (U : World) (hU : Below V.heap.size V U) => ht.below (up U hU))
  obtain ⟨lg, hlg⟩ : ∃ b, largeU u = b := ⟨_, rfl⟩
  rw [hlg] at HLG
  have hsz : lg = false → u.gone.length ≤ 1100 ∧ u.come.length ≤ 1100 := fun h => by
    rw [h] at hlg
    simp [largeU] at hlg
    omega
  have HSZ := Lib.hid hsz
  obtain ⟨ok, hok⟩ : ∃ b, okU u four paths = b := ⟨_, rfl⟩
  have HOK := Lib.hid hok
  rw [hok] at HPU HCK
  obtain ⟨bl, hbl⟩ : ∃ x, bodyL u four paths = x := ⟨_, rfl⟩
  have HBE := Lib.hid hbl
  have HSH := Lib.hid (fun h => getU_short u four paths h)
  rw [hbl] at HSH
  have hz : ∃ k, (nlsL paths u.gone).length = k ∧ (bodyL ⟨u.gone, [], At.zero, false⟩ four paths).length = 4 + k ∧ (bodyL u four paths).length = 4 + k + (saidL u four).length + (nlsL paths u.come).length := by
    refine ⟨_, rfl, ?_, ?_⟩
    · unfold bodyL
      rw [List.length_append, List.length_append, cntL_len, cntL_len]
      have h1 : saidL ⟨u.gone, [], At.zero, false⟩ four = [] := by unfold saidL; rfl
      have h2 : nlsL paths [] = [] := rfl
      rw [h1, h2]
      simp
      omega
    · unfold bodyL
      rw [List.length_append, List.length_append, cntL_len, cntL_len]
      omega
  obtain ⟨gk, hgk, hbz, hbu⟩ := hz
  rw [hgk] at HSH
  rw [hbz] at HBO
  rw [hbl] at hbu
  have HGK := Lib.hid (show gk + 4 ≤ bl.length by omega)
  have hgle : lg = false → gk ≤ 9900 := fun h => by
    have := nlsL_le paths u.gone
    have := (hsz h).1
    omega
  have HGL := Lib.hid hgle
  have hokg : ok = true → okNls u.gone paths = true := fun h => by
    rw [h] at hok
    unfold okU partsU at hok
    simp at hok
    exact hok.1.2.1
  have HOG := Lib.hid hokg
  have hokl : ok = true → bl.length ≤ 4077 := fun h => by
    rw [h] at hok
    unfold okU at hok
    rw [hbl] at hok
    simp at hok
    exact hok.2
  have HOL := Lib.hid hokl
  have HC : Hid (∀ U, Below V.heap.size V U → Blk U w.heap.size 29 (updL u l)) := Lib.hid (fun U hU => HX0.out.below hU HX0.out.lt)
  clear hV hX hA up hlg hsz hok hbl ht hu hgk hbz hbu hgle hokg hokl
  obtain ⟨gone, come, ⟨origin, path, next, med, pref, comms⟩, soft⟩ := u
  obtain ⟨gp, gn, gc, rp, rn, rc, ⟨pp, pn, pc, cp, cn, cc⟩⟩ := l
  simp only [updL, atL, List.cons_append, List.nil_append] at *
  have HK := Lib.hid (fun (U : World) (hU : Below V.heap.size V U) => upd_boxes (HC.out U hU))
  go_enter Tryd.func6, Tryd.ntmps6
  obtain ⟨k0, k1, k2, k3, k4, k5, k6, k7, k8⟩ := HK.out V (Below.refl _ _)
  rw [← HV.out] at k0 k1 k2 k3 k4 k5 k6 k7 k8
  go_wp2_with fail
  rw [HV.out]
  refine HLG.out.mono ?_
  rintro e w1 ⟨rfl, hb⟩
  have HB1 := Lib.hid hb
  clear hb k0 k1 k2 k3 k4 k5 k6 k7 k8 HLG
  rcases lg with _ | _
  rotate_left
  · go_wp2_with fail
    refine (HLV.out w1 HB1.out).mono ?_
    rintro e w2 ⟨rfl, hb⟩
    have HB2 := Lib.hid (HB1.out.trans (hb.mono HB1.out.size))
    clear hb
    go_wp2_with fail
    go_ret
    exact ⟨rfl, HUP.out _ HB2.out⟩
  have HLE := Lib.hid (HSZ.out rfl)
  have HGE := Lib.hid (HGL.out rfl)
  obtain ⟨k0, k1, k2, k3, k4, k5, k6, k7, k8⟩ := HK.out w1 HB1.out
  go_wp2_with fail
  refine (HCK.out w1 HB1.out HLE.out).mono ?_
  rintro e w2 ⟨rfl, hb⟩
  have HB2 := Lib.hid (HB1.out.trans (hb.mono HB1.out.size))
  clear hb k0 k1 k2 k3 k4 k5 k6 k7 k8
  rcases ok with _ | _
  · go_wp2_with fail
    refine (HLV.out w2 HB2.out).mono ?_
    rintro e w3 ⟨rfl, hb⟩
    have HB3 := Lib.hid (HB2.out.trans (hb.mono HB2.out.size))
    clear hb
    go_wp2_with fail
    go_ret
    exact ⟨rfl, HUP.out _ HB3.out⟩
  have HO1 := Lib.hid (HOG.out rfl)
  have HO2 := Lib.hid (HOL.out rfl)
  obtain ⟨k0, k1, k2, k3, k4, k5, k6, k7, k8⟩ := HK.out w2 HB2.out
  go_wp2_with fail
  refine (HPU.out w2 HB2.out).mono ?_
  rintro e w3 ⟨hp1, hp2, hb⟩
  have HB3 := Lib.hid (HB2.out.trans (hb.mono HB2.out.size))
  clear hb k0 k1 k2 k3 k4 k5 k6 k7 k8 HPU
  obtain ⟨q, cap, rfl, ho⟩ := hp1 (by trivial)
  clear hp1 hp2
  rw [HBE.out] at ho
  obtain ⟨m, hm⟩ : ∃ m, bl.length = m := ⟨_, rfl⟩
  rw [HBE.out, hm]
  rw [hm] at HGK HO2
  have HN := Lib.hid hm
  obtain ⟨m3, hm3⟩ : ∃ m3, w3.alloc (.cells #[.int .i64 2, .slice q m cap] 34) = m3 := ⟨_, rfl⟩
  have HBM := Lib.hid (show Below V.heap.size V m3 from hm3 ▸ HB3.out.alloc HB3.out.size _)
  have HMM := Lib.hid (show Blk m3 w3.heap.size 34 [.int .i64 2, .slice q m cap] from hm3 ▸ Blk.new w3 34 [.int .i64 2, .slice q m cap])
  have HOM := Lib.hid (show Own m3 w2.heap.size q cap bl from hm3 ▸ ho.alloc _)
  have HM3 := Lib.hid hm3
  clear hm3 hm ho
  have HALL := Lib.hid (fun U (h : Below m3.heap.size m3 U) => And.intro (HK.out U (HBM.out.trans (h.mono HBM.out.size))) (And.intro ((HMM.out.next h).cell 0 (by simp)) ((HMM.out.next h).cell 1 (by simp))))
  have BB : Hid (Below m3.heap.size m3 m3.drew) := Lib.hid (Below.refl _ _).drew
  have HTWO := Lib.hid (fun U (h : Below m3.heap.size m3 U) => show U.cell? ⟨w.heap.size, 0, none⟩ = some (.slice gp gn gc) ∧ U.cell? ⟨w3.heap.size, 1, none⟩ = some (.slice q m cap) from And.intro (HALL.out U h).1.1 (HALL.out U h).2.2)
  have hS := HTWO.out _ BB.out
  obtain ⟨⟨k0, k1, k2, k3, k4, k5, k6, k7, k8⟩, n0, n1⟩ := HALL.out _ (Below.refl _ _)
  rw [← HM3.out] at k0 k1 k2 k3 k4 k5 k6 k7 k8 n0 n1
  go_wp2_with fail
  rw [HM3.out]
  clear k0 k1 k2 k3 k4 k5 k6 k7 k8 n0 n1
  go_region_held (fun w' => w'.cell? ⟨w.heap.size, 0, none⟩ = some (.slice gp gn gc) ∧ w'.cell? ⟨w3.heap.size, 1, none⟩ = some (.slice q m cap)) (with_reducible assumption) (first
      | (go_at_call 13; (with_reducible refine (HBO.out _ (HBM.out.trans (BB.out.mono HBM.out.size)) HO1.out ⟨HLE.out.1, Nat.zero_le _⟩).mono ?_); rintro e v ⟨p6, cap6, rfl, hO6, hb⟩; have BB := Lib.hid (BB.out.trans (hb.mono BB.out.size)); have hS := HTWO.out _ BB.out; clear hb hO6))
  have hm4 := HO2.out
  have hgm := HGK.out
  have hw1 : IntKind.i64.wrap ((m : Int) - (4 + (gk : Int))) = (m : Int) - (4 + (gk : Int)) := by rw [IntKind.wrap_i64]; omega
  have hw2 : IntKind.i64.wrap ((m : Int) - ((m : Int) - (4 + (gk : Int)))) = 4 + (gk : Int) := by rw [IntKind.wrap_i64]; omega
  rw [hw1]
  have HB5 := Lib.hid (HBM.out.trans (BB.out.mono HBM.out.size))
  clear hS
  go_wp2_with fail
  refine (HLV.out _ HB5.out).mono ?_
  rintro e w5 ⟨rfl, hb⟩
  have HB6 := Lib.hid (HB5.out.trans (hb.mono HB5.out.size))
  have BB := Lib.hid (BB.out.trans (hb.mono BB.out.size))
  clear hb
  have n1 := (HTWO.out w5 BB.out).2
  by_cases hn0 : n < 0
  · go_wp2_with fail
    go_ret
    exact ⟨rfl, HUP.out _ HB6.out⟩
  have hn0' : 0 ≤ n := by omega
  obtain ⟨z, rfl⟩ := Int.eq_ofNat_of_zero_le hn0'
  clear hn0 hn0'
  by_cases hge : 4 + gk ≤ z
  · go_wp2_with fail
    go_ret
    exact ⟨rfl, HUP.out _ HB6.out⟩
  have hcap : m ≤ cap := by have := HOM.out.le; rw [HN.out] at this; exact this
  have E1 := fun w => run_cut_h w q m cap (z : Int) z rfl (by omega)
  have BC := Lib.hid ((HOM.out.below BB.out).bytes.cut cap 0 z (by omega) (by rw [HN.out]; omega) HOM.out.le)
  rw [List.drop_zero] at BC
  obtain ⟨p0, hp0⟩ : ∃ p0, cutP q cap 0 = p0 := ⟨_, rfl⟩
  rw [hp0] at E1 BC
  have hs := HSH.out HGE.out z (by omega)
  have hget := getU_any p0 (bl.take z) z cap four paths w5 (HTB.out w5 HB6.out) BC.out (by rw [List.length_take, HN.out]; omega) (by omega)
  rw [hs] at hget
  have HGT := Lib.hid hget
  clear hget hs hp0
  go_wp2_with fail
  refine HGT.out.mono ?_
  rintro e w6 ⟨⟨gp2, gn2, gc2, rp2, rn2, rc2, ⟨pp2, pn2, pc2, cp2, cn2, cc2⟩⟩, rfl, ho, hb⟩
  have HU2 := Lib.hid ho
  have HB7 := Lib.hid (HB6.out.trans (hb.mono HB6.out.size))
  clear ho hb HGT E1 BC
  have heq : updL Upd.zero ⟨gp2, gn2, gc2, rp2, rn2, rc2, ⟨pp2, pn2, pc2, cp2, cn2, cc2⟩⟩ = [.slice gp2 gn2 gc2, .slice rp2 rn2 rc2, .int .i64 0, .slice pp2 pn2 pc2, .int .u32 0, .int .i64 0, .int .i64 0, .slice cp2 cn2 cc2, .bool false] := rfl
  rw [heq]
  clear heq
  obtain ⟨W, hW⟩ : ∃ W, (w6.alloc (.cells #[.slice gp2 gn2 gc2, .slice rp2 rn2 rc2, .int .i64 0, .slice pp2 pn2 pc2, .int .u32 0, .int .i64 0, .int .i64 0, .slice cp2 cn2 cc2, .bool false] 29)).alloc (.cells #[.int .i64 3, .int .i64 1, .slice none 0 0] 41) = W := ⟨_, rfl⟩
  have hb6 : Below w6.heap.size w6 W := by rw [← hW]; exact two_below _ _ _
  have HV6 := Lib.hid (show Blk W w6.heap.size 29 [.slice gp2 gn2 gc2, .slice rp2 rn2 rc2, .int .i64 0, .slice pp2 pn2 pc2, .int .u32 0, .int .i64 0, .int .i64 0, .slice cp2 cn2 cc2, .bool false] by rw [← hW]; exact (Blk.new w6 29 [.slice gp2 gn2 gc2, .slice rp2 rn2 rc2, .int .i64 0, .slice pp2 pn2 pc2, .int .u32 0, .int .i64 0, .int .i64 0, .slice cp2 cn2 cc2, .bool false]).alloc _)
  have HN6 := Lib.hid (show Blk W (w6.heap.size + 1) 41 [.int .i64 3, .int .i64 1, .slice none 0 0] by rw [← hW, ← sz_alloc w6 (.cells #[.slice gp2 gn2 gc2, .slice rp2 rn2 rc2, .int .i64 0, .slice pp2 pn2 pc2, .int .u32 0, .int .i64 0, .int .i64 0, .slice cp2 cn2 cc2, .bool false] 29)]; exact Blk.new _ 41 [.int .i64 3, .int .i64 1, .slice none 0 0])
  have HB8 := Lib.hid (HB7.out.trans (hb6.mono HB7.out.size))
  have HU3 := Lib.hid (HU2.out.below hb6)
  have HSA := Lib.hid (show Calls Tryd.prog 14 #[.agg #[.slice gp2 gn2 gc2, .slice rp2 rn2 rc2, .int .i64 0, .slice pp2 pn2 pc2, .int .u32 0, .int .i64 0, .int .i64 0, .slice cp2 cn2 cc2, .bool false], .agg #[.slice none 0 0, .slice none 0 0, .int .i64 0, .slice none 0 0, .int .u32 0, .int .i64 0, .int .i64 0, .slice none 0 0, .bool false]] W _ from rsameU_yes Upd.zero ⟨gp2, gn2, gc2, rp2, rn2, rc2, ⟨pp2, pn2, pc2, cp2, cn2, cc2⟩⟩ ⟨none, 0, 0, none, 0, 0, ⟨none, 0, 0, none, 0, 0⟩⟩ W HU3.out.up ⟨NlsAt.nil _ _, rfl, Nat.le_refl _, Nat.zero_le _, NlsAt.nil _ _, rfl, Nat.le_refl _, Nat.zero_le _, zero_at W⟩)
  have HWE := Lib.hid hW
  clear hW hb6 HU2
  obtain ⟨c0, c1, c2, c3, c4, c5, c6, c7, c8⟩ := upd_boxes HV6.out
  rw [← HWE.out] at c0 c1 c2 c3 c4 c5 c6 c7 c8
  go_wp2_with fail
  rw [HWE.out]
  refine HSA.out.mono ?_
  rintro e w7 ⟨rfl, hb⟩
  have HB9 := Lib.hid (HB8.out.trans (hb.mono HB8.out.size))
  have d0 := (HN6.out.next hb).cell 0 (by simp)
  have d1 := (HN6.out.next hb).cell 1 (by simp)
  clear hb
  clear c0 c1 c2 c3 c4 c5 c6 c7 c8
  go_wp2_with fail
  go_ret
  exact ⟨rfl, HUP.out _ HB9.out⟩
end Go.Proofs.YtpeagakpmjnelaaDoor.Ax
