/- AttrLess: the walk. -/
import Derived.Test.YtimphnabbknkmaaDoorAQ
import Derived.Test.YtimphnabbknkmaaDoorAM
namespace Go.Proofs.YtimphnabbknkmaaDoor
open Go.RowKit

theorem attrL_le (fl k : Int) (d : List Int) : (attrL fl k d).length ≤ d.length + 4 := by
  unfold attrL
  split
  · simp
  · simp [putL_len]; omega
theorem tailA_le (a : At) (four : Bool) (hk : okA a four = true) : (tailA a four).length ≤ 10000 := by
  obtain ⟨hp, _⟩ := okA_parts hk
  have h1 := attrL_le 64 2 (segsL four a.path)
  have h2 := attrL_le 64 3 (putL a.next 4)
  have h3 := attrL_le 128 4 (putL a.med 4)
  have h4 := attrL_le 64 5 (putL a.pref 4)
  have h5 := attrL_le 192 8 (numsL 4 a.comms)
  have hs := segsL_le hp.path
  have hc := hp.c0
  rw [putL_len] at h2 h3 h4
  rw [numsL_len] at h5
  have m1 : (medL a.med).length ≤ 8 := by
    unfold medL
    split
    · omega
    · simp
  have m2 : (prefL a.pref).length ≤ 8 := by
    unfold prefL
    split
    · omega
    · simp
  have m3 : (commsL a.comms).length ≤ 132 := by
    unfold commsL
    split
    · omega
    · simp
  unfold tailA
  simp only [List.length_append]
  omega
theorem putA_len (a : At) (four : Bool) (hk : okA a four = true) : 14 ≤ (putA a four).length ∧ (putA a four).length ≤ 10004 ∧ ((putA a four).drop 4).length = (putA a four).length - 4 := by
  have h := tailA_len a four
  have h2 := tailA_le a four hk
  have hpl : (putA a four).length = (tailA a four).length + 4 := by rw [putA_tail, List.length_append]; simp [attrL]; omega
  exact ⟨by omega, by omega, by rw [List.length_drop]⟩
theorem zero_box (w : World) : AtAt w At.zero ⟨none, 0, 0, none, 0, 0⟩ := zero_at w
theorem getZ (four : Bool) (p : Option Addr) (xs : List Int) (n cap : Nat) (w : World) (ht : Tab w) (hb : BytesAt w p xs) (hn : xs.length = n) (hl : n ≤ 1000000) (hg : getA xs four = (At.zero, 2)) :
    Calls Tryd.prog 12 #[.slice p n cap, .bool four] w fun e w' => ∃ (pp cp : Option Addr) (pc cc : Nat), e = .returned (.tuple #[.agg #[.int .i64 0, .slice pp 0 pc, .int .u32 0, .int .i64 0, .int .i64 0, .slice cp 0 cc], .int .i64 2]) ∧ AtAt w' At.zero ⟨pp, 0, pc, cp, 0, cc⟩ ∧ Below w.heap.size w w' := by
  have h := getA_any four p xs n cap w ht hb hn hl
  rw [hg] at h
  refine h.mono ?_; rintro e w' ⟨⟨pp, pn, pc, cp, cn, cc⟩, rfl, ha, hb⟩
  have h1 : 0 = pn := ha.pn
  have h2 : 0 = cn := ha.cn
  subst h1 h2
  exact ⟨pp, cp, pc, cc, rfl, ha, hb⟩
theorem sameZ (pp cp qp dp : Option Addr) (pc cc qc dc : Nat) (w : World) (h1 : AtAt w At.zero ⟨pp, 0, pc, cp, 0, cc⟩) (h2 : AtAt w At.zero ⟨qp, 0, qc, dp, 0, dc⟩) :
    Calls Tryd.prog 14 #[.agg #[.int .i64 0, .slice pp 0 pc, .int .u32 0, .int .i64 0, .int .i64 0, .slice cp 0 cc], .agg #[.int .i64 0, .slice qp 0 qc, .int .u32 0, .int .i64 0, .int .i64 0, .slice dp 0 dc]] w fun e w' => e = .returned (.bool true) ∧ Below w.heap.size w w' := by
  have h := rsame_yes At.zero _ _ w h1 h2
  rw [show (atL At.zero ⟨pp, 0, pc, cp, 0, cc⟩).toArray = #[.int .i64 0, .slice pp 0 pc, .int .u32 0, .int .i64 0, .int .i64 0, .slice cp 0 cc] from rfl, show (atL At.zero ⟨qp, 0, qc, dp, 0, dc⟩).toArray = #[.int .i64 0, .slice qp 0 qc, .int .u32 0, .int .i64 0, .int .i64 0, .slice dp 0 dc] from rfl] at h
  exact h
set_option maxHeartbeats 4000000 in
set_option maxRecDepth 100000 in
theorem attrLess_any (a : At) (l : Loc) (four : Bool) (w : World) (ht : Tab w) (ha : AtAt w a l) :
    Calls Tryd.prog 6 #[.agg (atL a l).toArray, .bool four] w fun e w' => e = .returned (.bool true) ∧ Below w.heap.size w w' := by
  have S0 := BoxSt.new ha
  obtain ⟨W, hW⟩ : ∃ W, w.alloc (.cells (atL a l).toArray 26) = W := ⟨_, rfl⟩
  rw [hW] at S0
  have HS := Lib.hid S0
  have HW := Lib.hid hW
  have HT := Lib.hid ht
  have n0 := ha.n0
  have n1 := ha.n1
  have HLG := Lib.hid (large_any a l W S0.ad)
  have HCK := fun u (h : Below W.heap.size W u) => Lib.hid (rcheck_any a l four u (S0.ad.below h))
  have HPUT := fun (hk : okA a four = true) u (h : Below W.heap.size W u) => Lib.hid (putA_ok a l four u ((ht.below S0.bel).below h) (S0.ad.below h) hk)
  have HLV := fun u (h : Below W.heap.size W u) => Lib.hid (lives_any u ((ht.below S0.bel).below h))
  have HGET := fun (hk : okA a four = true) => Lib.hid (getA_less a four hk n0 n1)
  have HLEN := fun (hk : okA a four = true) => Lib.hid (putA_len a four hk)
  obtain ⟨xs, hxs⟩ : ∃ xs, putA a four = xs := ⟨_, rfl⟩
  rw [hxs] at HPUT HGET HLEN
  have K := Lib.hid S0.kb
  have HB := Lib.hid S0.bel
  obtain ⟨origin, path, next, med, pref, comms⟩ := a
  obtain ⟨pp, pn, pc, cp, cn, cc⟩ := l
  simp only [atL] at *
  have k0 := K.out.cell 0 (by simp)
  have k1 := K.out.cell 1 (by simp)
  have k2 := K.out.cell 2 (by simp)
  have k3 := K.out.cell 3 (by simp)
  have k4 := K.out.cell 4 (by simp)
  have k5 := K.out.cell 5 (by simp)
  simp only [List.getD_cons_zero, List.getD_cons_succ] at k0 k1 k2 k3 k4 k5
  rw [← hW] at k0 k1 k2 k3 k4 k5
  clear S0 hW ht ha n0 n1 hxs
  go_enter Tryd.func6, Tryd.ntmps6
  go_wp2_with fail
  rw [HW.out]
  clear k0 k1 k2 k3 k4 k5
  rcases hlg : largeB ⟨origin, path, next, med, pref, comms⟩ with _ | _
  · rw [hlg] at HLG
    refine HLG.out.mono ?_; rintro e w1 ⟨rfl, hb1⟩
    have K1 := K.out.next hb1
    have k0 := K1.cell 0 (by simp)
    have k1 := K1.cell 1 (by simp)
    have k2 := K1.cell 2 (by simp)
    have k3 := K1.cell 3 (by simp)
    have k4 := K1.cell 4 (by simp)
    have k5 := K1.cell 5 (by simp)
    simp only [List.getD_cons_zero, List.getD_cons_succ] at k0 k1 k2 k3 k4 k5
    have HC1 := HCK w1 hb1
    have HB1 := Lib.hid hb1
    clear K1 hb1 HCK HLG
    go_wp2_with fail
    clear k0 k1 k2 k3 k4 k5
    rcases hok : okA ⟨origin, path, next, med, pref, comms⟩ four with _ | _
    · rw [hok] at HC1
      refine HC1.out.mono ?_; rintro e w2 ⟨rfl, hb2⟩
      have hb := HB1.out.trans (hb2.mono HB1.out.size)
      have HL2 := HLV w2 hb
      have HB2 := Lib.hid (HB.out.trans (hb.mono HB.out.size))
      clear hb hb2 HLV HPUT HGET HLEN
      go_wp2_with fail
      refine HL2.out.mono ?_; rintro e w3 ⟨rfl, hb3⟩
      have HB3 := Lib.hid (HB2.out.trans (hb3.mono HB2.out.size))
      clear hb3
      go_wp2_with fail
      go_ret
      exact ⟨rfl, HB3.out⟩
    · rw [hok] at HC1
      have HPUT := HPUT hok
      have HGET := HGET hok
      have HLEN := HLEN hok
      refine HC1.out.mono ?_; rintro e w2 ⟨rfl, hb2⟩
      have hb := HB1.out.trans (hb2.mono HB1.out.size)
      have HP2 := HPUT w2 hb
      have HB2 := Lib.hid hb
      have K2 := K.out.next hb
      have k0 := K2.cell 0 (by simp)
      have k1 := K2.cell 1 (by simp)
      have k2 := K2.cell 2 (by simp)
      have k3 := K2.cell 3 (by simp)
      have k4 := K2.cell 4 (by simp)
      have k5 := K2.cell 5 (by simp)
      simp only [List.getD_cons_zero, List.getD_cons_succ] at k0 k1 k2 k3 k4 k5
      clear K2 hb hb2 HPUT
      go_wp2_with fail
      clear k0 k1 k2 k3 k4 k5
      refine HP2.out.mono ?_; rintro e w3 ⟨q, cap, rfl, hO, hb3⟩
      have hb := HB2.out.trans (hb3.mono HB2.out.size)
      have HL3 := HLV w3 hb
      have HB3 := Lib.hid hb
      have HO := Lib.hid hO
      clear hb hb3 hO HLV HP2
      go_wp2_with fail
      refine HL3.out.mono ?_; rintro e w4 ⟨rfl, hb4⟩
      have HB4 := Lib.hid (HB3.out.trans (hb4.mono HB3.out.size))
      have HT4 := Lib.hid (HT.out.below (HB.out.trans (HB4.out.mono HB.out.size)))
      have hle := HO.out.le
      have HY := Lib.hid ((HO.out.below hb4).bytes.cutl cap 4 (by have := HLEN.out.1; omega) hle)
      obtain ⟨l14, lmx, ldr⟩ := HLEN.out
      obtain ⟨n, hn⟩ : ∃ n, xs.length = n := ⟨_, rfl⟩
      rw [hn] at l14 lmx ldr hle ⊢
      have E1 := fun u => run_cut_l u q n cap 4 4 rfl (by omega)
      obtain ⟨q4, hq4⟩ : ∃ q4, cutP q cap 4 = q4 := ⟨_, rfl⟩
      rw [hq4] at E1 HY
      have HZ := Lib.hid (getZ four q4 (xs.drop 4) (n - 4) (cap - 4) w4 HT4.out HY.out ldr (by omega) HGET.out)
      have t14 : decide ((n : Int) < 14) = false := by simp; omega
      clear hb4 hq4 hn ldr HLEN
      go_wp2_with fail
      refine HZ.out.mono ?_; rintro e w5 ⟨zp, zq, zc, zd, rfl, hz, hb5⟩
      have hb6 := new_below w5 (.cells #[.int .i64 0, .slice zp 0 zc, .int .u32 0, .int .i64 0, .int .i64 0, .slice zq 0 zd] 26)
      have HSM := Lib.hid (sameZ zp zq none none zc zd 0 0 _ (hz.below hb6) (zero_at _))
      have HB6 := Lib.hid (HB.out.trans (((HB4.out.trans (hb5.mono HB4.out.size)).trans (hb6.mono (Nat.le_trans HB4.out.size hb5.size))).mono HB.out.size))
      clear hb5 hb6 hz HZ E1
      go_wp2_with fail
      refine HSM.out.mono ?_; rintro e w7 ⟨rfl, hb7⟩
      have HB7 := Lib.hid (HB6.out.trans (hb7.mono HB6.out.size))
      clear hb7
      go_wp2_with fail
      go_ret
      exact ⟨rfl, HB7.out⟩
  · rw [hlg] at HLG
    refine HLG.out.mono ?_; rintro e w1 ⟨rfl, hb1⟩
    have HL1 := HLV w1 hb1
    have HB1 := Lib.hid (HB.out.trans (hb1.mono HB.out.size))
    clear hb1 HLV HCK HPUT HGET HLEN
    go_wp2_with fail
    refine HL1.out.mono ?_; rintro e w3 ⟨rfl, hb3⟩
    have HB3 := Lib.hid (HB1.out.trans (hb3.mono HB1.out.size))
    clear hb3
    go_wp2_with fail
    go_ret
    exact ⟨rfl, HB3.out⟩
end Go.Proofs.YtimphnabbknkmaaDoor
