/- hop: HopOrders's walk. -/
import Derived.Test.YtbblcieafmpfgaaWF
import Derived.Test.YtbblcieafmpfgaaWG
import Derived.Test.YtbblcieafmpfgaaWM
import Derived.Test.YtbblcieafmpfgaaWN
namespace Go.Proofs.Ytbblcieafmpfgaa
open Go.RowKit
set_option linter.unusedVariables false
set_option linter.unusedSimpArgs false

/-- What is left when the list may not be turned. -/
theorem hop_nil (l : List Ifc) (n : Nat) (hn : l.length = n) (h : n = 0) : l = [] := List.eq_nil_of_length_eq_zero (by omega)
set_option maxRecDepth 100000 in
set_option maxHeartbeats 8000000 in
theorem horders_walk (w : World) (p : Option Addr) (l : List Ifc) (n c : Nat) (hl : IfsAt w p l) (hn : l.length = n) (hnc : n ≤ c) (hmx : n ≤ maxLen) (t : Int) (r : Int) (a : Int) (a0 : 0 ≤ a) (a1 : a < 4294967296) :
    Calls Try.prog 4 #[.slice p n c, .int .i64 t, .int .i64 r, .int .u32 a] w fun e w' => e = .returned (.bool true) ∧ Below w.heap.size w w' := by
  have HL := Lib.hid hl
  have HN := Lib.hid hn
  have HNC := Lib.hid hnc
  have HLV := Lib.hid (lives_any w)
  have HC := Lib.hid (rcheckI_any p l n c w hl hn hmx)
  clear hl hn hnc hmx
  go_enter Try.func4, Try.ntmps4
  go_wp2_with fail
  · refine HLV.out.mono ?_
    rintro e w1 ⟨rfl, hb⟩
    have HB1 := Lib.hid hb
    clear hb
    go_wp2_with fail
    go_ret
    exact ⟨rfl, HB1.out⟩
  rotate_left
  · refine HLV.out.mono ?_
    rintro e w1 ⟨rfl, hb⟩
    have HB1 := Lib.hid hb
    clear hb
    go_wp2_with fail
    go_ret
    exact ⟨rfl, HB1.out⟩
  · refine HLV.out.mono ?_
    rintro e w1 ⟨rfl, hb⟩
    have HB1 := Lib.hid hb
    clear hb
    go_wp2_with fail
    go_ret
    exact ⟨rfl, HB1.out⟩
  refine HC.out.mono ?_
  rintro e w1 ⟨rfl, hb⟩
  have HB1 := Lib.hid hb
  have HLV1 := Lib.hid (lives_any w1)
  obtain ⟨T, rfl⟩ : ∃ T : Nat, t = T := ⟨t.toNat, by omega⟩
  have hn0 : 0 < n := by omega
  obtain ⟨o, ho⟩ : ∃ o, okIfs l = o := ⟨_, rfl⟩
  rw [ho]
  clear hb HC HLV
  rcases o with _ | _
  · clear ho
    go_wp2_with fail
    refine HLV1.out.mono ?_
    rintro e w2 ⟨rfl, hb⟩
    have HB2 := Lib.hid (HB1.out.trans (hb.mono HB1.out.size))
    clear hb
    go_wp2_with fail
    go_ret
    exact ⟨rfl, HB2.out⟩
  · have hDn : T % n < n := Nat.mod_lt _ hn0
    have m1 : Int.tmod (T : Int) (n : Int) = ((T % n : Nat) : Int) := by rw [Int.tmod_eq_emod_of_nonneg (by omega)]; omega
    obtain ⟨D, hD⟩ : ∃ D, T % n = D := ⟨_, rfl⟩
    rw [hD] at hDn m1
    have n1 : ((n : Int) == 0) = false := by simp; omega
    have n2 : decide ((n : Int) = 0) = false := by simp; omega
    have n3 : ¬ (n : Int) = 0 := by omega
    obtain ⟨Q1, hc1, hq1⟩ := cutI_l w p l n c D HL.out HN.out (by omega) HNC.out
    obtain ⟨Q2, hc2, hq2⟩ := cutI_h w p l n c D HL.out HN.out (by omega) HNC.out
    obtain ⟨N1, hN1⟩ : ∃ N, n - D = N := ⟨_, rfl⟩
    obtain ⟨C1, hC1⟩ : ∃ C, c - D = C := ⟨_, rfl⟩
    rw [hN1, hC1] at hc1
    have HQ1 := Lib.hid hq1
    have HQ2 := Lib.hid hq2
    have HND := Lib.hid (show N1 + D = n by omega)
    have HDN := Lib.hid hDn
    have HO := Lib.hid ho
    have HNEW := Lib.hid (newH_any p l n c w1 (HL.out.below HB1.out) HN.out)
    have HP := Lib.hid (turn_perm l D)
    have HT1 := Lib.hid (show (l.drop D).length = N1 by rw [List.length_drop, HN.out]; exact hN1)
    have HT2 := Lib.hid (show (l.take D).length = D by rw [List.length_take, HN.out]; omega)
    clear ho hD hN1 hC1 hq1 hq2 HLV1
    go_wp2_with fail
    refine HNEW.out.mono ?_
    rintro e w2 ⟨hb, _, hy⟩
    obtain ⟨h1, b1, F1, rfl, hH⟩ := hy HO.out
    have HB2 := Lib.hid (HB1.out.trans (hb.mono HB1.out.size))
    have HH2 := Lib.hid hH
    have OL := Lib.hid (show IfsOwn (w2.drew.alloc (.cells #[] 34)) w2.heap.size (some ⟨w2.heap.size, 0, none⟩) 0 0 [] from IfsOwn.lit0 w2.drew w2.heap.size (Nat.le_refl _))
    have BA : Hid (Below w2.heap.size w2 (w2.drew.alloc (.cells #[] 34))) := Lib.hid ((Below.refl _ _).drew.alloc (Nat.le_refl _) _)
    have QA1 := Lib.hid (HQ1.out.below (HB2.out.trans (BA.out.mono HB2.out.size)))
    have HQB := Lib.hid (fun (W : World) (h : Below w2.heap.size w2 W) => HQ2.out.below (HB2.out.trans (h.mono HB2.out.size)))
    have hO256 := ((okIfs_iff l).1 HO.out).1
    have HL256 := Lib.hid (show n ≤ 256 by rw [← HN.out]; exact hO256)
    have HOT := Lib.hid (okIfs_perm HP.out HO.out)
    have HLT := Lib.hid (show (l.drop D ++ l.take D).length = n by rw [← HP.out.length_eq]; exact HN.out)
    have hS : True := trivial
    clear hb hy hH HNEW hO256
    go_wp2_with fail
    go_region_held_law (fun W => True) (trivial) (first
      | (refine step_appnsJ (o := ⟨some 50, _, _, _, _, _⟩) ?hw (.tmp 46) (.tmp 49) rfl w2.heap.size (some ⟨w2.heap.size, 0, none⟩) 0 0 [] OL.out rfl Q1 N1 C1 (l.drop D) QA1.out ?c1 rfl N1 ?c2 ?c3 ?c4 ?_; (case hw => rfl); (case c1 => exact HT1.out); (case c2 => omega); (case c3 => have := HL256.out; have := HND.out; omega); (case c4 => exact BA.out.size); intro q10 c10 w10 hO10 hB10; have BB := Lib.hid (BA.out.trans hB10.out); have MA := Lib.hid (HQB.out _ BB.out))
      | (refine step_appnsJ (o := ⟨some 54, _, _, _, _, _⟩) ?hw (.tmp 50) (.tmp 53) rfl w2.heap.size q10 N1 c10 ([] ++ l.drop D) hO10.out rfl Q2 D c (l.take D) MA.out ?c1 rfl n ?c2 ?c3 ?c4 ?_; (case hw => rfl); (case c1 => exact HT2.out); (case c2 => exact HND.out); (case c3 => have := HL256.out; omega); (case c4 => exact BB.out.size); intro q11 c11 w20 hO11 hB11; have BC := Lib.hid (BB.out.trans hB11.out); have MM := Lib.hid (show IfsAt w20 q11 (l.drop D ++ l.take D) from hO11.out.at); have HNB := Lib.hid (newH_any q11 (l.drop D ++ l.take D) n c11 w20 MM.out HLT.out))
      | (go_at_call 8; refine HNB.out.mono ?_; rintro e w3 ⟨hb, _, hy⟩; obtain ⟨h2, b2, F2, rfl, hG⟩ := hy HOT.out; have BD := Lib.hid (BC.out.trans (hb.mono BC.out.size)); have HG := Lib.hid hG; clear hb hy hG))
    have HB3 := Lib.hid (HB2.out.trans (BD.out.mono HB2.out.size))
    have HH3 := Lib.hid (HH2.out.below BD.out)
    have hf1 := hfind_any w3 w1.heap.size h1 b1 F1 l HH3.out r a a0 a1
    have hfv := findV_perm HP.out HO.out r a
    obtain ⟨⟨xi, xr, xa, xn, xc⟩, hx⟩ : ∃ x, (findV l r a).getD Ifc.zero = x := ⟨_, rfl⟩
    obtain ⟨bs, hbs⟩ : ∃ x, (findV l r a).isSome = x := ⟨_, rfl⟩
    rw [hx, hbs] at hf1
    have e1 : ifV (⟨xi, xr, xa, xn, xc⟩ : Ifc) = .agg #[.int .i64 xi, .int .i64 xr, .int .u32 xa, .int .i64 xn, .int .i64 xc] := rfl
    rw [e1] at hf1
    have HF1 := Lib.hid hf1
    have HF2 := Lib.hid (fun (W : World) (h : Below w3.heap.size w3 W) => show Calls Try.prog 11 #[.pointer (some ⟨h2, 0, none⟩), .int .i64 r, .int .u32 a] W (fun e w' => e = .returned (.tuple #[.agg #[.int .i64 xi, .int .i64 xr, .int .u32 xa, .int .i64 xn, .int .i64 xc], .bool bs]) ∧ Below W.heap.size W w') from by
      have h2 := hfind_any W w20.heap.size h2 b2 F2 (l.drop D ++ l.take D) (HG.out.below h) r a a0 a1
      rw [hfv, hx, hbs] at h2
      exact h2)
    clear hf1 hfv hx hbs e1 hO10 hB10 hO11 hB11 BA BB BC OL QA1 MA MM HNB HH2
    go_wp2_with fail
    refine HF1.out.mono ?_
    rintro e w4 ⟨rfl, hb⟩
    have hb4 := hb.trans ((newB w4 (.cells #[.int .i64 xi, .int .i64 xr, .int .u32 xa, .int .i64 xn, .int .i64 xc] 34)).mono hb.size)
    obtain ⟨W4, hW4⟩ : ∃ W, w4.alloc (.cells #[.int .i64 xi, .int .i64 xr, .int .u32 xa, .int .i64 xn, .int .i64 xc] 34) = W := ⟨_, rfl⟩
    rw [hW4] at hb4
    have HB4 := Lib.hid (HB3.out.trans (hb4.mono HB3.out.size))
    have HX4 := Lib.hid (show Blk W4 w4.heap.size 34 [.int .i64 xi, .int .i64 xr, .int .u32 xa, .int .i64 xn, .int .i64 xc] from hW4 ▸ Blk.new w4 34 [.int .i64 xi, .int .i64 xr, .int .u32 xa, .int .i64 xn, .int .i64 xc])
    have HH4 := Lib.hid (HH3.out.below hb4)
    have HG4 := Lib.hid (HG.out.below hb4)
    have HG2 := Lib.hid (HF2.out W4 hb4)
    have HWE4 := Lib.hid hW4
    clear hb hb4 hW4 HF1 HF2 HH3 HG
    go_wp2_with fail
    rw [HWE4.out]
    refine HG2.out.mono ?_
    rintro e w5 ⟨rfl, hb⟩
    have hb5 := hb.trans ((newB w5 (.cells #[.int .i64 xi, .int .i64 xr, .int .u32 xa, .int .i64 xn, .int .i64 xc] 34)).mono hb.size)
    obtain ⟨W5, hW5⟩ : ∃ W, w5.alloc (.cells #[.int .i64 xi, .int .i64 xr, .int .u32 xa, .int .i64 xn, .int .i64 xc] 34) = W := ⟨_, rfl⟩
    rw [hW5] at hb5
    have HB5 := Lib.hid (HB4.out.trans (hb5.mono HB4.out.size))
    have HX5 := Lib.hid (HX4.out.next hb5)
    have HY5 := Lib.hid (show Blk W5 w5.heap.size 34 [.int .i64 xi, .int .i64 xr, .int .u32 xa, .int .i64 xn, .int .i64 xc] from hW5 ▸ Blk.new w5 34 [.int .i64 xi, .int .i64 xr, .int .u32 xa, .int .i64 xn, .int .i64 xc])
    have HH5 := Lib.hid (HH4.out.below hb5)
    have HG5 := Lib.hid (HG4.out.below hb5)
    have HWE5 := Lib.hid hW5
    have HLV := Lib.hid (lives_any W5)
    clear hb hb5 hW5 HG2 HX4 HH4 HG4
    have hq : ∀ u, (binOp .eql 34 (.agg #[.int .i64 xi, .int .i64 xr, .int .u32 xa, .int .i64 xn, .int .i64 xc]) (.agg #[.int .i64 xi, .int .i64 xr, .int .u32 xa, .int .i64 xn, .int .i64 xc])).run Try.prog u = .ok (.bool true) u := fun u => (if_eql ⟨xi, xr, xa, xn, xc⟩ ⟨xi, xr, xa, xn, xc⟩ u).trans (by rw [(eqI_iff _ _).2 rfl])
    have hg := if_eqGuard
    go_wp2_with fail
    rw [HWE5.out]
    refine HLV.out.mono ?_
    rintro e w6 ⟨rfl, hb⟩
    have HB6 := Lib.hid (HB5.out.trans (hb.mono HB5.out.size))
    have HH6 := Lib.hid (HH5.out.below hb)
    have HG6 := Lib.hid (HG5.out.below hb)
    have HX6 := Lib.hid (HX5.out.next hb)
    have HY6 := Lib.hid (HY5.out.next hb)
    obtain ⟨x0, x1, x2, x3, x4⟩ := if_boxes HX6.out
    obtain ⟨y0, y1, y2, y3, y4⟩ := if_boxes HY6.out
    have HA1 := Lib.hid (fun (W : World) (h : Below w6.heap.size w6 W) => all_ok W _ h1 b1 F1 l (HH6.out.below h) HO.out HL.out.ok (by rw [HN.out]; have := HL256.out; omega))
    have HA2 := Lib.hid (fun (W : World) (h : Below w6.heap.size w6 W) => all_ok W _ h2 b2 F2 (l.drop D ++ l.take D) (HG6.out.below h) HOT.out (fun x hx => HL.out.ok x (HP.out.mem_iff.2 hx)) (by rw [HLT.out]; have := HL256.out; omega))
    clear hb HLV HX5 HY5 HH5 HG5
    have hbb : (bs == bs) = true := by simp
    go_wp2_with fail
    refine (HA1.out w6 (Below.refl _ _)).mono ?_
    rintro e w7 ⟨q1, k1, d1, s1, rfl, hk1, hp1, hs1, hat1, hb⟩
    have HB7 := Lib.hid hb
    have HK1 := Lib.hid hk1
    have HP1 := Lib.hid hp1
    have HS1 := Lib.hid hs1
    have HT7 := Lib.hid hat1
    have HA3 := Lib.hid (HA2.out w7 hb)
    clear hk1 hp1 hs1 hat1 hb HA1 HA2
    go_wp2_with fail
    refine HA3.out.mono ?_
    rintro e w8 ⟨q2, k2, d2, s2, rfl, hk2, hp2, hs2, hat2, hb⟩
    have HB8 := Lib.hid (HB7.out.trans (hb.mono HB7.out.size))
    obtain rfl : s1 = s2 := sorted_one HS1.out hs2 ((HP1.out.symm.trans HP.out).trans hp2)
    obtain rfl : k1 = k2 := by rw [← HK1.out, hk2]
    have HSM := Lib.hid (rsameI_yes q1 q2 s1 k1 d1 d2 w8 (HT7.out.below hb) hat2 HK1.out (by rw [← HK1.out, ← HP1.out.length_eq, HN.out]; have := HL256.out; unfold maxLen; omega))
    clear hk2 hp2 hs2 hat2 hb HA3
    go_wp2_with fail
    refine HSM.out.mono ?_
    rintro e w9 ⟨rfl, hb⟩
    have HB9 := Lib.hid (HB8.out.trans (hb.mono HB8.out.size))
    clear hb
    go_wp2_with fail
    go_ret
    exact ⟨rfl, HB6.out.trans (HB9.out.mono HB6.out.size)⟩
end Go.Proofs.Ytbblcieafmpfgaa
