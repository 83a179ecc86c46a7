/- hop: HopFinds' walk. -/
import Derived.Test.YtfibkccgpkeenaaWT
import Derived.Test.YtfibkccgpkeenaaWQ
import Derived.Test.YtfibkccgpkeenaaWD
import Derived.Test.YtfibkccgpkeenaaWG
namespace Go.Proofs.Ytfibkccgpkeenaa
open Go.RowKit
set_option linter.unusedVariables false
set_option linter.unusedSimpArgs false
set_option maxRecDepth 100000

theorem ifv_flat (x : Ifc) : ∃ x0 x1 x2 x3 x4 : Int, x = ⟨x0, x1, x2, x3, x4⟩ := ⟨x.id, x.r, x.a, x.n, x.c, rfl⟩
set_option maxHeartbeats 16000000 in
theorem hfinds_walk (w : World) (p : Option Addr) (l : List Ifc) (n c : Nat) (hl : IfsAt w p l) (hn : l.length = n) (hm : n ≤ maxLen) (r : Int) (a : Int) (a0 : 0 ≤ a) (a1 : a < 4294967296) (id : Int) (hid : (Lit.int .i64 id).wf = true) :
    Calls Try.prog 3 #[.slice p n c, .int .i64 r, .int .u32 a, .int .i64 id] w fun e w' => e = .returned (.bool true) ∧ Below w.heap.size w w' := by
  have HL := Lib.hid hl
  have HN := Lib.hid hn
  have hmx := hm
  unfold maxLen at hm
  by_cases h300 : n ≤ 300
  rotate_left
  · have t0 : decide ((300 : Int) < (n : Int)) = true := decide_eq_true (by omega)
    have HLV := Lib.hid (lives_any w)
    clear hl hn
    go_enter Try.func3, Try.ntmps3
    go_wp2_with fail
    refine HLV.out.mono ?_
    rintro e w1 ⟨rfl, hb⟩
    have HB := Lib.hid hb
    clear hb
    go_wp2_with fail
    go_ret
    exact ⟨rfl, HB.out⟩
  have t0 : decide ((300 : Int) < (n : Int)) = false := decide_eq_false (by omega)
  have HNW := Lib.hid (newH_any p l n c w hl hn)
  obtain ⟨o, ho⟩ : ∃ o, okIfs l = o := ⟨_, rfl⟩
  have HO := Lib.hid ho
  clear hl hn
  rcases o with _ | _
  · go_enter Try.func3, Try.ntmps3
    go_wp2_with fail
    refine HNW.out.mono ?_
    rintro e w1 ⟨hb, hno, _⟩
    obtain rfl := hno ho
    have HB1 := Lib.hid hb
    have HLV := Lib.hid (lives_any w1)
    clear hb hno ho HNW
    go_wp2_with fail
    refine HLV.out.mono ?_
    rintro e w2 ⟨rfl, hb⟩
    have hb2 := HB1.out.trans (hb.mono HB1.out.size)
    have HB2 := Lib.hid hb2
    have hck := rcheckI_any p l n c w2 (HL.out.below hb2) HN.out hmx
    rw [HO.out] at hck
    have HCK := Lib.hid hck
    clear hb hb2 hck HLV
    go_wp2_with fail
    refine HCK.out.mono ?_
    rintro e w3 ⟨rfl, hb⟩
    have HB3 := Lib.hid (HB2.out.trans (hb.mono HB2.out.size))
    have hc := checkH_any p l n c w3 (HL.out.below HB3.out) HN.out
    rw [HO.out] at hc
    have HC := Lib.hid (show Calls Try.prog 10 #[.slice p n c] w3 fun e w' => e = .returned (.int .i64 160) ∧ Below w3.heap.size w3 w' from hc)
    clear hb hc HCK
    go_wp2_with fail
    refine HC.out.mono ?_
    rintro e w4 ⟨rfl, hb⟩
    have HB4 := Lib.hid (HB3.out.trans (hb.mono HB3.out.size))
    clear hb
    go_wp2_with fail
    go_ret
    exact ⟨rfl, HB4.out⟩
  go_enter Try.func3, Try.ntmps3
  go_wp2_with fail
  refine HNW.out.mono ?_
  rintro e w1 ⟨hb, _, hy⟩
  obtain ⟨h, b, F, rfl, hH⟩ := hy ho
  have HB1 := Lib.hid hb
  have HH1 := Lib.hid hH
  have HLV := Lib.hid (lives_any w1)
  clear hb hy hH ho HNW
  go_wp2_with fail
  refine HLV.out.mono ?_
  rintro e w2 ⟨rfl, hb⟩
  have hb2 := HB1.out.trans (hb.mono HB1.out.size)
  have HB2 := Lib.hid hb2
  have HH2 := Lib.hid (HH1.out.below hb)
  have hck := rcheckI_any p l n c w2 (HL.out.below hb2) HN.out hmx
  rw [HO.out] at hck
  have HCK := Lib.hid hck
  clear hb hb2 hck HLV HH1
  go_wp2_with fail
  refine HCK.out.mono ?_
  rintro e w3 ⟨rfl, hb⟩
  have HB3 := Lib.hid (HB2.out.trans (hb.mono HB2.out.size))
  have HH3 := Lib.hid (HH2.out.below hb)
  have hc := checkH_any p l n c w3 (HL.out.below HB3.out) HN.out
  rw [HO.out] at hc
  have HC := Lib.hid (show Calls Try.prog 10 #[.slice p n c] w3 fun e w' => e = .returned (.int .i64 0) ∧ Below w3.heap.size w3 w' from hc)
  clear hb hc HCK HH2
  go_wp2_with fail
  refine HC.out.mono ?_
  rintro e w4 ⟨rfl, hb⟩
  have HB4 := Lib.hid (HB3.out.trans (hb.mono HB3.out.size))
  have HH4 := Lib.hid (HH3.out.below hb)
  obtain ⟨f0, f1, f2, f3, f4, hfx⟩ := ifv_flat ((findV l r a).getD Ifc.zero)
  obtain ⟨fo, hfo⟩ : ∃ o, (findV l r a).isSome = o := ⟨_, rfl⟩
  obtain ⟨g0, g1, g2, g3, g4, hgx⟩ := ifv_flat ((byId l id).getD Ifc.zero)
  obtain ⟨go, hgo⟩ : ∃ o, (byId l id).isSome = o := ⟨_, rfl⟩
  have hf := hfind_any w4 w.heap.size h b F l HH4.out r a a0 a1
  rw [hfx, hfo] at hf
  have HF := Lib.hid (show Calls Try.prog 11 #[.pointer (some ⟨h, 0, none⟩), .int .i64 r, .int .u32 a] w4 fun e w' => e = .returned (.tuple #[.agg #[.int .i64 f0, .int .i64 f1, .int .u32 f2, .int .i64 f3, .int .i64 f4], .bool fo]) ∧ Below w4.heap.size w4 w' from hf)
  have HFX := Lib.hid hfx
  have HFO := Lib.hid hfo
  have HGX := Lib.hid hgx
  have HGO := Lib.hid hgo
  clear hb hf HC HH3 hfx hfo hgx hgo
  go_wp2_with fail
  refine HF.out.mono ?_
  rintro e w5 ⟨rfl, hb⟩
  have hb5 := hb.trans ((newB w5 (.cells #[.int .i64 f0, .int .i64 f1, .int .u32 f2, .int .i64 f3, .int .i64 f4] 34)).mono hb.size)
  have hX := Blk.new w5 34 [.int .i64 f0, .int .i64 f1, .int .u32 f2, .int .i64 f3, .int .i64 f4]
  obtain ⟨W5, hW5⟩ : ∃ W5, w5.alloc (.cells #[.int .i64 f0, .int .i64 f1, .int .u32 f2, .int .i64 f3, .int .i64 f4] 34) = W5 := ⟨_, rfl⟩
  obtain ⟨P5, hP5⟩ : ∃ P, w5.heap.size = P := ⟨_, rfl⟩
  rw [hW5] at hb5 hX
  rw [hP5] at hX
  have HB5 := Lib.hid (HB4.out.trans (hb5.mono HB4.out.size))
  have HH5 := Lib.hid (HH4.out.below hb5)
  have HX5 := Lib.hid hX
  have HW5 := Lib.hid hW5
  have HP5 := Lib.hid hP5
  have hf := rfindI_any p l n c r a W5 (HL.out.below HB5.out) HN.out HO.out a0 a1
  rw [HFX.out, HFO.out] at hf
  have HF2 := Lib.hid (show Calls Try.prog 12 #[.slice p n c, .int .i64 r, .int .u32 a] W5 fun e w' => e = .returned (.tuple #[.agg #[.int .i64 f0, .int .i64 f1, .int .u32 f2, .int .i64 f3, .int .i64 f4], .bool fo]) ∧ Below W5.heap.size W5 w' from hf)
  clear hb hb5 hX hW5 hP5 hf HF HH4
  go_wp2_with fail
  rw [HW5.out, HP5.out]
  refine HF2.out.mono ?_
  rintro e w6 ⟨rfl, hb⟩
  have hb6 := hb.trans ((newB w6 (.cells #[.int .i64 f0, .int .i64 f1, .int .u32 f2, .int .i64 f3, .int .i64 f4] 34)).mono hb.size)
  have hX := Blk.new w6 34 [.int .i64 f0, .int .i64 f1, .int .u32 f2, .int .i64 f3, .int .i64 f4]
  obtain ⟨W6, hW6⟩ : ∃ W6, w6.alloc (.cells #[.int .i64 f0, .int .i64 f1, .int .u32 f2, .int .i64 f3, .int .i64 f4] 34) = W6 := ⟨_, rfl⟩
  obtain ⟨P6, hP6⟩ : ∃ P, w6.heap.size = P := ⟨_, rfl⟩
  rw [hW6] at hb6 hX
  rw [hP6] at hX
  have HB6 := Lib.hid (HB5.out.trans (hb6.mono HB5.out.size))
  have HH6 := Lib.hid (HH5.out.below hb6)
  have HX56 := Lib.hid (HX5.out.next hb6)
  have HX6 := Lib.hid hX
  have HW6 := Lib.hid hW6
  have HP6 := Lib.hid hP6
  have hi := hiface_any W6 w.heap.size h b F l HH6.out id hid
  rw [HGX.out, HGO.out] at hi
  have HI := Lib.hid (show Calls Try.prog 13 #[.pointer (some ⟨h, 0, none⟩), .int .i64 id] W6 fun e w' => e = .returned (.tuple #[.agg #[.int .i64 g0, .int .i64 g1, .int .u32 g2, .int .i64 g3, .int .i64 g4], .bool go]) ∧ Below W6.heap.size W6 w' from hi)
  clear hb hb6 hX hW6 hP6 hi HF2 HH5 HX5
  go_wp2_with fail
  rw [HW6.out, HP6.out]
  refine HI.out.mono ?_
  rintro e w7 ⟨rfl, hb⟩
  have hb7 := hb.trans ((newB w7 (.cells #[.int .i64 g0, .int .i64 g1, .int .u32 g2, .int .i64 g3, .int .i64 g4] 34)).mono hb.size)
  have hX := Blk.new w7 34 [.int .i64 g0, .int .i64 g1, .int .u32 g2, .int .i64 g3, .int .i64 g4]
  obtain ⟨W7, hW7⟩ : ∃ W7, w7.alloc (.cells #[.int .i64 g0, .int .i64 g1, .int .u32 g2, .int .i64 g3, .int .i64 g4] 34) = W7 := ⟨_, rfl⟩
  obtain ⟨P7, hP7⟩ : ∃ P, w7.heap.size = P := ⟨_, rfl⟩
  rw [hW7] at hb7 hX
  rw [hP7] at hX
  have HB7 := Lib.hid (HB6.out.trans (hb7.mono HB6.out.size))
  have HH7 := Lib.hid (HH6.out.below hb7)
  have HX57 := Lib.hid (HX56.out.next hb7)
  have HX67 := Lib.hid (HX6.out.next hb7)
  have HX7 := Lib.hid hX
  have HW7 := Lib.hid hW7
  have HP7 := Lib.hid hP7
  have hi := rifaceI_any p l n c id W7 (HL.out.below HB7.out) HN.out hmx
  rw [HGX.out, HGO.out] at hi
  have HI2 := Lib.hid (show Calls Try.prog 14 #[.slice p n c, .int .i64 id] W7 fun e w' => e = .returned (.tuple #[.agg #[.int .i64 g0, .int .i64 g1, .int .u32 g2, .int .i64 g3, .int .i64 g4], .bool go]) ∧ Below W7.heap.size W7 w' from hi)
  clear hb hb7 hX hW7 hP7 hi HI HH6 HX56 HX6
  go_wp2_with fail
  rw [HW7.out, HP7.out]
  refine HI2.out.mono ?_
  rintro e w8 ⟨rfl, hb⟩
  have hb8 := hb.trans ((newB w8 (.cells #[.int .i64 g0, .int .i64 g1, .int .u32 g2, .int .i64 g3, .int .i64 g4] 34)).mono hb.size)
  have hX := Blk.new w8 34 [.int .i64 g0, .int .i64 g1, .int .u32 g2, .int .i64 g3, .int .i64 g4]
  obtain ⟨W8, hW8⟩ : ∃ W8, w8.alloc (.cells #[.int .i64 g0, .int .i64 g1, .int .u32 g2, .int .i64 g3, .int .i64 g4] 34) = W8 := ⟨_, rfl⟩
  obtain ⟨P8, hP8⟩ : ∃ P, w8.heap.size = P := ⟨_, rfl⟩
  rw [hW8] at hb8 hX
  rw [hP8] at hX
  have HB8 := Lib.hid (HB7.out.trans (hb8.mono HB7.out.size))
  have HH8 := Lib.hid (HH7.out.below hb8)
  have hX5 := HX57.out.next hb8
  have hX6 := HX67.out.next hb8
  have hX7 := HX7.out.next hb8
  obtain ⟨a0', a1', a2', a3', a4'⟩ := if_boxes hX5
  obtain ⟨b0', b1', b2', b3', b4'⟩ := if_boxes hX6
  obtain ⟨c0', c1', c2', c3', c4'⟩ := if_boxes hX7
  obtain ⟨d0', d1', d2', d3', d4'⟩ := if_boxes hX
  rw [← hW8] at a0' a1' a2' a3' a4' b0' b1' b2' b3' b4' c0' c1' c2' c3' c4'
  rw [← hW8, ← hP8] at d0' d1' d2' d3' d4'
  have HW8 := Lib.hid hW8
  have hq1 : ∀ u, (binOp .eql 34 (.agg #[.int .i64 f0, .int .i64 f1, .int .u32 f2, .int .i64 f3, .int .i64 f4]) (.agg #[.int .i64 f0, .int .i64 f1, .int .u32 f2, .int .i64 f3, .int .i64 f4])).run Try.prog u = .ok (.bool true) u := fun u => (if_eql ⟨f0, f1, f2, f3, f4⟩ ⟨f0, f1, f2, f3, f4⟩ u).trans (by rw [(eqI_iff _ _).2 rfl])
  have hq2 : ∀ u, (binOp .eql 34 (.agg #[.int .i64 g0, .int .i64 g1, .int .u32 g2, .int .i64 g3, .int .i64 g4]) (.agg #[.int .i64 g0, .int .i64 g1, .int .u32 g2, .int .i64 g3, .int .i64 g4])).run Try.prog u = .ok (.bool true) u := fun u => (if_eql ⟨g0, g1, g2, g3, g4⟩ ⟨g0, g1, g2, g3, g4⟩ u).trans (by rw [(eqI_iff _ _).2 rfl])
  have hg := if_eqGuard
  have hfo1 : (fo == fo) = true := by simp
  have hgo1 : (go == go) = true := by simp
  have HIN := Lib.hid (fun x hx => HL.out.ok x hx)
  have HA := Lib.hid (all_ok W8 w.heap.size h b F l HH8.out HO.out HIN.out (by rw [HN.out]; omega))
  clear hb hb8 hW8 hP8 HI2 HH7 hX5 hX6 hX7 hX
  go_wp2_with fail
  rw [HW8.out]
  refine HA.out.mono ?_
  rintro e w9 ⟨q, k, cap, ss, rfl, hk, hperm, hsort, hat, hb⟩
  have HB9 := Lib.hid (HB8.out.trans (hb.mono HB8.out.size))
  have HH9 := Lib.hid (HH8.out.below hb)
  have HK := Lib.hid hk
  have HP := Lib.hid hperm
  have HS := Lib.hid hsort
  have HAT := Lib.hid hat
  have HR := Lib.hid (rsortI_any p l n c w9 (HL.out.below HB9.out) HN.out HO.out)
  clear hk hperm hsort hat hb HA a0' a1' a2' a3' a4' b0' b1' b2' b3' b4' c0' c1' c2' c3' c4' d0' d1' d2' d3' d4'
  go_wp2_with fail
  refine HR.out.mono ?_
  rintro e w10 ⟨q2, k2, cap2, ss2, rfl, hk2, _, hperm2, hsort2, hat2, hb⟩
  obtain rfl : ss = ss2 := sorted_one HS.out hsort2 (HP.out.symm.trans hperm2)
  obtain rfl : k = k2 := HK.out.symm.trans hk2
  have HB10 := Lib.hid (HB9.out.trans (hb.mono HB9.out.size))
  have HH10 := Lib.hid (HH9.out.below hb)
  have hkn : k = n := by rw [← HK.out, ← HP.out.length_eq, HN.out]
  have HSM := Lib.hid (rsameI_yes q q2 ss k cap cap2 w10 (HAT.out.below hb) hat2 HK.out (by rw [hkn]; exact hmx))
  clear hk2 hperm2 hsort2 hat2 hb HR hkn
  go_wp2_with fail
  refine HSM.out.mono ?_
  rintro e w11 ⟨rfl, hb⟩
  have HB11 := Lib.hid (HB10.out.trans (hb.mono HB10.out.size))
  have hln := hlen_any w11 w.heap.size h b F l (HH10.out.below hb)
  rw [HN.out] at hln
  have HLN := Lib.hid hln
  have hnn : ((n : Int) == (n : Int)) = true := by simp
  clear hb hln HSM
  go_wp2_with fail
  refine HLN.out.mono ?_
  rintro e w12 ⟨rfl, rfl⟩
  go_wp2_with fail
  go_ret
  exact ⟨ret_bool (by simp), HB11.out⟩
theorem hfinds_arg (w : World) (x : Option Addr × List Ifc × Nat) (hx : IfsArg w x) (r : Int) (_ : (Lit.int .i64 r).wf = true) (a : Int) (a0 : 0 ≤ a) (a1 : a ≤ 4294967295) (id : Int) (hid : (Lit.int .i64 id).wf = true) :
    Calls Try.prog 3 #[.slice x.1 x.2.1.length x.2.2, .int .i64 r, .int .u32 a, .int .i64 id] w fun e w' => e = .returned (.bool true) ∧ Below w.heap.size w w' :=
  hfinds_walk w x.1 x.2.1 _ _ hx.at_ rfl (Nat.le_trans hx.le hx.max) r a a0 (by omega) id hid
end Go.Proofs.Ytfibkccgpkeenaa
