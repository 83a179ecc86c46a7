/- trie: the law's alike: both tell the same. -/
import Derived.Test.YtipecocalmmmbaaTF1
namespace Go.Proofs.Ytipecocalmmmbaa
open Go.RowKit
set_option linter.unusedVariables false
set_option linter.unusedSimpArgs false

set_option maxRecDepth 100000 in
set_option maxHeartbeats 16000000 in
theorem alike_any (w W : World) (t r x : Nat) (N : Int → Nat → Option Nat) (L : List TE) (h : GS w W t r x N L (L.map o3)) (hv : Ints L) (hl : L.length ≤ 1000) (pa pn a : Int) (p0 : 0 ≤ pa) (p1 : pa < 4294967296) (a0 : 0 ≤ a) (a1 : a < 4294967296) :
    Calls Try.prog 14 #[.pointer (some ⟨t, 0, none⟩), .pointer (some ⟨x, 0, none⟩), .agg #[.int .u32 pa, .int .i64 pn], .int .u32 a] W fun e w' => e = .returned (.bool true) ∧ Below W.heap.size W w' := by
  have HA := Lib.hid (newB W (.cells #[.int .u32 pa, .int .i64 pn] 32))
  have hX := Blk.new W 32 [.int .u32 pa, .int .i64 pn]
  obtain ⟨V, hV⟩ : ∃ V, W.alloc (.cells #[.int .u32 pa, .int .i64 pn] 32) = V := ⟨_, rfl⟩
  obtain ⟨P, hP⟩ : ∃ P, W.heap.size = P := ⟨_, rfl⟩
  have hX : Blk V P 32 [.int .u32 pa, .int .i64 pn] := hP ▸ hV ▸ hX
  rw [hV] at HA
  have HX := Lib.hid hX
  have HO := Lib.hid (h.below HA.out)
  have HI := Lib.hid hv
  have HLL := Lib.hid hl
  have HV := Lib.hid hV
  have HP := Lib.hid hP
  have HOK := Lib.hid (show ∀ p ∈ L.map o3, 0 ≤ p.1 ∧ p.1 < 4294967296 from fun p hp => by
    obtain ⟨e, he, rfl⟩ := List.mem_map.1 hp
    exact ⟨(h.tr.tl.ok e he).a0, (h.tr.tl.ok e he).a1⟩)
  have q0 : V.cell? ⟨P, 0, none⟩ = some (.int .u32 pa) := hX.cell 0 (by simp)
  have q1 : V.cell? ⟨P, 1, none⟩ = some (.int .i64 pn) := hX.cell 1 (by simp)
  obtain ⟨gv, hg, hgu⟩ := got_ex h.tr.tl hv pa pn
  have HG1 := get_int V w.heap.size t r _ N L HO.out.tr pa pn p0 p1
  rw [hg] at HG1
  obtain ⟨gb, hgb⟩ : ∃ gb, fB (L.map o3) pa pn = gb := ⟨_, rfl⟩
  rw [hgb] at HG1
  have HG1 := Lib.hid HG1
  have HGU := Lib.hid hgu
  have HGB := Lib.hid hgb
  clear hX hV hP h hv hl hg hgu hgb
  go_enter Try.func14, Try.ntmps14
  go_wp2_with fail
  rw [HV.out, HP.out]
  refine HG1.out.mono ?_
  rintro e w1 ⟨rfl, hb⟩
  have HO1 := Lib.hid (HO.out.below hb)
  have HX1 := Lib.hid (HX.out.next hb)
  have HB1 := Lib.hid (HA.out.trans (hb.mono HA.out.size))
  have q0 : w1.cell? ⟨P, 0, none⟩ = some (.int .u32 pa) := HX1.out.cell 0 (by simp)
  have q1 : w1.cell? ⟨P, 1, none⟩ = some (.int .i64 pn) := HX1.out.cell 1 (by simp)
  have HRG := Lib.hid (rget_any w1 x _ pa pn HO1.out.rf (by simpa using HLL.out))
  rw [HGB.out] at HRG
  clear hb HG1
  go_wp2_with fail
  refine HRG.out.mono ?_
  rintro e w2 ⟨⟨v, rfl, h0, h1⟩, hb⟩
  obtain rfl := HGU.out v (fun h => h0 (HGB.out ▸ h)) (fun y h => h1 y (HGB.out ▸ h))
  have HO2 := Lib.hid (HO1.out.below hb)
  have HX2 := Lib.hid (HX1.out.next hb)
  have HB2 := Lib.hid (HB1.out.trans (hb.mono HB1.out.size))
  clear hb HRG h0 h1 q0 q1
  have HLG1 := Lib.hid (longest_int w2 w.heap.size t r _ N L HO2.out.tr HI.out a a0 a1)
  obtain ⟨xv, hxv⟩ : ∃ xv, lV (.int .i64 0) (lngTo L a 33) = .int .i64 xv := by
    rcases hq : lngTo L a 33 with _ | e
    · exact ⟨0, rfl⟩
    · obtain ⟨d, _, hd⟩ := lngTo_some hq
      exact HI.out e (atT_some hd).1
  obtain ⟨la, ln, hpp⟩ : ∃ la ln : Int, lP (lngTo L a 33) = [.int .u32 la, .int .i64 ln] := by cases lngTo L a 33 <;> exact ⟨_, _, rfl⟩
  obtain ⟨bb, hbb⟩ : ∃ bb, (lngTo L a 33).isSome = bb := ⟨_, rfl⟩
  have HLO := Lib.hid (fun v (h : lngO (L.map o3) a v) => lng_o3 HO2.out.tr.tl HI.out a0 a1 h)
  rw [hxv, hpp, hbb] at HLG1 HLO
  clear hxv hpp hbb
  go_wp2_with fail
  refine HLG1.out.mono ?_
  rintro e w4 ⟨rfl, hb⟩
  have hb2 : Below w2.heap.size w2 (w4.alloc (.cells #[.int .u32 la, .int .i64 ln] 32)) := hb.alloc hb.size _
  have hP := Blk.new w4 32 [.int .u32 la, .int .i64 ln]
  obtain ⟨V4, hV4⟩ : ∃ V, w4.alloc (.cells #[.int .u32 la, .int .i64 ln] 32) = V := ⟨_, rfl⟩
  obtain ⟨P4, hP4⟩ : ∃ P, w4.heap.size = P := ⟨_, rfl⟩
  have hP : Blk V4 P4 32 [.int .u32 la, .int .i64 ln] := hP4 ▸ hV4 ▸ hP
  rw [hV4] at hb2
  have HO4 := Lib.hid (HO2.out.below hb2)
  have HX4 := Lib.hid (HX2.out.next hb2)
  have HB4 := Lib.hid (HB2.out.trans (hb2.mono HB2.out.size))
  have HP4 := Lib.hid hP
  have HV4 := Lib.hid hV4
  have HPP4 := Lib.hid hP4
  clear hb hb2 hP hV4 hP4 HLG1
  have HRL := Lib.hid (rlong_any V4 x _ a a0 a1 HO4.out.rf HOK.out (by simpa using HLL.out))
  go_wp2_with fail
  rw [HV4.out, HPP4.out]
  refine HRL.out.mono ?_
  rintro e w5 ⟨⟨v, rfl, hlo⟩, hb⟩
  obtain rfl := HLO.out v hlo
  have hb2 : Below V4.heap.size V4 (w5.alloc (.cells #[.int .u32 la, .int .i64 ln] 32)) := hb.alloc hb.size _
  have hP := Blk.new w5 32 [.int .u32 la, .int .i64 ln]
  obtain ⟨V5, hV5⟩ : ∃ V, w5.alloc (.cells #[.int .u32 la, .int .i64 ln] 32) = V := ⟨_, rfl⟩
  obtain ⟨P5, hP5⟩ : ∃ P, w5.heap.size = P := ⟨_, rfl⟩
  have hP : Blk V5 P5 32 [.int .u32 la, .int .i64 ln] := hP5 ▸ hV5 ▸ hP
  rw [hV5] at hb2
  have HO5 := Lib.hid (HO4.out.below hb2)
  have HX5 := Lib.hid (HX4.out.next hb2)
  have HB5 := Lib.hid (HB4.out.trans (hb2.mono HB4.out.size))
  have HP45 := Lib.hid (HP4.out.next hb2)
  have HP5 := Lib.hid hP
  have HV5 := Lib.hid hV5
  have HPP5 := Lib.hid hP5
  clear hb hb2 hP hV5 hP5 HRL hlo
  obtain ⟨rB, rq, rn, rc, hrx, hro⟩ := HO5.out.rf.is
  have HD := Lib.hid (show Below V5.heap.size V5 V5.drew from (Below.refl _ _).drew)
  have HO6 := Lib.hid HO5.out.drew
  have HSS := Lib.hid (show ∀ U : World, Below V5.heap.size V5 U → U.cell? ⟨P4, 0, none⟩ = some (.int .u32 la) ∧ U.cell? ⟨P4, 1, none⟩ = some (.int .i64 ln) ∧ U.cell? ⟨P5, 0, none⟩ = some (.int .u32 la) ∧ U.cell? ⟨P5, 1, none⟩ = some (.int .i64 ln) ∧ U.cell? ⟨P, 0, none⟩ = some (.int .u32 pa) ∧ U.cell? ⟨P, 1, none⟩ = some (.int .i64 pn) ∧ U.cell? ⟨x, 0, none⟩ = some (.slice rq rn rc) from fun U hU => ⟨(HP45.out.next hU).cell 0 (by simp), (HP45.out.next hU).cell 1 (by simp), (HP5.out.next hU).cell 0 (by simp), (HP5.out.next hU).cell 1 (by simp), (HX5.out.next hU).cell 0 (by simp), (HX5.out.next hU).cell 1 (by simp), (hrx.next hU).cell 0 (by simp)⟩)
  have hlen : L.length = rn := by rw [← hro.len, List.length_map]
  have HLN := len_int V5.drew t _ (HO6.out.tr.tb.cell 1 (by simp))
  rw [hlen] at HLN
  have HLN := Lib.hid HLN
  obtain ⟨F, hF⟩ : ∃ F, (L.filter (fun e => withinP pa pn e.a e.n)).map tkey = F := ⟨_, rfl⟩
  obtain ⟨fl, hfl⟩ : ∃ fl, F.length = fl := ⟨_, rfl⟩
  have hfle : fl ≤ 1000000 := by
    have h1 := List.length_filter_le (fun e : TE => withinP pa pn e.a e.n) L
    have h2 : F.length = (L.filter (fun e => withinP pa pn e.a e.n)).length := by rw [← hF, List.length_map]
    have := HLL.out
    omega
  have HWT := Lib.hid (show Calls Try.prog 22 #[.pointer (some ⟨t, 0, none⟩), .agg #[.int .u32 pa, .int .i64 pn]] V5.drew fun e w' => ∃ q c, e = .returned (.slice q fl c) ∧ PAt w' q F ∧ Below V5.drew.heap.size V5.drew w' from
    (within_int V5.drew w.heap.size t r _ N L HO6.out.tr pa pn p0 p1 (by have := HLL.out; omega)).mono (by
      rintro e w' ⟨ks, kq, kc, hks, rfl, hrow, hb⟩
      rw [hF] at hks
      subst hks
      rw [hfl] at hrow ⊢
      exact ⟨_, _, rfl, pat_row hrow hfl, hb⟩))
  have HRI := Lib.hid (show ∀ U : World, Below V5.drew.heap.size V5.drew U → Calls Try.prog 17 #[.pointer (some ⟨x, 0, none⟩), .agg #[.int .u32 pa, .int .i64 pn]] U fun e w' => ∃ q c, e = .returned (.slice q fl c) ∧ PAt w' q F ∧ Below U.heap.size U w' from fun U hU =>
    (rin_any U x (L.map o3) pa pn p0 p1 (HO6.out.below hU).rf HOK.out (by simpa using HLL.out)).mono (by
      rintro e w' ⟨z, q', c', rfl, hz, hrow, hb⟩
      rw [hold_o3, hF] at hz hrow
      rw [hfl] at hz
      subst hz
      exact ⟨_, _, rfl, pat_row hrow hfl, hb⟩))
  have HSM := Lib.hid (show ∀ (U : World) (q1 q2 : Option Addr) (c1 c2 : Nat), PAt U q1 F → PAt U q2 F → Calls Try.prog 15 #[.slice q1 fl c1, .slice q2 fl c2] U fun e w' => e = .returned (.bool true) ∧ Below U.heap.size U w' from fun U q1 q2 c1 c2 h1 h2 => by
    have := same_any U q1 q2 F F fl fl c1 c2 h1 h2 hfl hfl hfle hfle
    rwa [show sameB F F = true by unfold sameB; simp] at this)
  have hE := fun (U : World) => pfx_eql la ln la ln U
  rw [show (la == la && ln == ln) = true from by simp] at hE
  have hEG := fun (op : BinOp) (x y : Operand) (xs ys : Array Value) (U : World) => pfx_eqGuard op x y xs ys U
  have hS : V5.drew.cell? ⟨P4, 0, none⟩ = some (.int .u32 la) ∧ V5.drew.cell? ⟨P4, 1, none⟩ = some (.int .i64 ln) ∧ V5.drew.cell? ⟨P5, 0, none⟩ = some (.int .u32 la) ∧ V5.drew.cell? ⟨P5, 1, none⟩ = some (.int .i64 ln) ∧ V5.drew.cell? ⟨P, 0, none⟩ = some (.int .u32 pa) ∧ V5.drew.cell? ⟨P, 1, none⟩ = some (.int .i64 pn) ∧ V5.drew.cell? ⟨x, 0, none⟩ = some (.slice rq rn rc) := HSS.out _ HD.out
  clear hrx hro hlen hF hfl hfle
  go_wp2_with fail
  rw [HV5.out, HPP5.out]
  go_region_held_law (fun w' => w'.cell? ⟨P4, 0, none⟩ = some (.int .u32 la) ∧ w'.cell? ⟨P4, 1, none⟩ = some (.int .i64 ln) ∧ w'.cell? ⟨P5, 0, none⟩ = some (.int .u32 la) ∧ w'.cell? ⟨P5, 1, none⟩ = some (.int .i64 ln) ∧ w'.cell? ⟨P, 0, none⟩ = some (.int .u32 pa) ∧ w'.cell? ⟨P, 1, none⟩ = some (.int .i64 pn) ∧ w'.cell? ⟨x, 0, none⟩ = some (.slice rq rn rc)) (with_reducible assumption) (first
    | (go_at_call 19; refine HLN.out.mono ?_; rintro e w6 ⟨rfl, rfl⟩)
    | (go_at_call 22; refine HWT.out.mono ?_; rintro e w6 ⟨q6, c6, rfl, p6, b6⟩; have H6 := Lib.hid p6; have HB6 := Lib.hid b6; have hS6 := HSS.out w6 (HD.out.trans (b6.mono HD.out.size)); clear p6 b6)
    | (go_at_call 17; refine (HRI.out w6 HB6.out).mono ?_; rintro e w7 ⟨q7, c7, rfl, p7, b7⟩; have H7 := Lib.hid p7; have H67 := Lib.hid (H6.out.below b7); have HB7 := Lib.hid (HB6.out.trans (b7.mono HB6.out.size)); have hS7 := HSS.out w7 (HD.out.trans ((HB6.out.trans (b7.mono HB6.out.size)).mono HD.out.size)); clear p7 b7)
    | (go_at_call 15; refine (HSM.out w7 q6 q7 c6 c7 H67.out H7.out).mono ?_; rintro e w8 ⟨rfl, b8⟩; have HB8 := Lib.hid (HB7.out.trans (b8.mono HB7.out.size)); have hS8 := HSS.out w8 (HD.out.trans ((HB7.out.trans (b8.mono HB7.out.size)).mono HD.out.size)); clear b8))
  go_wp2_with fail
  go_ret
  exact ⟨rfl, HB5.out.trans ((HD.out.trans (HB8.out.mono HD.out.size)).mono HB5.out.size)⟩
end Go.Proofs.Ytipecocalmmmbaa
