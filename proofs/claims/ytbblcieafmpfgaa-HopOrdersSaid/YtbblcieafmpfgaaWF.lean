/- hop: HopNobody's walk. -/
import Derived.Test.YtbblcieafmpfgaaWD
namespace Go.Proofs.Ytbblcieafmpfgaa
open Go.RowKit
set_option linter.unusedVariables false
set_option linter.unusedSimpArgs false

set_option maxRecDepth 100000 in
set_option maxHeartbeats 8000000 in
theorem hnobody_walk (w : World) (r : Int) (hr : (Lit.int .i64 r).wf = true) (a : Int) (a0 : 0 ≤ a) (a1 : a ≤ 4294967295) :
    Calls Try.prog 6 #[.int .i64 r, .int .u32 a] w fun e w' => e = .returned (.bool true) ∧ Below w.heap.size w w' := by
  have HF := Lib.hid (hfind_nil r a w)
  have hq0 : ∀ u, (binOp .eql 34 (.agg #[.int .i64 0, .int .i64 0, .int .u32 0, .int .i64 0, .int .i64 0]) (.agg #[.int .i64 0, .int .i64 0, .int .u32 0, .int .i64 0, .int .i64 0])).run Try.prog u = .ok (.bool true) u := fun u => (if_eql Ifc.zero Ifc.zero u).trans (by rw [(eqI_iff Ifc.zero Ifc.zero).2 rfl])
  have hg := if_eqGuard
  go_enter Try.func6, Try.ntmps6
  go_wp2_with fail
  refine HF.out.mono ?_
  rintro e w1 ⟨rfl, hb⟩
  have HA := Lib.hid (newB w1 (.cells #[.int .i64 0, .int .i64 0, .int .u32 0, .int .i64 0, .int .i64 0] 34))
  have hX := Blk.new w1 34 [.int .i64 0, .int .i64 0, .int .u32 0, .int .i64 0, .int .i64 0]
  obtain ⟨V, hV⟩ : ∃ V, w1.alloc (.cells #[.int .i64 0, .int .i64 0, .int .u32 0, .int .i64 0, .int .i64 0] 34) = V := ⟨_, rfl⟩
  obtain ⟨P, hP⟩ : ∃ P, w1.heap.size = P := ⟨_, rfl⟩
  rw [hV] at HA hX
  rw [hP] at hX
  have HX := Lib.hid hX
  have HB := Lib.hid (hb.trans (HA.out.mono hb.size))
  have HV := Lib.hid hV
  have HP := Lib.hid hP
  have HI := Lib.hid (hiface_nil r hr V)
  clear hX hV hP hb HF
  go_wp2_with fail
  rw [HV.out, HP.out]
  refine HI.out.mono ?_
  rintro e w2 ⟨rfl, hb⟩
  have hb2 : Below V.heap.size V (w2.alloc (.cells #[.int .i64 0, .int .i64 0, .int .u32 0, .int .i64 0, .int .i64 0] 34)) := hb.alloc hb.size _
  have HB2 := Lib.hid (HB.out.trans (hb2.mono HB.out.size))
  have HX2 := Lib.hid (HX.out.next hb2)
  have hQ := Blk.new w2 34 [.int .i64 0, .int .i64 0, .int .u32 0, .int .i64 0, .int .i64 0]
  obtain ⟨V2, hV2⟩ : ∃ V, w2.alloc (.cells #[.int .i64 0, .int .i64 0, .int .u32 0, .int .i64 0, .int .i64 0] 34) = V := ⟨_, rfl⟩
  obtain ⟨Q, hQQ⟩ : ∃ Q, w2.heap.size = Q := ⟨_, rfl⟩
  rw [hV2, hQQ] at hQ
  rw [hV2] at HB2 HX2
  have HQ := Lib.hid hQ
  have HV2 := Lib.hid hV2
  have HQQ := Lib.hid hQQ
  have HL := Lib.hid (lives_any V2)
  clear hb hb2 hQ hV2 hQQ HI HA
  go_wp2_with fail
  rw [HV2.out, HQQ.out]
  refine HL.out.mono ?_
  rintro e w3 ⟨rfl, hb⟩
  have HB3 := Lib.hid (HB2.out.trans (hb.mono HB2.out.size))
  obtain ⟨x0, x1, x2, x3, x4⟩ := if_boxes (HX2.out.next hb)
  obtain ⟨y0, y1, y2, y3, y4⟩ := if_boxes (HQ.out.next hb)
  have HN := Lib.hid (all_nil w3)
  clear hb HL
  go_wp2_with (first
    | (go_at_call 16; refine HN.out.mono ?_; rintro e w4 ⟨rfl, hb4⟩)
    | (go_at_call 18; refine (hlen_nil _).mono ?_; rintro e w5 ⟨rfl, rfl⟩))
  go_ret
  exact ⟨rfl, HB3.out.trans (hb4.mono HB3.out.size)⟩
end Go.Proofs.Ytbblcieafmpfgaa
