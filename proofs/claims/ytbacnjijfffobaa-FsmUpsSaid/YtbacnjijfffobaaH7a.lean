/- fsm: meet, the way that takes the other one in (a). -/
import Derived.Test.YtbacnjijfffobaaH6
import Derived.StillTailTactics
namespace Go.Proofs.Ytbacnjijfffobaa
open Go.RowKit

set_option maxHeartbeats 8000000 in
theorem fmeet_a (w : World) (g B : Nat) (o : Op) (r : Int) (s : Ph) (l : List Ac) (h : StM w g B o r s l) (hl : l.length ≤ 800) (hB : B ≤ w.heap.size) (x : Op) (ha0 : x.asn = o.asn) (hi0 : x.id ≠ o.id) (hT0 : takesB o.paths = true) (hF0 : x.four = false) :
    Calls Try.prog 28 #[.pointer (some ⟨g, 0, none⟩), x.v] w fun e w' => DidD w' w g B o r (fun d => meetV o r s x d) l e := by
  obtain ⟨xa, xh, xi, xf, xp⟩ := x
  obtain ⟨oa, oh, oi, of, op⟩ := o
  unfold Op.v
  dsimp only at *
  have hA := newB w (.cells #[.int .i64 xa, .int .i64 xh, .int .u32 xi, .bool xf, .int .i64 xp] 24)
  have hX := Blk.new w 24 [.int .i64 xa, .int .i64 xh, .int .u32 xi, .bool xf, .int .i64 xp]
  obtain ⟨V, hV⟩ : ∃ V, w.alloc (.cells #[.int .i64 xa, .int .i64 xh, .int .u32 xi, .bool xf, .int .i64 xp] 24) = V := ⟨_, rfl⟩
  have hX : Blk V w.heap.size 24 [.int .i64 xa, .int .i64 xh, .int .u32 xi, .bool xf, .int .i64 xp] := hV ▸ hX
  rw [hV] at hA
  have HV := Lib.hid hV
  have hS := h.next hA
  have HGX := Lib.hid (show g ≠ w.heap.size by have := h.lt; omega)
  have HLW := Lib.hid (show B ≤ V.heap.size by have := hA.size; omega)
  have HBW := Lib.hid hB
  have HL := Lib.hid hl
  have HS := Lib.hid hS
  have HX := Lib.hid hX
  have HA := Lib.hid (hA.mono hB)
  obtain ⟨k0, k1, k2, k3, k4, k5, k6, k7, k8, k9, k10⟩ := hS.cells
  have f6 := hS.fz 6
  have f7 := hS.fz 7
  have f8 := hS.fz 8
  have f9 := hS.fz 9
  have f10 := hS.fz 10
  have HK := Lib.hid (And.intro k6 (And.intro k7 (And.intro k8 (And.intro k9 k10))))
  have HF := Lib.hid (And.intro f6 (And.intro f7 (And.intro f8 (And.intro f9 f10))))
  clear k6 k7 k8 k9 k10 f6 f7 f8 f9 f10
  have x0 : V.cell? ⟨w.heap.size, 0, none⟩ = some (.int .i64 xa) := hX.cell 0 (by simp)
  have x1 : V.cell? ⟨w.heap.size, 1, none⟩ = some (.int .i64 xh) := hX.cell 1 (by simp)
  have x2 : V.cell? ⟨w.heap.size, 2, none⟩ = some (.int .u32 xi) := hX.cell 2 (by simp)
  have x3 : V.cell? ⟨w.heap.size, 3, none⟩ = some (.bool xf) := hX.cell 3 (by simp)
  have x4 : V.cell? ⟨w.heap.size, 4, none⟩ = some (.int .i64 xp) := hX.cell 4 (by simp)
  dsimp only at k0 k1 k2 k3 k4
  have c1 : V.drew.cell? ⟨w.heap.size, 0, none⟩ = some (.int .i64 xa) ∧ V.drew.cell? ⟨g, 0, none⟩ = some (.int .i64 oa) := ⟨x0, k0⟩
  have c2 : V.drew.drew.cell? ⟨w.heap.size, 2, none⟩ = some (.int .u32 xi) ∧ V.drew.drew.cell? ⟨g, 2, none⟩ = some (.int .u32 oi) := ⟨x2, k2⟩
  have c3 : V.drew.drew.drew.cell? ⟨w.heap.size, 1, none⟩ = some (.int .i64 xh) ∧ V.drew.drew.drew.cell? ⟨w.heap.size, 2, none⟩ = some (.int .u32 xi) ∧ V.drew.drew.drew.cell? ⟨w.heap.size, 3, none⟩ = some (.bool xf) ∧ V.drew.drew.drew.cell? ⟨w.heap.size, 4, none⟩ = some (.int .i64 xp) ∧ V.drew.drew.drew.cell? ⟨g, 1, none⟩ = some (.int .i64 oh) ∧ V.drew.drew.drew.cell? ⟨g, 3, none⟩ = some (.bool of) ∧ V.drew.drew.drew.cell? ⟨g, 4, none⟩ = some (.int .i64 op) := ⟨x1, x2, x3, x4, k1, k3, k4⟩
  clear h hA hX hV hS hl hB k0 k1 k2 k3 k4 k5 x0 x1 x2 x3 x4
  have ha : xa = oa := ha0
  have hi : xi ≠ oi := hi0
  have hTB : takesB op = true := hT0
  have hFF : xf = false := hF0
  clear ha0 hi0 hT0 hF0
  have hi' : (xi == oi) = false := by simpa using hi
  obtain ⟨M, hM⟩ : ∃ M : Dt → Ph × List Ac, (fun d => meetV ⟨oa, oh, oi, of, op⟩ r s ⟨xa, xh, xi, xf, xp⟩ d) = M := ⟨_, rfl⟩
  have HTK := Lib.hid (fun W => (takes_any op W).mono fun e w' ⟨h1, h2⟩ => (⟨h1, h2.symm⟩ : e = _ ∧ w' = W))
  have HGV := Lib.hid (fun W => (gives_any xp W).mono fun e w' ⟨h1, h2⟩ => (⟨h1, h2.symm⟩ : e = _ ∧ w' = W))
  obtain ⟨GV, hGV⟩ : ∃ b, givesB xp = b := ⟨_, rfl⟩
  obtain ⟨T, hT⟩ : ∃ T : Ph, metV ⟨oa, oh, oi, of, op⟩ ⟨xa, xh, xi, xf, xp⟩ = T := ⟨_, rfl⟩
  have HE' : Hid (∀ d, M d = (T, beatL T ++ [ac 6 T.hold])) := Lib.hid (fun d => by rw [← hM, ← hT]; show meetV _ _ _ _ _ = _; unfold meetV; dsimp only; rw [if_pos ha, if_neg hi])
  have HT := Lib.hid (show T = ⟨4, min xh oh, xf && of, takesB op && GV, xi⟩ by rw [← hT, ← hGV]; rfl)
  rw [hGV] at HGV
  rw [hM]
  clear hM hT hGV
  subst ha
  obtain ⟨k6, k7, k8, k9, k10⟩ := HK.out
  obtain ⟨f6, f7, f8, f9, f10⟩ := HF.out
  obtain ⟨V3, hV3⟩ : ∃ V3, V.drew.drew.drew = V3 := ⟨_, rfl⟩
  have HV3 := Lib.hid hV3
  have HS3 := Lib.hid (show StM V3 g B ⟨xa, oh, oi, of, op⟩ r s l by rw [← hV3]; exact HS.out.next (Below.refl _ _).drew.drew.drew)
  have HA3 := Lib.hid (show Below B w V3 by rw [← hV3]; exact HA.out.drew.drew.drew)
  have HW3 := Lib.hid (show B ≤ V3.heap.size by rw [← hV3]; exact HLW.out)
  rw [hV3] at c3
  have k6 : V3.cell? ⟨g, 6, none⟩ = some (.int .i64 s.phase) := hV3 ▸ k6
  have k7 : V3.cell? ⟨g, 7, none⟩ = some (.int .i64 s.hold) := hV3 ▸ k7
  have k8 : V3.cell? ⟨g, 8, none⟩ = some (.bool s.four) := hV3 ▸ k8
  have k9 : V3.cell? ⟨g, 9, none⟩ = some (.bool s.paths) := hV3 ▸ k9
  have k10 : V3.cell? ⟨g, 10, none⟩ = some (.int .u32 s.id) := hV3 ▸ k10
  have f6 : V3.frozen? ⟨g, 6, none⟩ = false := hV3 ▸ f6
  have f7 : V3.frozen? ⟨g, 7, none⟩ = false := hV3 ▸ f7
  have f8 : V3.frozen? ⟨g, 8, none⟩ = false := hV3 ▸ f8
  have f9 : V3.frozen? ⟨g, 9, none⟩ = false := hV3 ▸ f9
  have f10 : V3.frozen? ⟨g, 10, none⟩ = false := hV3 ▸ f10
  clear hV3
  obtain ⟨x1, x2, x3, x4, k1, k3, k4⟩ := c3
  rw [hTB] at HTK HT
  clear hTB
  subst hFF
  go_enter Try.func28, Try.ntmps28
  go_wp2_with fail
  rw [HV.out]
  go_region_held (fun w' => w'.cell? ⟨w.heap.size, 0, none⟩ = some (.int .i64 xa) ∧ w'.cell? ⟨g, 0, none⟩ = some (.int .i64 xa)) (with_reducible assumption) (fail)
  go_wp2_with fail
  go_region_held (fun w' => w'.cell? ⟨w.heap.size, 2, none⟩ = some (.int .u32 xi) ∧ w'.cell? ⟨g, 2, none⟩ = some (.int .u32 oi)) (with_reducible assumption) (fail)
  go_wp2_with fail
  refine wp_region_still_tail 37 (by kernel_rfl) (by kernel_rfl) ?_
  change wpStill _ _ V.drew.drew.drew (fun a' => wpList _ _ _ _ a' V.drew.drew.drew) _ _
  rw [HV3.out]
  simp only [List.take_succ_cons, List.take_zero, List.drop_succ_cons, List.drop_zero]
  repeat (first | still_step | (refine wpStill_step (fun K hK => ?_); go_simp; with_reducible refine ⟨_, HTK.out _, hK _ ?_⟩; clear hK K) | (refine wpStill_step (fun K hK => ?_); go_simp; with_reducible refine ⟨_, HGV.out _, hK _ ?_⟩; clear hK K))
  refine wpStill_nil ?_
  obtain rfl : T = ⟨4, min xh oh, false, GV, xi⟩ := HT.out.trans rfl
  have hS4 := HS3.out.state ⟨4, min xh oh, false, GV, xi⟩
  have hb4 := HA3.out.trans (set5_below V3 g B HS3.out.low (.int .i64 4) (.int .i64 (min xh oh)) (.bool false) (.bool GV) (.int .u32 xi))
  dsimp only at hS4
  obtain ⟨W4, hW4⟩ : ∃ W4, (((((V3.setCell ⟨g, 6, none⟩ (.int .i64 4)).setCell ⟨g, 7, none⟩ (.int .i64 (min xh oh))).setCell ⟨g, 8, none⟩ (.bool false)).setCell ⟨g, 9, none⟩ (.bool GV)).setCell ⟨g, 10, none⟩ (.int .u32 xi)) = W4 := ⟨_, rfl⟩
  rw [hW4] at hS4 hb4
  have HS4 := Lib.hid hS4
  have HB4 := Lib.hid hb4
  have HW4 := Lib.hid hW4
  clear hS4 hb4 hW4
  go_wp2_with fail
  rw [HW4.out]
  refine (fbeat_any W4 g B ⟨xa, oh, oi, of, op⟩ r _ l HS4.out (by have := HL.out; omega) (by have h1 := HB4.out.size; have h2 := HBW.out; omega)).mono ?_
  rintro e w5 ⟨rfl, hS, hb⟩
  have HS5 := Lib.hid hS
  have HB5 := Lib.hid (HB4.out.trans hb)
  clear hS hb
  go_wp2_with fail
  refine (fhold_any w5 g B ⟨xa, oh, oi, of, op⟩ r _ _ HS5.out (by have := HL.out; simp [beatL]; omega) (by have h1 := HB5.out.size; have h2 := HBW.out; omega)).mono ?_
  rintro e w6 ⟨rfl, hS, hb⟩
  have HS6 := Lib.hid hS
  have HB6 := Lib.hid (HB5.out.trans hb)
  clear hS hb
  go_wp2_with fail
  exact bodyPost_end (v := .tuple #[]) (by simp [results, Try.results28, go_sem]) rfl ⟨⟨none, 0, 0⟩, rfl, by rw [HE'.out, ← List.append_assoc]; exact HS6.out, HB6.out⟩
end Go.Proofs.Ytbacnjijfffobaa
