/- fsm: meet. -/
import Derived.Test.YtbacnjijfffobaaH7a
import Derived.Test.YtbacnjijfffobaaH7b
import Derived.Test.YtbacnjijfffobaaH7c
import Derived.Test.YtbacnjijfffobaaH7d
namespace Go.Proofs.Ytbacnjijfffobaa
open Go.RowKit

theorem fmeet_yes (w : World) (g B : Nat) (o : Op) (r : Int) (s : Ph) (l : List Ac) (h : StM w g B o r s l) (hl : l.length ≤ 800) (hB : B ≤ w.heap.size) (x : Op) (ha0 : x.asn = o.asn) (hi0 : x.id ≠ o.id) :
    Calls Try.prog 28 #[.pointer (some ⟨g, 0, none⟩), x.v] w fun e w' => DidD w' w g B o r (fun d => meetV o r s x d) l e := by
  rcases hT : takesB o.paths with _ | _ <;> rcases hF : x.four with _ | _
  · exact fmeet_c w g B o r s l h hl hB x ha0 hi0 hT hF
  · exact fmeet_d w g B o r s l h hl hB x ha0 hi0 hT hF
  · exact fmeet_a w g B o r s l h hl hB x ha0 hi0 hT hF
  · exact fmeet_b w g B o r s l h hl hB x ha0 hi0 hT hF
set_option maxHeartbeats 8000000 in
theorem fmeet_any (w : World) (g B : Nat) (o : Op) (r : Int) (s : Ph) (l : List Ac) (h : StM w g B o r s l) (hl : l.length ≤ 800) (hB : B ≤ w.heap.size) (x : Op) :
    Calls Try.prog 28 #[.pointer (some ⟨g, 0, none⟩), x.v] w fun e w' => DidD w' w g B o r (fun d => meetV o r s x d) l e := by
  by_cases hyes : x.asn = o.asn ∧ x.id ≠ o.id
  · exact fmeet_yes w g B o r s l h hl hB x hyes.1 hyes.2
  obtain ⟨xa, xh, xi, xf, xp⟩ := x
  obtain ⟨oa, oh, oi, of, op⟩ := o
  unfold Op.v
  dsimp only at *
  have hA := newB w (.cells #[.int .i64 xa, .int .i64 xh, .int .u32 xi, .bool xf, .int .i64 xp] 24)
  have hX := Blk.new w 24 [.int .i64 xa, .int .i64 xh, .int .u32 xi, .bool xf, .int .i64 xp]
  obtain ⟨V, hV⟩ : ∃ V, w.alloc (.cells #[.int .i64 xa, .int .i64 xh, .int .u32 xi, .bool xf, .int .i64 xp] 24) = V := ⟨_, rfl⟩
  have hX : Blk V w.heap.size 24 [.int .i64 xa, .int .i64 xh, .int .u32 xi, .bool xf, .int .i64 xp] := hV ▸ hX
  rw [hV] at hA
  have HV := Lib.hid hV
  have hS := h.next hA
  have HGX := Lib.hid (show g ≠ w.heap.size by have := h.lt; omega)
  have HLW := Lib.hid (show B ≤ V.heap.size by have := hA.size; omega)
  have HBW := Lib.hid hB
  have HL := Lib.hid hl
  have HS := Lib.hid hS
  have HX := Lib.hid hX
  have HA := Lib.hid (hA.mono hB)
  obtain ⟨k0, k1, k2, k3, k4, k5, k6, k7, k8, k9, k10⟩ := hS.cells
  have f6 := hS.fz 6
  have f7 := hS.fz 7
  have f8 := hS.fz 8
  have f9 := hS.fz 9
  have f10 := hS.fz 10
  have HK := Lib.hid (And.intro k6 (And.intro k7 (And.intro k8 (And.intro k9 k10))))
  have HF := Lib.hid (And.intro f6 (And.intro f7 (And.intro f8 (And.intro f9 f10))))
  clear k6 k7 k8 k9 k10 f6 f7 f8 f9 f10
  have x0 : V.cell? ⟨w.heap.size, 0, none⟩ = some (.int .i64 xa) := hX.cell 0 (by simp)
  have x1 : V.cell? ⟨w.heap.size, 1, none⟩ = some (.int .i64 xh) := hX.cell 1 (by simp)
  have x2 : V.cell? ⟨w.heap.size, 2, none⟩ = some (.int .u32 xi) := hX.cell 2 (by simp)
  have x3 : V.cell? ⟨w.heap.size, 3, none⟩ = some (.bool xf) := hX.cell 3 (by simp)
  have x4 : V.cell? ⟨w.heap.size, 4, none⟩ = some (.int .i64 xp) := hX.cell 4 (by simp)
  dsimp only at k0 k1 k2 k3 k4
  have c1 : V.drew.cell? ⟨w.heap.size, 0, none⟩ = some (.int .i64 xa) ∧ V.drew.cell? ⟨g, 0, none⟩ = some (.int .i64 oa) := ⟨x0, k0⟩
  have c2 : V.drew.drew.cell? ⟨w.heap.size, 2, none⟩ = some (.int .u32 xi) ∧ V.drew.drew.cell? ⟨g, 2, none⟩ = some (.int .u32 oi) := ⟨x2, k2⟩
  have c3 : V.drew.drew.drew.cell? ⟨w.heap.size, 1, none⟩ = some (.int .i64 xh) ∧ V.drew.drew.drew.cell? ⟨w.heap.size, 2, none⟩ = some (.int .u32 xi) ∧ V.drew.drew.drew.cell? ⟨w.heap.size, 3, none⟩ = some (.bool xf) ∧ V.drew.drew.drew.cell? ⟨w.heap.size, 4, none⟩ = some (.int .i64 xp) ∧ V.drew.drew.drew.cell? ⟨g, 1, none⟩ = some (.int .i64 oh) ∧ V.drew.drew.drew.cell? ⟨g, 3, none⟩ = some (.bool of) ∧ V.drew.drew.drew.cell? ⟨g, 4, none⟩ = some (.int .i64 op) := ⟨x1, x2, x3, x4, k1, k3, k4⟩
  have HFA := Lib.hid (fun (W : World) (hW : Below V.heap.size V W) => ffall_any W g B ⟨oa, oh, oi, of, op⟩ r s l (HS.out.next hW) (by have := HL.out; omega) (by have := hW.size; have := HLW.out; omega) 2 2 none [] 0 0 (BytesAt.nil _ _) rfl (by omega))
  have HFI := Lib.hid (fun (W : World) (hW : Below V.heap.size V W) => ffall_any W g B ⟨oa, oh, oi, of, op⟩ r s l (HS.out.next hW) (by have := HL.out; omega) (by have := hW.size; have := HLW.out; omega) 2 3 none [] 0 0 (BytesAt.nil _ _) rfl (by omega))
  clear h hA hX hV hS hl hB k0 k1 k2 k3 k4 k5 x0 x1 x2 x3 x4
  by_cases ha : xa = oa
  · by_cases hi : xi = oi
    · have HE : Hid (∀ d, meetV ⟨oa, oh, oi, of, op⟩ r s ⟨xa, xh, xi, xf, xp⟩ d = fallV r s 2 3 d) := Lib.hid (fun d => by unfold meetV; dsimp only; rw [if_pos ha, if_pos hi])
      obtain ⟨M, hM⟩ : ∃ M : Dt → Ph × List Ac, (fun d => meetV ⟨oa, oh, oi, of, op⟩ r s ⟨xa, xh, xi, xf, xp⟩ d) = M := ⟨_, rfl⟩
      have HE' : Hid (∀ d, M d = fallV r s 2 3 d) := Lib.hid (fun d => by rw [← hM]; exact HE.out d)
      rw [hM]
      clear hM HE
      subst ha hi
      go_enter Try.func28, Try.ntmps28
      go_wp2_with fail
      rw [HV.out]
      go_region_held (fun w' => w'.cell? ⟨w.heap.size, 0, none⟩ = some (.int .i64 xa) ∧ w'.cell? ⟨g, 0, none⟩ = some (.int .i64 xa)) (with_reducible assumption) (fail)
      go_wp2_with fail
      go_region_held (fun w' => w'.cell? ⟨w.heap.size, 2, none⟩ = some (.int .u32 xi) ∧ w'.cell? ⟨g, 2, none⟩ = some (.int .u32 xi)) (with_reducible assumption) (fail)
      go_wp2_with fail
      refine (HFI.out _ (Below.refl _ _).drew.drew).mono ?_
      rintro e w2 ⟨d, rfl, hS, hb⟩
      have HS2 := Lib.hid hS
      have HB2 := Lib.hid hb
      clear hS hb
      go_wp2_with fail
      exact bodyPost_end (v := .tuple #[]) (by simp [results, Try.results28, go_sem]) rfl ⟨d, rfl, by rw [HE'.out]; exact HS2.out, (HA.out.drew.drew).trans HB2.out⟩
    · exact absurd ⟨ha, hi⟩ hyes
  · clear hyes
    have ha' : (xa == oa) = false := by simpa using ha
    obtain ⟨M, hM⟩ : ∃ M : Dt → Ph × List Ac, (fun d => meetV ⟨oa, oh, oi, of, op⟩ r s ⟨xa, xh, xi, xf, xp⟩ d) = M := ⟨_, rfl⟩
    have HE' : Hid (∀ d, M d = fallV r s 2 2 d) := Lib.hid (fun d => by rw [← hM]; show meetV _ _ _ _ _ = _; unfold meetV; dsimp only; rw [if_neg ha])
    rw [hM]
    clear hM
    go_enter Try.func28, Try.ntmps28
    go_wp2_with fail
    rw [HV.out]
    go_region_held (fun w' => w'.cell? ⟨w.heap.size, 0, none⟩ = some (.int .i64 xa) ∧ w'.cell? ⟨g, 0, none⟩ = some (.int .i64 oa)) (with_reducible assumption) (fail)
    go_wp2_with fail
    refine (HFA.out _ (Below.refl _ _).drew).mono ?_
    rintro e w2 ⟨d, rfl, hS, hb⟩
    have HS2 := Lib.hid hS
    have HB2 := Lib.hid hb
    clear hS hb
    go_wp2_with fail
    exact bodyPost_end (v := .tuple #[]) (by simp [results, Try.results28, go_sem]) rfl ⟨d, rfl, by rw [HE'.out]; exact HS2.out, (HA.out.drew).trans HB2.out⟩
end Go.Proofs.Ytbacnjijfffobaa
