/- best: least of the Meds, where all are of one AS. -/
import Derived.Test.YtljbebeaahcjaaaJA
namespace Go.Proofs.Ytljbebeaahcjaaa
open Go.RowKit Go.Maps
set_option linter.unusedVariables false
set_option linter.unusedSimpArgs false
set_option maxRecDepth 100000

set_option maxHeartbeats 4000000 in
theorem lessM_any (w : World) (p : Option Addr) (l : List Rv) (n c j ca cb Bm N s : Nat) (f : Int → Option Int) (a : Int) (h : Looks w p l n) (hj : j < n) (ha : w.cell? ⟨ca, 0, none⟩ = some (.slice p n c)) (hb : w.cell? ⟨cb, 0, none⟩ = some (.map (some Bm))) (hm : MapAt keyIntC elIntC w Bm N s f) (hf : firstL (l.getD j Rv.zero).x.L = a) (hi : InI a) :
    Calls Try.prog 47 #[.int .i64 j, .pointer (some ⟨ca, 0, none⟩), .pointer (some ⟨cb, 0, none⟩)] w fun e w' => e = .returned (.bool (decide ((f a).getD 0 < keyAt 3 l j))) ∧ Below w.heap.size w w' := by
  have hsm := h.small
  obtain ⟨b, off, rfl, hr⟩ := rv_here h.at_ h.len hj
  have HV0 := Lib.hid (show keyAt 3 l j = keyV 3 (l.getD j Rv.zero) from by unfold keyAt; rw [Int.toNat_natCast])
  obtain ⟨y, hy⟩ : ∃ y, l.getD j Rv.zero = y := ⟨_, rfl⟩
  rw [hy] at hr hf HV0
  rw [HV0.out]
  obtain ⟨V, hV⟩ : ∃ V, keyV 3 y = V := ⟨_, rfl⟩
  obtain ⟨M, hM⟩ : ∃ M, (f a).getD 0 = M := ⟨_, rfl⟩
  have HMD := Lib.hid (fun (u : World) (hu : Below w.heap.size w u) => look3_any u b (off + j * 10) y (hr.below hu))
  have HFI := Lib.hid (fun (u : World) (hu : Below w.heap.size w u) => first_any u y.x (hr.below hu).ao)
  rw [hV] at HMD ⊢
  rw [hf] at HFI
  have HLU := Lib.hid (fun (u : World) (hu : Below w.heap.size w u) => show (Instr.lookup 81 (.map (some Bm)) (.int .i64 a) false).run Try.prog u = .ok (.int .i64 M) u from by
    have e := (hm.next hu).look Try.underlying81 hi
    rw [hM] at e
    exact e)
  rw [hM]
  have HSS := Lib.hid (fun (u : World) (hu : Below w.heap.size w u) => show u.cell? ⟨ca, 0, none⟩ = some (.slice (some ⟨b, off, none⟩) n c) ∧ u.cell? ⟨cb, 0, none⟩ = some (.map (some Bm)) ∧ u.cell? ⟨b, off + j * 10 + 4, none⟩ = some (.int .i64 y.x.og) ∧ u.cell? ⟨b, off + j * 10 + 5, none⟩ = some (.slice y.x.p1 y.x.n1 y.x.c1) ∧ u.cell? ⟨b, off + j * 10 + 6, none⟩ = some (.int .u32 y.x.nx) ∧ u.cell? ⟨b, off + j * 10 + 7, none⟩ = some (.int .i64 y.x.md) ∧ u.cell? ⟨b, off + j * 10 + 8, none⟩ = some (.int .i64 y.x.pf) ∧ u.cell? ⟨b, off + j * 10 + 9, none⟩ = some (.slice y.x.p2 y.x.n2 y.x.c2) ∧ (Instr.lookup 81 (.map (some Bm)) (.int .i64 a) false).run Try.prog u = .ok (.int .i64 M) u from ⟨kept hu ha, kept hu hb, kept hu hr.c4, kept hu hr.c5, kept hu hr.c6, kept hu hr.c7, kept hu hr.c8, kept hu hr.c9, HLU.out u hu⟩)
  have hS := HSS.out w.drew (Below.refl _ _).drew
  have hjI : (j : Int) < (n : Int) := by omega
  clear h hr ha hb hm hV hM hf hy HLU HV0
  go_enter Try.func47, Try.ntmps47
  go_wp2_with fail
  go_region_held_law (fun W => W.cell? ⟨ca, 0, none⟩ = some (.slice (some ⟨b, off, none⟩) n c) ∧ W.cell? ⟨cb, 0, none⟩ = some (.map (some Bm)) ∧ W.cell? ⟨b, off + j * 10 + 4, none⟩ = some (.int .i64 y.x.og) ∧ W.cell? ⟨b, off + j * 10 + 5, none⟩ = some (.slice y.x.p1 y.x.n1 y.x.c1) ∧ W.cell? ⟨b, off + j * 10 + 6, none⟩ = some (.int .u32 y.x.nx) ∧ W.cell? ⟨b, off + j * 10 + 7, none⟩ = some (.int .i64 y.x.md) ∧ W.cell? ⟨b, off + j * 10 + 8, none⟩ = some (.int .i64 y.x.pf) ∧ W.cell? ⟨b, off + j * 10 + 9, none⟩ = some (.slice y.x.p2 y.x.n2 y.x.c2) ∧ (Instr.lookup 81 (.map (some Bm)) (.int .i64 a) false).run Try.prog W = .ok (.int .i64 M) W) (with_reducible assumption) (first | (go_at_call 35; refine (HMD.out _ (by first | exact HBu.out | exact (Below.refl _ _).drew)).mono ?_; rintro e u ⟨rfl, rfl⟩) | (go_at_call 34; refine (HFI.out _ (Below.refl _ _).drew).mono ?_; rintro e u ⟨rfl, hu⟩; have HBu := Lib.hid (show Below w.heap.size w u from (Below.refl w.heap.size w).drew.trans hu); have hSu := HSS.out u HBu.out; clear hu))
  all_goals
    go_wp2_with fail
    go_ret
    exact ⟨rfl, HBu.out⟩

/-- What the map holds. -/
def mF (key : Nat → Int) (a : Int) (B : List Nat) (k : Nat) : Int → Option Int := fun y => if y = a ∧ 0 < k then some (minF key B k) else none
theorem mF_put {key : Nat → Int} {a : Int} {B : List Nat} {k : Nat} (h : k = 0 ∨ key (B.getD k 0) < minF key B k) : putF (mF key a B k) a (key (B.getD k 0)) = mF key a B (k + 1) := by
  funext y
  unfold putF mF
  have e : minF key B (k + 1) = key (B.getD k 0) := by
    show min (minF key B k) (key (B.getD k 0)) = _
    rcases h with rfl | h
    · show min (key (B.getD 0 0)) (key (B.getD 0 0)) = _
      omega
    · omega
  rw [e]
  by_cases hy : y = a
  · simp [hy]
  · simp [hy]
theorem mF_keep {key : Nat → Int} {a : Int} {B : List Nat} {k : Nat} (h0 : 0 < k) (h : ¬ key (B.getD k 0) < minF key B k) : mF key a B k = mF key a B (k + 1) := by
  funext y
  unfold mF
  have e : minF key B (k + 1) = minF key B k := by
    show min (minF key B k) (key (B.getD k 0)) = _
    omega
  rw [e]
  simp [h0]
end Go.Proofs.Ytljbebeaahcjaaa
