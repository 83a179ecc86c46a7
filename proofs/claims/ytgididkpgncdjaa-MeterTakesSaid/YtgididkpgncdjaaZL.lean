/- meter: Demands. -/
import Derived.Test.YtgididkpgncdjaaZK
namespace Go.Proofs.Ytgididkpgncdjaa
open Go.RowKit Go.Maps
set_option linter.unusedVariables false
set_option linter.unusedSimpArgs false
set_option maxRecDepth 100000

/-- What the sums are so far. -/
def sumF (X : List Ct) : Pf → Option Int := fun p => if X.any (fun x => x.p == p) then some (near (totP p X)) else none
theorem sumF_getD (X : List Ct) (p : Pf) : (sumF X p).getD 0 = near (totP p X) := by
  unfold sumF
  split
  · rfl
  · rename_i h
    rw [Bool.not_eq_true] at h
    rw [totP_no p h]; rfl
theorem sumF_step (X : List Ct) (x : Ct) (hX : ∀ y ∈ X, 0 ≤ y.c) (hx : 0 ≤ x.c) : putF (sumF X) x.p (add ((sumF X x.p).getD 0) x.c) = sumF (X ++ [x]) := by
  funext p
  unfold putF
  rw [sumF_getD, add_near (totP_nn _ hX) hx]
  unfold sumF
  rw [List.any_append, totP_append]
  by_cases e : p = x.p
  · rw [if_pos e]
    subst e
    simp [totP]
  · rw [if_neg e]
    have h1 : (x.p == p) = false := by simpa using fun h => e h.symm
    have h2 : ¬ x.p = p := fun h => e h.symm
    simp [h1, totP, h2]
set_option maxHeartbeats 4000000 in
theorem mdem1_any (W : World) (g sb nn s : Nat) (f : Pf → Option Int) (h : Blk W g 60 [.map (some sb)]) (hm : MapP W sb nn s f) (hn : nn < 100000) (x : Ct) (hx : InCt x) :
    Calls Try.prog 38 #[.agg #[.int .u32 x.p.a, .int .i64 x.p.n], .int .i64 x.c, .pointer (some ⟨g, 0, none⟩)] W fun e W' => e = .returned (.tuple #[]) ∧ Blk W' g 60 [.map (some sb)] ∧ (∃ s', MapP W' sb (nn + 1) s' (putF f x.p (add ((f x.p).getD 0) x.c))) ∧ Turns (fun y => y = sb) W W' := by
  obtain ⟨⟨xa, xn⟩, xc⟩ := x
  dsimp only
  have hb := newB W (.cells #[.int .u32 xa, .int .i64 xn] 25)
  have hx1 := Blk.new W 25 [.int .u32 xa, .int .i64 xn]
  obtain ⟨S, hS0⟩ : ∃ S, W.heap.size = S := ⟨_, rfl⟩
  obtain ⟨U, hU⟩ : ∃ U, W.alloc (.cells #[.int .u32 xa, .int .i64 xn] 25) = U := ⟨_, rfl⟩
  rw [hU] at hb hx1
  rw [hS0] at hx1
  have hg := h.next hb
  have hm1 : MapP U.drew sb nn s f := (hm.next hb).drew
  obtain ⟨es, cl, hh⟩ := hm1.heap
  have hl := hm1.look Try.underlying60 (x := ⟨xa, xn⟩) hx
  obtain ⟨v, hv⟩ : ∃ v, (f ⟨xa, xn⟩).getD 0 = v := ⟨_, rfl⟩
  rw [hv] at hl ⊢
  have hl : (Instr.lookup 60 (.map (some sb)) (.agg #[.int .u32 xa, .int .i64 xn]) false).run Try.prog U.drew = .ok (.int .i64 v) U.drew := hl
  have HA := Lib.hid (fun u => add_any v xc u)
  have hR0 := near_lo (near v + near xc)
  have hR1 := near_hi (near v + near xc)
  obtain ⟨R, hR⟩ : ∃ R, add v xc = R := ⟨_, rfl⟩
  have hR' : near (near v + near xc) = R := hR
  rw [hR'] at hR0 hR1
  rw [hR] at HA ⊢
  obtain ⟨w3, hrun, hm3, hg3⟩ := hm1.update Try.underlying60 (by unfold maxLen; omega) (x := ⟨xa, xn⟩) hx (a := R) (by simp [Lit.wf, IntKind.min, IntKind.max, IntKind.signed, IntKind.bits]; omega)
  have hrun : (Instr.mapUpdate 60 (.map (some sb)) (.agg #[.int .u32 xa, .int .i64 xn]) (.int .i64 R)).run Try.prog U.drew = .ok () w3 := hrun
  have hS : U.drew.cell? ⟨g, 0, none⟩ = some (.map (some sb)) ∧ U.drew.cell? ⟨S, 0, none⟩ = some (.int .u32 xa) ∧ U.drew.cell? ⟨S, 1, none⟩ = some (.int .i64 xn) := ⟨hg.cell 0 (by simp), hx1.cell 0 (by simp), hx1.cell 1 (by simp)⟩
  have hgo : ∀ q k u, U.drew.cell? ⟨q, k, none⟩ = some u → w3.cell? ⟨q, k, none⟩ = some u := fun q k u h => cell_same h (hg3.block _ (World.block_lt_of_cell? _ _ h) (fun e => cell_notMap h hh (by simpa using e)))
  have hS3 : w3.cell? ⟨g, 0, none⟩ = some (.map (some sb)) ∧ w3.cell? ⟨S, 0, none⟩ = some (.int .u32 xa) ∧ w3.cell? ⟨S, 1, none⟩ = some (.int .i64 xn) := ⟨hgo _ _ _ hS.1, hgo _ _ _ hS.2.1, hgo _ _ _ hS.2.2⟩
  have hgd : Blk U.drew g 60 [.map (some sb)] := hg.drew
  have HG := Lib.hid (show Blk w3 g 60 [.map (some sb)] from hgd.of_same (hg3.block g hgd.lt (fun e => hgd.notMap hh (by simpa using e))))
  have HM := Lib.hid hm3
  have HT := Lib.hid (show Turns (fun y => y = sb) W w3 from (Turns.of_below (S := fun y => y = sb) hb.drew).next (S' := fun y => y = sb) ⟨hg3.os, hg3.tape, hg3.output, hg3.size, fun k hk hne => hg3.block k hk (fun e => hne (by simpa using e))⟩ (fun i hi => .inl hi))
  have HU := Lib.hid hU
  have HSE := Lib.hid hS0
  clear h hm hb hx1 hg hm1 hh hv hR hR' hm3 hg3 hgo hgd hU hS0
  go_enter Try.func38, Try.ntmps38
  go_wp2_with fail
  rw [HU.out, HSE.out]
  go_region_held_law (fun W => W.cell? ⟨g, 0, none⟩ = some (.map (some sb)) ∧ W.cell? ⟨S, 0, none⟩ = some (.int .u32 xa) ∧ W.cell? ⟨S, 1, none⟩ = some (.int .i64 xn)) (with_reducible assumption) (first | (go_at_call 34; (with_reducible refine (HA.out _).mono ?_); rintro e w' ⟨rfl, rfl⟩))
  all_goals
    clear hS hS3 hrun hl
    go_wp2_with fail
    go_end0
    exact ⟨rfl, HG.out, ⟨_, HM.out⟩, HT.out⟩
end Go.Proofs.Ytgididkpgncdjaa
