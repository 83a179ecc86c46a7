/- load: the document's Same of options that say the same. -/
import Derived.Test.YteeihjdkenlebaaEN
import Derived.Test.YteeihjdkenlebaaEO
import Derived.Test.YteeihjdkenlebaaPEq
import Derived.Deep.RegionHeldLaw
namespace Go.Proofs.Yteeihjdkenlebaa
open Go.RowKit Go.Maps
set_option linter.unusedVariables false
set_option linter.unusedSimpArgs false
set_option maxRecDepth 100000

theorem rsameA_yes (w : World) (x y : Ao) (hx : AoAt w x) (hy : AoAt w y) (hl : AoLike x y) :
    Calls Try.prog 46 #[aoV x, aoV y] w fun e w' => e = .returned (.bool true) ∧ Below w.heap.size w w' := by
  have h1 : AtAt w ⟨x.og, x.L.map sgK, x.nx, x.md, x.pf, x.K⟩ ⟨x.p1, x.n1, x.c1, x.p2, x.n2, x.c2⟩ := ⟨segs_of hx.path, by rw [List.length_map]; exact hx.pl, hx.ps.le, hx.ps.max, ints_of hx.com, hx.cl, hx.cs.le, hx.cs.max, hx.u0, hx.u1⟩
  have h2 : AtAt w ⟨x.og, x.L.map sgK, x.nx, x.md, x.pf, x.K⟩ ⟨y.p1, y.n1, y.c1, y.p2, y.n2, y.c2⟩ := ⟨by rw [← hl.L]; exact segs_of hy.path, by rw [← hl.L, List.length_map]; exact hy.pl, hy.ps.le, hy.ps.max, by rw [← hl.K]; exact ints_of hy.com, by rw [← hl.K]; exact hy.cl, hy.cs.le, hy.cs.max, hx.u0, hx.u1⟩
  have h := rsame_yes _ _ _ w h1 h2
  have e : aoV y = .agg (atL ⟨x.og, x.L.map sgK, x.nx, x.md, x.pf, x.K⟩ ⟨y.p1, y.n1, y.c1, y.p2, y.n2, y.c2⟩).toArray := by
    show Value.agg #[.int .i64 y.og, .slice y.p1 y.n1 y.c1, .int .u32 y.nx, .int .i64 y.md, .int .i64 y.pf, .slice y.p2 y.n2 y.c2] = _
    rw [hl.og, hl.nx, hl.md, hl.pf]; rfl
  rw [e]
  exact h
theorem key_under : Try.prog.underlying 43 = some (.struct (Try.prog.fieldsOf 43)) := by kernel_rfl
theorem key_held : Try.prog.stoodInHeld 43 = false := by kernel_rfl
theorem key_guard : Try.prog.eqGuardType Try.prog.depth 43 = false := by kernel_rfl
theorem key_fields : (Try.prog.fieldsOf 43).toList.map (fun f => (f.name, f.type, f.offset)) = [("Router", 3, 0), ("P", 41, 1), ("ID", 3, 3)] := by kernel_rfl
theorem list_threeK {α : Type} {l : List α} (h : l.length = 3) : ∃ x y z, l = [x, y, z] := by
  rcases l with _ | ⟨x, _ | ⟨y, _ | ⟨z, _ | ⟨v, r⟩⟩⟩⟩ <;> simp at h
  exact ⟨x, y, z, rfl⟩
theorem key_same (r a n i : Int) (w : World) :
    (Op.equalIn 10000 43 (.agg #[.int .i64 r, .int .u32 a, .int .i64 n, .int .i64 i]) (.agg #[.int .i64 r, .int .u32 a, .int .i64 n, .int .i64 i])).run Try.prog w = .ok true w := by
  show (Op.equalIn (9997 + 1 + 1 + 1) 43 _ _).run Try.prog w = _
  rw [run_equalIn_struct w (9997 + 1 + 1) _ _ _ key_under key_held]
  have hf := key_fields
  generalize (Try.prog.fieldsOf 43).toList = fs at hf
  obtain ⟨f0, f1, f2, rfl⟩ := list_threeK (l := fs) (by simpa using congrArg List.length hf)
  simp only [List.map_cons, List.map_nil, List.cons.injEq, Prod.mk.injEq, and_true] at hf
  obtain ⟨⟨n0, t0, o0⟩, ⟨n1, t1, o1⟩, n2, t2, o2⟩ := hf
  have q0 : (Op.equalIn (9997 + 1 + 1) 3 (.int .i64 r) (.int .i64 r)).run Try.prog w = .ok (r == r) w := run_equalIn_int w (9997 + 1) _ _ _ r r Try.underlying3
  have q1 := pfx_equalIn 9997 a n a n w
  have q2 : (Op.equalIn (9997 + 1 + 1) 3 (.int .i64 i) (.int .i64 i)).run Try.prog w = .ok (i == i) w := run_equalIn_int w (9997 + 1) _ _ _ i i Try.underlying3
  have p0 : ∀ x y z v : Value, (part 3 #[x, y, z, v] 0).run Try.prog w = .ok x w := fun x y z v => by kernel_rfl
  have p1 : ∀ x y z v : Value, (part 41 #[x, y, z, v] 1).run Try.prog w = .ok (.agg #[y, z]) w := fun x y z v => by kernel_rfl
  have p2 : ∀ x y z v : Value, (part 3 #[x, y, z, v] 3).run Try.prog w = .ok v w := fun x y z v => by kernel_rfl
  simp only [Op.eqFields, n0, n1, n2, t0, t1, t2, o0, o1, o2]
  rw [if_pos (by decide), if_pos (by decide), if_pos (by decide)]
  simp only [Sem.run_bind, p0, q0, p1, q1, p2, q2, Result.andThen_ok, beq_self_eq_true, Bool.and_self, Bool.not_true, Bool.false_eq_true, if_false, Sem.run_pure]
theorem key_neq (r a n i : Int) (w : World) :
    (binOp .neq 43 (.agg #[.int .i64 r, .int .u32 a, .int .i64 n, .int .i64 i]) (.agg #[.int .i64 r, .int .u32 a, .int .i64 n, .int .i64 i])).run Try.prog w = .ok (.bool false) w := by
  rw [run_neq_struct, key_same]; rfl
theorem key_eqGuard (op : BinOp) (x y : Operand) (xs ys : Array Value) (w : World) : (eqGuard op 43 x y (.agg xs) (.agg ys)).run Try.prog w = .ok () w := run_eqGuard_agg w op _ x y xs ys key_guard

set_option maxHeartbeats 8000000 in
theorem rsameR_yes (w : World) (b d : Nat) (r a n i : Int) (x y : Ao) (h1 : Blk w b 49 [.int .i64 r, .int .u32 a, .int .i64 n, .int .i64 i, .int .i64 x.og, .slice x.p1 x.n1 x.c1, .int .u32 x.nx, .int .i64 x.md, .int .i64 x.pf, .slice x.p2 x.n2 x.c2]) (h2 : Blk w d 49 [.int .i64 r, .int .u32 a, .int .i64 n, .int .i64 i, .int .i64 y.og, .slice y.p1 y.n1 y.c1, .int .u32 y.nx, .int .i64 y.md, .int .i64 y.pf, .slice y.p2 y.n2 y.c2]) (hx : AoAt w x) (hy : AoAt w y) (hl : AoLike x y) :
    Calls Try.prog 39 #[.slice (some ⟨b, 0, none⟩) 1 1, .slice (some ⟨d, 0, none⟩) 1 1] w fun e w' => e = .returned (.bool true) ∧ Below w.heap.size w w' := by
  have H1 := Lib.hid h1
  have H2 := Lib.hid h2
  have HSA := Lib.hid (fun (u : World) (hu : Below w.heap.size w u) => rsameA_yes u x y (hx.below hu) (hy.below hu) hl)
  clear h1 h2 hx hy hl
  go_enter Try.func39, Try.ntmps39
  go_wp2_with fail
  go_loopw [5] (fun iv wr => ∃ k : Nat, k ≤ 1 ∧ iv = .int .i64 k ∧ Below w.heap.size w wr) (fun iv _ => 1 - (intOf iv).toNat)
  case atStart => exact ⟨0, Nat.zero_le _, rfl, Below.refl _ _⟩
  case round =>
    obtain ⟨k, hk, rfl, hB⟩ := hrel
    have HB := Lib.hid hB
    clear hB
    by_cases hlt : k < 1
    · obtain rfl : k = 0 := by omega
      have hg := key_eqGuard
      have hq : ∀ u, (binOp .neq 43 (.agg #[.int .i64 r, .int .u32 a, .int .i64 n, .int .i64 i]) (.agg #[.int .i64 r, .int .u32 a, .int .i64 n, .int .i64 i])).run Try.prog u = .ok (.bool false) u := fun u => key_neq r a n i u
      have HSS := Lib.hid (fun (u : World) (hu : Below w.heap.size w u) => show u.cell? ⟨b, 0, none⟩ = some (.int .i64 r) ∧ u.cell? ⟨b, 1, none⟩ = some (.int .u32 a) ∧ u.cell? ⟨b, 2, none⟩ = some (.int .i64 n) ∧ u.cell? ⟨b, 3, none⟩ = some (.int .i64 i) ∧ u.cell? ⟨b, 4, none⟩ = some (.int .i64 x.og) ∧ u.cell? ⟨b, 5, none⟩ = some (.slice x.p1 x.n1 x.c1) ∧ u.cell? ⟨b, 6, none⟩ = some (.int .u32 x.nx) ∧ u.cell? ⟨b, 7, none⟩ = some (.int .i64 x.md) ∧ u.cell? ⟨b, 8, none⟩ = some (.int .i64 x.pf) ∧ u.cell? ⟨b, 9, none⟩ = some (.slice x.p2 x.n2 x.c2) ∧ u.cell? ⟨d, 0, none⟩ = some (.int .i64 r) ∧ u.cell? ⟨d, 1, none⟩ = some (.int .u32 a) ∧ u.cell? ⟨d, 2, none⟩ = some (.int .i64 n) ∧ u.cell? ⟨d, 3, none⟩ = some (.int .i64 i) ∧ u.cell? ⟨d, 4, none⟩ = some (.int .i64 y.og) ∧ u.cell? ⟨d, 5, none⟩ = some (.slice y.p1 y.n1 y.c1) ∧ u.cell? ⟨d, 6, none⟩ = some (.int .u32 y.nx) ∧ u.cell? ⟨d, 7, none⟩ = some (.int .i64 y.md) ∧ u.cell? ⟨d, 8, none⟩ = some (.int .i64 y.pf) ∧ u.cell? ⟨d, 9, none⟩ = some (.slice y.p2 y.n2 y.c2) from by
        have e1 := H1.out.next hu
        have e2 := H2.out.next hu
        exact ⟨e1.cell 0 (by simp), e1.cell 1 (by simp), e1.cell 2 (by simp), e1.cell 3 (by simp), e1.cell 4 (by simp), e1.cell 5 (by simp), e1.cell 6 (by simp), e1.cell 7 (by simp), e1.cell 8 (by simp), e1.cell 9 (by simp), e2.cell 0 (by simp), e2.cell 1 (by simp), e2.cell 2 (by simp), e2.cell 3 (by simp), e2.cell 4 (by simp), e2.cell 5 (by simp), e2.cell 6 (by simp), e2.cell 7 (by simp), e2.cell 8 (by simp), e2.cell 9 (by simp)⟩)
      have hS : wr.drew.cell? ⟨b, 0, none⟩ = some (.int .i64 r) ∧ wr.drew.cell? ⟨b, 1, none⟩ = some (.int .u32 a) ∧ wr.drew.cell? ⟨b, 2, none⟩ = some (.int .i64 n) ∧ wr.drew.cell? ⟨b, 3, none⟩ = some (.int .i64 i) ∧ wr.drew.cell? ⟨b, 4, none⟩ = some (.int .i64 x.og) ∧ wr.drew.cell? ⟨b, 5, none⟩ = some (.slice x.p1 x.n1 x.c1) ∧ wr.drew.cell? ⟨b, 6, none⟩ = some (.int .u32 x.nx) ∧ wr.drew.cell? ⟨b, 7, none⟩ = some (.int .i64 x.md) ∧ wr.drew.cell? ⟨b, 8, none⟩ = some (.int .i64 x.pf) ∧ wr.drew.cell? ⟨b, 9, none⟩ = some (.slice x.p2 x.n2 x.c2) ∧ wr.drew.cell? ⟨d, 0, none⟩ = some (.int .i64 r) ∧ wr.drew.cell? ⟨d, 1, none⟩ = some (.int .u32 a) ∧ wr.drew.cell? ⟨d, 2, none⟩ = some (.int .i64 n) ∧ wr.drew.cell? ⟨d, 3, none⟩ = some (.int .i64 i) ∧ wr.drew.cell? ⟨d, 4, none⟩ = some (.int .i64 y.og) ∧ wr.drew.cell? ⟨d, 5, none⟩ = some (.slice y.p1 y.n1 y.c1) ∧ wr.drew.cell? ⟨d, 6, none⟩ = some (.int .u32 y.nx) ∧ wr.drew.cell? ⟨d, 7, none⟩ = some (.int .i64 y.md) ∧ wr.drew.cell? ⟨d, 8, none⟩ = some (.int .i64 y.pf) ∧ wr.drew.cell? ⟨d, 9, none⟩ = some (.slice y.p2 y.n2 y.c2) := HSS.out _ HB.out.drew
      go_wp2_with fail
      go_region_held_law (fun W => W.cell? ⟨b, 0, none⟩ = some (.int .i64 r) ∧ W.cell? ⟨b, 1, none⟩ = some (.int .u32 a) ∧ W.cell? ⟨b, 2, none⟩ = some (.int .i64 n) ∧ W.cell? ⟨b, 3, none⟩ = some (.int .i64 i) ∧ W.cell? ⟨b, 4, none⟩ = some (.int .i64 x.og) ∧ W.cell? ⟨b, 5, none⟩ = some (.slice x.p1 x.n1 x.c1) ∧ W.cell? ⟨b, 6, none⟩ = some (.int .u32 x.nx) ∧ W.cell? ⟨b, 7, none⟩ = some (.int .i64 x.md) ∧ W.cell? ⟨b, 8, none⟩ = some (.int .i64 x.pf) ∧ W.cell? ⟨b, 9, none⟩ = some (.slice x.p2 x.n2 x.c2) ∧ W.cell? ⟨d, 0, none⟩ = some (.int .i64 r) ∧ W.cell? ⟨d, 1, none⟩ = some (.int .u32 a) ∧ W.cell? ⟨d, 2, none⟩ = some (.int .i64 n) ∧ W.cell? ⟨d, 3, none⟩ = some (.int .i64 i) ∧ W.cell? ⟨d, 4, none⟩ = some (.int .i64 y.og) ∧ W.cell? ⟨d, 5, none⟩ = some (.slice y.p1 y.n1 y.c1) ∧ W.cell? ⟨d, 6, none⟩ = some (.int .u32 y.nx) ∧ W.cell? ⟨d, 7, none⟩ = some (.int .i64 y.md) ∧ W.cell? ⟨d, 8, none⟩ = some (.int .i64 y.pf) ∧ W.cell? ⟨d, 9, none⟩ = some (.slice y.p2 y.n2 y.c2)) (with_reducible assumption) (first | (go_at_call 46; refine (HSA.out wr.drew HB.out.drew).mono ?_; rintro e u ⟨rfl, hu⟩; have HBu := Lib.hid (HB.out.drew.trans (hu.mono HB.out.drew.size)); have hS := HSS.out u HBu.out; clear hu))
      all_goals
        go_wp2_with fail
        go_roundw
        case rel => exact ⟨1, by omega, by go_num, HBu.out⟩
        case measure => simp [intOf]
    · obtain rfl : k = 1 := by omega
      go_wp2_with fail
      go_ret
      exact ⟨rfl, HB.out⟩
end Go.Proofs.Yteeihjdkenlebaa
