/- Counts held against each other; the law's Same of the same list, Ten, One. -/
import Derived.Test.YtgididkpgncdjaaZ1
namespace Go.Proofs.Ytgididkpgncdjaa
open Go.RowKit Go.Maps
set_option linter.unusedVariables false
set_option linter.unusedSimpArgs false
set_option maxRecDepth 100000

theorem ct_under : Try.prog.underlying 67 = some (.struct (Try.prog.fieldsOf 67)) := by kernel_rfl
theorem ct_held : Try.prog.stoodInHeld 67 = false := by kernel_rfl
theorem ct_guard : Try.prog.eqGuardType Try.prog.depth 67 = false := by kernel_rfl
theorem ct_fields : (Try.prog.fieldsOf 67).toList.map (fun f => (f.name, f.type, f.offset)) = [("P", 25, 0), ("N", 3, 2)] := by kernel_rfl
theorem ct_equalIn (d : Nat) (i a n j b m : Int) (w : World) :
    (Op.equalIn (d + 1 + 1 + 1) 67 (.agg #[.int .u32 a, .int .i64 n, .int .i64 i]) (.agg #[.int .u32 b, .int .i64 m, .int .i64 j])).run Try.prog w = .ok ((a == b && n == m) && i == j) w := by
  rw [run_equalIn_struct w (d + 1 + 1) _ _ _ ct_under ct_held]
  have hf := ct_fields
  generalize (Try.prog.fieldsOf 67).toList = fs at hf
  obtain ⟨f0, f1, rfl⟩ := list_two (l := fs) (by simpa using congrArg List.length hf)
  simp only [List.map_cons, List.map_nil, List.cons.injEq, Prod.mk.injEq, and_true] at hf
  obtain ⟨⟨n0, t0, o0⟩, n1, t1, o1⟩ := hf
  have q0 : (Op.equalIn (d + 1 + 1) 3 (.int .i64 i) (.int .i64 j)).run Try.prog w = .ok (i == j) w := run_equalIn_int w (d + 1) _ _ _ i j Try.underlying3
  have q1 := pfx_equalIn d a n b m w
  have p0 : ∀ x y z : Value, (part 3 #[x, y, z] 2).run Try.prog w = .ok z w := fun x y z => by kernel_rfl
  have p1 : ∀ x y z : Value, (part 25 #[x, y, z] 0).run Try.prog w = .ok (.agg #[x, y]) w := fun x y z => by kernel_rfl
  simp only [Op.eqFields, n0, n1, t0, t1, o0, o1]
  rw [if_pos (by decide), if_pos (by decide)]
  simp only [Sem.run_bind, p1, q1, Result.andThen_ok]
  rcases a == b && n == m with _ | _
  · simp [Sem.run_pure]
  · simp only [Bool.not_true, Bool.false_eq_true, if_false, Sem.run_bind, p0, q0, Result.andThen_ok]
    rcases i == j with _ | _ <;> simp [Sem.run_pure]
theorem ct_equal (i a n j b m : Int) (w : World) :
    (Op.equalIn 10000 67 (.agg #[.int .u32 a, .int .i64 n, .int .i64 i]) (.agg #[.int .u32 b, .int .i64 m, .int .i64 j])).run Try.prog w = .ok ((a == b && n == m) && i == j) w := ct_equalIn 9997 i a n j b m w
theorem ct_neq (i a n j b m : Int) (w : World) :
    (binOp .neq 67 (.agg #[.int .u32 a, .int .i64 n, .int .i64 i]) (.agg #[.int .u32 b, .int .i64 m, .int .i64 j])).run Try.prog w = .ok (.bool (!((a == b && n == m) && i == j))) w := by
  rw [run_neq_struct, ct_equal]; rfl
theorem ct_eqGuard (op : BinOp) (x y : Operand) (xs ys : Array Value) (w : World) : (eqGuard op 67 x y (.agg xs) (.agg ys)).run Try.prog w = .ok () w := run_eqGuard_agg w op _ x y xs ys ct_guard

theorem rsameT_yes (p q : Option Addr) (l : List Ct) (n c d : Nat) (w : World) (h1 : CtsAt w p l) (h2 : CtsAt w q l) (hn : l.length = n) (hm : n ≤ maxLen) :
    Calls Try.prog 18 #[.slice p n c, .slice q n d] w fun e w' => e = .returned (.bool true) ∧ Below w.heap.size w w' := by
  unfold maxLen at hm
  have H1 := Lib.hid h1
  have H2 := Lib.hid h2
  have HN := Lib.hid hn
  have hnn : ((n : Int) != (n : Int)) = false := by simp
  clear h1 h2 hn
  go_enter Try.func18, Try.ntmps18
  go_wp2_with fail
  go_loopw [5] (fun i wr => ∃ k : Nat, k ≤ n ∧ i = .int .i64 k ∧ Below w.heap.size w wr) (fun i _ => n - (intOf i).toNat)
  case atStart => exact ⟨0, Nat.zero_le _, rfl, Below.refl _ _⟩
  case round =>
    obtain ⟨k, hk, rfl, hB⟩ := hrel
    have HB := Lib.hid hB
    clear hB
    by_cases hlt : k < n
    · obtain ⟨b, off, rfl, c0, c1, c2⟩ := ct_cell (H1.out.below HB.out) HN.out hlt
      obtain ⟨b2, off2, rfl, d0, d1, d2⟩ := ct_cell (H2.out.below HB.out) HN.out hlt
      obtain ⟨x, hx⟩ : ∃ x, l.getD k Ct.zero = x := ⟨_, rfl⟩
      rw [hx] at c0 c1 c2 d0 d1 d2
      obtain ⟨⟨x0, x1⟩, x2⟩ := x
      simp only at c0 c1 c2 d0 d1 d2
      have hg := ct_eqGuard
      have hq : ∀ u, (binOp .neq 67 (.agg #[.int .u32 x0, .int .i64 x1, .int .i64 x2]) (.agg #[.int .u32 x0, .int .i64 x1, .int .i64 x2])).run Try.prog u = .ok (.bool false) u := fun u => (ct_neq x2 x0 x1 x2 x0 x1 u).trans (by simp)
      have hltI : (k : Int) < (n : Int) := by omega
      clear hx
      go_wp2_with fail
      go_quiet (fail)
      go_wp2_with fail
      go_roundw
      case rel => exact ⟨k + 1, by omega, by go_num, HB.out.trans ((below_dN _ _ _).mono HB.out.size)⟩
      case measure => simp [intOf]; omega
    · obtain rfl : k = n := by omega
      go_wp2_with fail
      go_ret
      exact ⟨rfl, HB.out⟩
/-- A count written out as a list. -/
theorem ct_one (w : World) (x : Ct) (hx : InCt x) : CtsAt (w.alloc (.cells #[.int .u32 x.p.a, .int .i64 x.p.n, .int .i64 x.c] 67)) (some ⟨w.heap.size, 0, none⟩) [x] :=
  (LOwn.lit rowCt w 0 [x] (fun y hy => by simp at hy; rw [hy]; exact hx) (Nat.zero_le _) (by unfold maxLen; simp)).at rowCt
end Go.Proofs.Ytgididkpgncdjaa
