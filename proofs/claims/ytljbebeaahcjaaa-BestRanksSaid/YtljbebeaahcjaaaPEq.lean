/- Two prefixes held against each other as a whole. -/
import Derived.Test.YtljbebeaahcjaaaAK
import Derived.Laws.StructEq
namespace Go.Proofs.Ytljbebeaahcjaaa
open Go.RowKit
theorem pfx_under : Try.prog.underlying 27 = some (.struct (Try.prog.fieldsOf 27)) := by kernel_rfl
theorem pfx_held : Try.prog.stoodInHeld 27 = false := by kernel_rfl
theorem pfx_guard : Try.prog.eqGuardType Try.prog.depth 27 = false := by kernel_rfl
theorem pfx_fields : (Try.prog.fieldsOf 27).toList.map (fun f => (f.name, f.type, f.offset)) = [("Addr", 25, 0), ("Len", 3, 1)] := by kernel_rfl
theorem list_two {α : Type} {l : List α} (h : l.length = 2) : ∃ x y, l = [x, y] := by
  rcases l with _ | ⟨x, _ | ⟨y, _ | ⟨z, r⟩⟩⟩ <;> simp at h
  exact ⟨x, y, rfl⟩
theorem pfx_equalIn (d : Nat) (a n b m : Int) (w : World) :
    (Op.equalIn (d + 1 + 1) 27 (.agg #[.int .u32 a, .int .i64 n]) (.agg #[.int .u32 b, .int .i64 m])).run Try.prog w = .ok (a == b && n == m) w := by
  rw [run_equalIn_struct w (d + 1) _ _ _ pfx_under pfx_held]
  have hf := pfx_fields
  generalize (Try.prog.fieldsOf 27).toList = fs at hf
  obtain ⟨f0, f1, rfl⟩ := list_two (l := fs) (by simpa using congrArg List.length hf)
  simp only [List.map_cons, List.map_nil, List.cons.injEq, Prod.mk.injEq, and_true] at hf
  obtain ⟨⟨n0, t0, o0⟩, n1, t1, o1⟩ := hf
  have q0 : (Op.equalIn (d + 1) 25 (.int .u32 a) (.int .u32 b)).run Try.prog w = .ok (a == b) w := run_equalIn_int w d _ _ _ a b Try.underlying25
  have q1 : (Op.equalIn (d + 1) 3 (.int .i64 n) (.int .i64 m)).run Try.prog w = .ok (n == m) w := run_equalIn_int w d _ _ _ n m Try.underlying3
  have p0 : ∀ x y : Value, (part 25 #[x, y] 0).run Try.prog w = .ok x w := fun x y => by kernel_rfl
  have p1 : ∀ x y : Value, (part 3 #[x, y] 1).run Try.prog w = .ok y w := fun x y => by kernel_rfl
  simp only [Op.eqFields, n0, n1, t0, t1, o0, o1]
  rw [if_pos (by decide), if_pos (by decide)]
  simp only [Sem.run_bind, p0, q0, Result.andThen_ok]
  rcases a == b with _ | _
  · simp [Sem.run_pure]
  · simp only [Bool.not_true, Bool.false_eq_true, if_false, Sem.run_bind, p1, q1, Result.andThen_ok]
    rcases n == m with _ | _ <;> simp [Sem.run_pure]
theorem pfx_equal (a n b m : Int) (w : World) :
    (Op.equalIn 10000 27 (.agg #[.int .u32 a, .int .i64 n]) (.agg #[.int .u32 b, .int .i64 m])).run Try.prog w = .ok (a == b && n == m) w := pfx_equalIn 9998 a n b m w
theorem pfx_eql (a n b m : Int) (w : World) :
    (binOp .eql 27 (.agg #[.int .u32 a, .int .i64 n]) (.agg #[.int .u32 b, .int .i64 m])).run Try.prog w = .ok (.bool (a == b && n == m)) w := by
  rw [run_eql_struct, pfx_equal]; rfl
theorem pfx_neq (a n b m : Int) (w : World) :
    (binOp .neq 27 (.agg #[.int .u32 a, .int .i64 n]) (.agg #[.int .u32 b, .int .i64 m])).run Try.prog w = .ok (.bool (!(a == b && n == m))) w := by
  rw [run_neq_struct, pfx_equal]; rfl
theorem pfx_eqGuard (op : BinOp) (x y : Operand) (xs ys : Array Value) (w : World) : (eqGuard op 27 x y (.agg xs) (.agg ys)).run Try.prog w = .ok () w := run_eqGuard_agg w op _ x y xs ys pfx_guard
end Go.Proofs.Ytljbebeaahcjaaa
