/- load: lists of loads; the document's Same of the same; nil ones; Fits. -/
import Derived.Test.YteeihjdkenlebaaE2
import Derived.Test.YteeihjdkenlebaaE5
namespace Go.Proofs.Yteeihjdkenlebaa
open Go.RowKit Go.Maps
set_option linter.unusedVariables false
set_option linter.unusedSimpArgs false
set_option maxRecDepth 100000

def loC (x : Lo) : List Value := [.int .i64 x.i, .int .i64 x.n]
abbrev loV (x : Lo) : Value := .agg #[.int .i64 x.i, .int .i64 x.n]
def InLo (x : Lo) : Prop := (Lit.int .i64 x.i).wf = true ∧ (Lit.int .i64 x.n).wf = true
theorem rowLo : RowC 26 63 loC InLo Lo.zero (.agg #[.int .i64 0, .int .i64 0]) 2 16 where
  len x := rfl
  pos := by omega
  zs := rfl
  byl := by omega
  info := by kernel_rfl
  under := Try.underlying26
  elem := by kernel_rfl
  size w := by kernel_rfl
  one x u hu := by
    simp [loC] at hu
    rcases hu with rfl | rfl <;> rfl
abbrev LosAt (w : World) (p : Option Addr) (l : List Lo) : Prop := LAt loC InLo Lo.zero 2 w p l
abbrev LosOwn (w : World) (B : Nat) (q : Option Addr) (n cap : Nat) (l : List Lo) : Prop := LOwn 63 loC InLo 2 w B q n cap l
theorem lo_cell {w : World} {p : Option Addr} {l : List Lo} {n k : Nat} (h : LosAt w p l) (hn : l.length = n) (hk : k < n) : ∃ b off, p = some ⟨b, off, none⟩ ∧ w.cell? ⟨b, off + k * 2, none⟩ = some (.int .i64 (l.getD k Lo.zero).i) ∧ w.cell? ⟨b, off + k * 2 + 1, none⟩ = some (.int .i64 (l.getD k Lo.zero).n) := by
  obtain ⟨b, off, rfl, hc⟩ := h.cell hn hk
  exact ⟨b, off, rfl, hc 0 _ rfl, hc 1 _ rfl⟩
theorem lo_under : Try.prog.underlying 63 = some (.struct (Try.prog.fieldsOf 63)) := by kernel_rfl
theorem lo_held : Try.prog.stoodInHeld 63 = false := by kernel_rfl
theorem lo_guard : Try.prog.eqGuardType Try.prog.depth 63 = false := by kernel_rfl
theorem lo_fields : (Try.prog.fieldsOf 63).toList.map (fun f => (f.name, f.type, f.offset)) = [("Iface", 3, 0), ("N", 3, 1)] := by kernel_rfl
theorem lo_two {α : Type} {l : List α} (h : l.length = 2) : ∃ x y, l = [x, y] := by
  rcases l with _ | ⟨x, _ | ⟨y, _ | ⟨z, r⟩⟩⟩ <;> simp at h
  exact ⟨x, y, rfl⟩
theorem lo_equalIn (d : Nat) (a n b m : Int) (w : World) :
    (Op.equalIn (d + 1 + 1) 63 (.agg #[.int .i64 a, .int .i64 n]) (.agg #[.int .i64 b, .int .i64 m])).run Try.prog w = .ok (a == b && n == m) w := by
  rw [run_equalIn_struct w (d + 1) _ _ _ lo_under lo_held]
  have hf := lo_fields
  generalize (Try.prog.fieldsOf 63).toList = fs at hf
  obtain ⟨f0, f1, rfl⟩ := lo_two (l := fs) (by simpa using congrArg List.length hf)
  simp only [List.map_cons, List.map_nil, List.cons.injEq, Prod.mk.injEq, and_true] at hf
  obtain ⟨⟨n0, t0, o0⟩, n1, t1, o1⟩ := hf
  have q0 : (Op.equalIn (d + 1) 3 (.int .i64 a) (.int .i64 b)).run Try.prog w = .ok (a == b) w := run_equalIn_int w d _ _ _ a b Try.underlying3
  have q1 : (Op.equalIn (d + 1) 3 (.int .i64 n) (.int .i64 m)).run Try.prog w = .ok (n == m) w := run_equalIn_int w d _ _ _ n m Try.underlying3
  have p0 : ∀ x y : Value, (part 3 #[x, y] 0).run Try.prog w = .ok x w := fun x y => by kernel_rfl
  have p1 : ∀ x y : Value, (part 3 #[x, y] 1).run Try.prog w = .ok y w := fun x y => by kernel_rfl
  simp only [Op.eqFields, n0, n1, t0, t1, o0, o1]
  rw [if_pos (by decide), if_pos (by decide)]
  simp only [Sem.run_bind, p0, q0, Result.andThen_ok]
  rcases a == b with _ | _
  · simp [Sem.run_pure]
  · simp only [Bool.not_true, Bool.false_eq_true, if_false, Sem.run_bind, p1, q1, Result.andThen_ok]
    rcases n == m with _ | _ <;> simp [Sem.run_pure]
theorem lo_neq (a n b m : Int) (w : World) :
    (binOp .neq 63 (.agg #[.int .i64 a, .int .i64 n]) (.agg #[.int .i64 b, .int .i64 m])).run Try.prog w = .ok (.bool (!(a == b && n == m))) w := by
  rw [run_neq_struct, show (Op.equalIn 10000 63 (.agg #[.int .i64 a, .int .i64 n]) (.agg #[.int .i64 b, .int .i64 m])).run Try.prog w = .ok (a == b && n == m) w from lo_equalIn 9998 a n b m w]; rfl
theorem lo_eqGuard (op : BinOp) (x y : Operand) (xs ys : Array Value) (w : World) : (eqGuard op 63 x y (.agg xs) (.agg ys)).run Try.prog w = .ok () w := run_eqGuard_agg w op _ x y xs ys lo_guard

theorem rsameL_yes (p q : Option Addr) (l : List Lo) (n c d : Nat) (w : World) (h1 : LosAt w p l) (h2 : LosAt w q l) (hn : l.length = n) (hm : n ≤ maxLen) :
    Calls Try.prog 14 #[.slice p n c, .slice q n d] w fun e w' => e = .returned (.bool true) ∧ Below w.heap.size w w' := by
  unfold maxLen at hm
  have H1 := Lib.hid h1
  have H2 := Lib.hid h2
  have HN := Lib.hid hn
  have hnn : ((n : Int) != (n : Int)) = false := by simp
  clear h1 h2 hn
  go_enter Try.func14, Try.ntmps14
  go_wp2_with fail
  go_loopw [5] (fun i wr => ∃ k : Nat, k ≤ n ∧ i = .int .i64 k ∧ Below w.heap.size w wr) (fun i _ => n - (intOf i).toNat)
  case atStart => exact ⟨0, Nat.zero_le _, rfl, Below.refl _ _⟩
  case round =>
    obtain ⟨k, hk, rfl, hB⟩ := hrel
    have HB := Lib.hid hB
    clear hB
    by_cases hlt : k < n
    · obtain ⟨b, off, rfl, c0, c1⟩ := lo_cell (H1.out.below HB.out) HN.out hlt
      obtain ⟨b2, off2, rfl, d0, d1⟩ := lo_cell (H2.out.below HB.out) HN.out hlt
      obtain ⟨x, hx⟩ : ∃ x, l.getD k Lo.zero = x := ⟨_, rfl⟩
      rw [hx] at c0 c1 d0 d1
      obtain ⟨x0, x1⟩ := x
      simp only at c0 c1 d0 d1
      have hg := lo_eqGuard
      have hq : ∀ u, (binOp .neq 63 (.agg #[.int .i64 x0, .int .i64 x1]) (.agg #[.int .i64 x0, .int .i64 x1])).run Try.prog u = .ok (.bool false) u := fun u => (lo_neq x0 x1 x0 x1 u).trans (by simp)
      have hltI : (k : Int) < (n : Int) := by omega
      clear hx
      go_wp2_with fail
      go_quiet (fail)
      go_wp2_with fail
      go_roundw
      case rel => exact ⟨k + 1, by omega, by go_num, HB.out.trans ((below_dN _ _ _).mono HB.out.size)⟩
      case measure => simp [intOf]; omega
    · obtain rfl : k = n := by omega
      go_wp2_with fail
      go_ret
      exact ⟨rfl, HB.out⟩
theorem ldall_nil (w : World) : Calls Try.prog 15 #[.pointer none] w fun e w' => e = .returned (.slice none 0 0) ∧ w = w' := by
  go_enter Try.func15, Try.ntmps15
  go_wp2_with (go_at_call 35; refine (ldclosed_nil _).mono ?_; rintro e w' ⟨rfl, rfl⟩)
  go_ret
  exact ⟨rfl, rfl⟩
end Go.Proofs.Yteeihjdkenlebaa
