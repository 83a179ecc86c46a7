/- hop: interfaces held against each other; the document's Same. -/
import Derived.Test.YtlkpalaakncicaaWB
namespace Go.Proofs.Ytlkpalaakncicaa
open Go.RowKit
set_option linter.unusedVariables false
set_option linter.unusedSimpArgs false

theorem if_under : Try.prog.underlying 34 = some (.struct (Try.prog.fieldsOf 34)) := by kernel_rfl
theorem if_held : Try.prog.stoodInHeld 34 = false := by kernel_rfl
theorem if_guard : Try.prog.eqGuardType Try.prog.depth 34 = false := by kernel_rfl
theorem if_fields : (Try.prog.fieldsOf 34).toList.map (fun f => (f.name, f.type, f.offset)) = [("ID", 3, 0), ("Router", 3, 1), ("Net", 32, 2), ("Cap", 3, 4)] := by kernel_rfl
theorem list_four {α : Type} {l : List α} (h : l.length = 4) : ∃ x y z u, l = [x, y, z, u] := by
  rcases l with _ | ⟨x, _ | ⟨y, _ | ⟨z, _ | ⟨u, _ | ⟨v, r⟩⟩⟩⟩⟩ <;> simp at h
  exact ⟨x, y, z, u, rfl⟩
def eqI (x y : Ifc) : Bool := x.id == y.id && (x.r == y.r && ((x.a == y.a && x.n == y.n) && x.c == y.c))
theorem eqI_iff (x y : Ifc) : eqI x y = true ↔ x = y := by
  obtain ⟨a, b, c, d, e⟩ := x
  obtain ⟨a', b', c', d', e'⟩ := y
  simp [eqI]
  intro _ _
  constructor
  · rintro ⟨⟨h1, h2⟩, h3⟩; exact ⟨h1, h2, h3⟩
  · rintro ⟨h1, h2, h3⟩; exact ⟨⟨h1, h2⟩, h3⟩
theorem if_equalIn (d : Nat) (x y : Ifc) (w : World) :
    (Op.equalIn (d + 1 + 1 + 1) 34 (ifV x) (ifV y)).run Try.prog w = .ok (eqI x y) w := by
  obtain ⟨x0, x1, x2, x3, x4⟩ := x
  obtain ⟨y0, y1, y2, y3, y4⟩ := y
  unfold eqI
  rw [run_equalIn_struct w (d + 1 + 1) _ _ _ if_under if_held]
  have hf := if_fields
  generalize (Try.prog.fieldsOf 34).toList = fs at hf
  obtain ⟨f0, f1, f2, f3, rfl⟩ := list_four (l := fs) (by simpa using congrArg List.length hf)
  simp only [List.map_cons, List.map_nil, List.cons.injEq, Prod.mk.injEq, and_true] at hf
  obtain ⟨⟨n0, t0, o0⟩, ⟨n1, t1, o1⟩, ⟨n2, t2, o2⟩, n3, t3, o3⟩ := hf
  have q0 : (Op.equalIn (d + 1 + 1) 3 (.int .i64 x0) (.int .i64 y0)).run Try.prog w = .ok (x0 == y0) w := run_equalIn_int w (d + 1) _ _ _ x0 y0 Try.underlying3
  have q1 : (Op.equalIn (d + 1 + 1) 3 (.int .i64 x1) (.int .i64 y1)).run Try.prog w = .ok (x1 == y1) w := run_equalIn_int w (d + 1) _ _ _ x1 y1 Try.underlying3
  have q2 := pfx_equalIn d x2 x3 y2 y3 w
  have q3 : (Op.equalIn (d + 1 + 1) 3 (.int .i64 x4) (.int .i64 y4)).run Try.prog w = .ok (x4 == y4) w := run_equalIn_int w (d + 1) _ _ _ x4 y4 Try.underlying3
  have p0 : ∀ a b c d e : Value, (part 3 #[a, b, c, d, e] 0).run Try.prog w = .ok a w := fun a b c d e => by kernel_rfl
  have p1 : ∀ a b c d e : Value, (part 3 #[a, b, c, d, e] 1).run Try.prog w = .ok b w := fun a b c d e => by kernel_rfl
  have p2 : ∀ a b c d e : Value, (part 32 #[a, b, c, d, e] 2).run Try.prog w = .ok (.agg #[c, d]) w := fun a b c d e => by kernel_rfl
  have p3 : ∀ a b c d e : Value, (part 3 #[a, b, c, d, e] 4).run Try.prog w = .ok e w := fun a b c d e => by kernel_rfl
  simp only [Op.eqFields, n0, n1, n2, n3, t0, t1, t2, t3, o0, o1, o2, o3]
  rw [if_pos (by decide), if_pos (by decide), if_pos (by decide), if_pos (by decide)]
  simp only [Sem.run_bind, p0, q0, Result.andThen_ok]
  rcases x0 == y0 with _ | _
  · simp [Sem.run_pure]
  · simp only [Bool.not_true, Bool.false_eq_true, if_false, Sem.run_bind, p1, q1, Result.andThen_ok]
    rcases x1 == y1 with _ | _
    · simp [Sem.run_pure]
    · simp only [Bool.not_true, Bool.false_eq_true, if_false, Sem.run_bind, p2, q2, Result.andThen_ok]
      rcases x2 == y2 && x3 == y3 with _ | _
      · simp [Sem.run_pure]
      · simp only [Bool.not_true, Bool.false_eq_true, if_false, Sem.run_bind, p3, q3, Result.andThen_ok]
        rcases x4 == y4 with _ | _ <;> simp [Sem.run_pure]
theorem if_equal (x y : Ifc) (w : World) : (Op.equalIn 10000 34 (ifV x) (ifV y)).run Try.prog w = .ok (eqI x y) w := if_equalIn 9997 x y w
theorem if_eql (x y : Ifc) (w : World) : (binOp .eql 34 (ifV x) (ifV y)).run Try.prog w = .ok (.bool (eqI x y)) w := by
  rw [run_eql_struct, if_equal]; rfl
theorem if_neq (x y : Ifc) (w : World) : (binOp .neq 34 (ifV x) (ifV y)).run Try.prog w = .ok (.bool (!eqI x y)) w := by
  rw [run_neq_struct, if_equal]; rfl
theorem if_eqGuard (op : BinOp) (x y : Operand) (xs ys : Array Value) (w : World) : (eqGuard op 34 x y (.agg xs) (.agg ys)).run Try.prog w = .ok () w := run_eqGuard_agg w op _ x y xs ys if_guard
theorem if_cell {w : World} {p : Option Addr} {l : List Ifc} {n k : Nat} (h : IfsAt w p l) (hn : l.length = n) (hk : k < n) : ∃ b off, p = some ⟨b, off, none⟩ ∧ w.cell? ⟨b, off + k * 5, none⟩ = some (.int .i64 (l.getD k Ifc.zero).id) ∧ w.cell? ⟨b, off + k * 5 + 1, none⟩ = some (.int .i64 (l.getD k Ifc.zero).r) ∧ w.cell? ⟨b, off + k * 5 + 2, none⟩ = some (.int .u32 (l.getD k Ifc.zero).a) ∧ w.cell? ⟨b, off + k * 5 + 3, none⟩ = some (.int .i64 (l.getD k Ifc.zero).n) ∧ w.cell? ⟨b, off + k * 5 + 4, none⟩ = some (.int .i64 (l.getD k Ifc.zero).c) := by
  rcases h.cells with rfl | ⟨b, off, rfl, hc⟩
  · simp at hn; omega
  · obtain ⟨c0, c1, c2, c3, c4⟩ := hc k (by omega)
    rw [← Nat.add_assoc] at c1 c2 c3 c4
    exact ⟨b, off, rfl, c0, c1, c2, c3, c4⟩
set_option maxHeartbeats 4000000 in
theorem rsameI_yes (p q : Option Addr) (l : List Ifc) (n c d : Nat) (w : World) (h1 : IfsAt w p l) (h2 : IfsAt w q l) (hn : l.length = n) (hm : n ≤ maxLen) :
    Calls Try.prog 15 #[.slice p n c, .slice q n d] w fun e w' => e = .returned (.bool true) ∧ Below w.heap.size w w' := by
  unfold maxLen at hm
  have H1 := Lib.hid h1
  have H2 := Lib.hid h2
  have HN := Lib.hid hn
  clear h1 h2 hn
  go_enter Try.func15, Try.ntmps15
  go_wp2_with fail
  go_loopw [5] (fun i wr => ∃ k : Nat, k ≤ n ∧ i = .int .i64 k ∧ Below w.heap.size w wr) (fun i _ => n - (intOf i).toNat)
  case atStart => exact ⟨0, Nat.zero_le _, rfl, Below.refl _ _⟩
  case round =>
    obtain ⟨k, hk, rfl, hB⟩ := hrel
    have HB := Lib.hid hB
    clear hB
    by_cases hlt : k < n
    · obtain ⟨b, off, rfl, c0, c1, c2, c3, c4⟩ := if_cell (H1.out.below HB.out) HN.out hlt
      obtain ⟨b2, off2, rfl, d0, d1, d2, d3, d4⟩ := if_cell (H2.out.below HB.out) HN.out hlt
      obtain ⟨x, hx⟩ : ∃ x, l.getD k Ifc.zero = x := ⟨_, rfl⟩
      rw [hx] at c0 c1 c2 c3 c4 d0 d1 d2 d3 d4
      have hg := if_eqGuard
      have hq := if_neq x x
      have hz : (!eqI x x) = false := by rw [(eqI_iff x x).2 rfl]; rfl
      rw [hz] at hq
      obtain ⟨x0, x1, x2, x3, x4⟩ := x
      simp only at c0 c1 c2 c3 c4 d0 d1 d2 d3 d4
      have hq : ∀ u, (binOp .neq 34 (.agg #[.int .i64 x0, .int .i64 x1, .int .u32 x2, .int .i64 x3, .int .i64 x4]) (.agg #[.int .i64 x0, .int .i64 x1, .int .u32 x2, .int .i64 x3, .int .i64 x4])).run Try.prog u = .ok (.bool false) u := hq
      have hltI : (k : Int) < (n : Int) := by omega
      clear hx hz
      have hS : wr.drew.cell? ⟨b, off + k * 5, none⟩ = some (.int .i64 x0) ∧ wr.drew.cell? ⟨b, off + k * 5 + 1, none⟩ = some (.int .i64 x1) ∧ wr.drew.cell? ⟨b, off + k * 5 + 2, none⟩ = some (.int .u32 x2) ∧ wr.drew.cell? ⟨b, off + k * 5 + 3, none⟩ = some (.int .i64 x3) ∧ wr.drew.cell? ⟨b, off + k * 5 + 4, none⟩ = some (.int .i64 x4) ∧ wr.drew.cell? ⟨b2, off2 + k * 5, none⟩ = some (.int .i64 x0) ∧ wr.drew.cell? ⟨b2, off2 + k * 5 + 1, none⟩ = some (.int .i64 x1) ∧ wr.drew.cell? ⟨b2, off2 + k * 5 + 2, none⟩ = some (.int .u32 x2) ∧ wr.drew.cell? ⟨b2, off2 + k * 5 + 3, none⟩ = some (.int .i64 x3) ∧ wr.drew.cell? ⟨b2, off2 + k * 5 + 4, none⟩ = some (.int .i64 x4) := ⟨c0, c1, c2, c3, c4, d0, d1, d2, d3, d4⟩
      go_wp2_with fail
      clear c0 c1 c2 c3 c4 d0 d1 d2 d3 d4
      go_region_held (fun w' => w'.cell? ⟨b, off + k * 5, none⟩ = some (.int .i64 x0) ∧ w'.cell? ⟨b, off + k * 5 + 1, none⟩ = some (.int .i64 x1) ∧ w'.cell? ⟨b, off + k * 5 + 2, none⟩ = some (.int .u32 x2) ∧ w'.cell? ⟨b, off + k * 5 + 3, none⟩ = some (.int .i64 x3) ∧ w'.cell? ⟨b, off + k * 5 + 4, none⟩ = some (.int .i64 x4) ∧ w'.cell? ⟨b2, off2 + k * 5, none⟩ = some (.int .i64 x0) ∧ w'.cell? ⟨b2, off2 + k * 5 + 1, none⟩ = some (.int .i64 x1) ∧ w'.cell? ⟨b2, off2 + k * 5 + 2, none⟩ = some (.int .u32 x2) ∧ w'.cell? ⟨b2, off2 + k * 5 + 3, none⟩ = some (.int .i64 x3) ∧ w'.cell? ⟨b2, off2 + k * 5 + 4, none⟩ = some (.int .i64 x4)) (with_reducible assumption) (fail)
      go_wp2_with fail
      go_roundw
      case rel => exact ⟨k + 1, by omega, by go_num, HB.out.drew⟩
      case measure => simp [intOf]; omega
    · obtain rfl : k = n := by omega
      go_wp2
      go_ret
      exact ⟨rfl, HB.out⟩
end Go.Proofs.Ytlkpalaakncicaa
