/- Timers' keys; what their map holds. -/
import Derived.Test.YtlcciifoddcbdaaBy
import Derived.Maps.Own
import Derived.Maps.OwnSet
import Derived.Maps.OwnOps
import Derived.Maps.RangeWalk
import Derived.DeepKeys4
import Derived.Lib.SmallJoins
namespace Go.Proofs.Ytlcciifoddcbdaa
open Go.RowKit Go.Maps

structure Tk where
  peer : Int
  kind : Int
def tkV (x : Tk) : Value := .agg #[.int .i64 x.peer, .int .i64 x.kind]
def tkC (x : Tk) : List Value := [.int .i64 x.peer, .int .i64 x.kind]
theorem tkLaid : laidOutB Try.prog = true := by kernel_rfl
theorem tk_row : (31 : TypeId) < Try.prog.types.size := of_decide_eq_true (by kernel_rfl)
theorem tk_wide : (match Try.prog.underlying 31 with | some (.array _ _) | some (.struct _) => true | _ => false) = true := by kernel_rfl
theorem tk_kt : Try.prog.keyTypeAt 3 31 = true := by kernel_rfl
set_option maxRecDepth 100000 in
theorem tk_law : WideMaps.KeyLaw Try.prog 31 := deep_law_laid tkLaid (m := 3) (by omega) tk_row tk_kt tk_wide
theorem tk_keyed : Keyed Try.prog 31 := Keyed.of_law tk_law
theorem tk_keyType : Try.prog.keyType 31 = true := by kernel_rfl
theorem tk_cells : Try.prog.cellsOf 31 = 2 := by kernel_rfl
theorem tk_flds : (Try.prog.fieldsOf 31).toList.map (fun f => (f.type, f.offset, f.name != "_")) = [(3, 0, true), (3, 1, true)] := by kernel_rfl
theorem tk_und : Try.prog.underlying 31 = some (.struct (Try.prog.fieldsOf 31)) := by kernel_rfl
theorem int_cells : Try.prog.cellsOf 3 = 1 := by kernel_rfl
theorem kl_int (d : Nat) (cs : List Value) : Try.prog.keyLits (d + 1) 3 cs = match cs with | [.int q' n] => if q' = .i64 ∧ (Lit.int .i64 n).wf = true then some [.int .i64 n] else none | _ => none := by
  unfold Program.keyLits
  rw [Try.underlying3]
  rcases cs with _ | ⟨c, _ | ⟨c2, t⟩⟩
  · rfl
  · cases c <;> rfl
  · cases c <;> rfl
theorem kl_tk (d : Nat) (c0 c1 : Value) : Try.prog.keyLits (d + 1) 31 [c0, c1] = (Try.prog.keyLits d 3 [c0]).bind fun a => (Try.prog.keyLits d 3 [c1]).bind fun b => some (a ++ b) := by
  have hf := tk_flds
  obtain ⟨f0, f1, hff⟩ := Joins.array2 (cs := Try.prog.fieldsOf 31) (by simpa using congrArg List.length hf)
  rw [hff] at hf
  simp only [List.map_cons, List.map_nil, List.cons.injEq, Prod.mk.injEq, and_true] at hf
  obtain ⟨⟨t0, o0, n0⟩, t1, o1, n1⟩ := hf
  obtain ⟨A, hA⟩ : ∃ A, Try.prog.keyLits d 3 [c0] = A := ⟨_, rfl⟩
  obtain ⟨B, hB⟩ : ∃ B, Try.prog.keyLits d 3 [c1] = B := ⟨_, rfl⟩
  rw [hA, hB]
  unfold Program.keyLits
  rw [tk_und, hff]
  simp only [tk_cells, List.length_cons, List.length_nil]
  have hall : (#[f0, f1] : Array Field).all (·.name != "_") = true := by simp [n0, n1]
  rw [if_pos ⟨by simp, hall⟩]
  simp only [List.mapM_cons, List.mapM_nil, t0, o0, t1, o1, int_cells, List.drop_zero, List.take_succ_cons, List.take_zero, List.drop_succ_cons, hA, hB]
  rcases A with _ | a
  · rfl
  · rcases B with _ | b
    · rfl
    · simp
def okT (x : Tk) : Prop := (Lit.int .i64 x.peer).wf = true ∧ (Lit.int .i64 x.kind).wf = true
def litT (x : Tk) : Lit := .string (keyBytes [.int .i64 x.peer, .int .i64 x.kind])
theorem tk_formed (cs : Array Value) : (Value.agg cs).formed Try.prog 31 = (cs.size == 2) := by
  simp [Value.formed, tk_und, tk_cells]
theorem keyOf_tk (v : Value) : keyOf Try.prog 31 v = if v.formed Try.prog 31 = true then (Try.prog.keyLits (Try.prog.types.size + 1) 31 v.cells.toList).map fun ls => .string (keyBytes ls) else none := by
  unfold keyOf
  rw [tk_und]
  simp only [tk_keyType, Bool.true_and]
theorem types_two : ∃ d, Try.prog.types.size + 1 = d + 1 + 1 := ⟨Try.prog.types.size - 1, by have := (show 2 < Try.prog.types.size from of_decide_eq_true (by kernel_rfl)); omega⟩
theorem keyT_mk (x : Tk) (h : okT x) : keyOf Try.prog 31 (tkV x) = some (litT x) := by
  obtain ⟨d, hd⟩ := types_two
  obtain ⟨h1, h2⟩ := h
  rw [keyOf_tk, hd]
  unfold tkV litT
  rw [tk_formed]
  simp [Value.cells, kl_tk, kl_int, h1, h2]
theorem kl_int_inv {d : Nat} {c : Value} {ls : List Lit} (h : Try.prog.keyLits (d + 1) 3 [c] = some ls) : ∃ n, c = .int .i64 n ∧ (Lit.int .i64 n).wf = true ∧ ls = [.int .i64 n] := by
  rw [kl_int] at h
  cases c with
  | int q n =>
    simp only at h
    split at h
    · rename_i hq
      obtain ⟨rfl, hw⟩ := hq
      exact ⟨n, rfl, hw, by simpa using h.symm⟩
    · cases h
  | _ => cases h
theorem formedT_agg {v : Value} (h : v.formed Try.prog 31 = true) : ∃ cs, v = .agg cs := by
  unfold Value.formed at h
  rw [tk_und] at h
  cases v with
  | agg cs => exact ⟨cs, rfl⟩
  | _ => cases h
theorem keyT_inv {v : Value} {kl : Lit} (h : keyOf Try.prog 31 v = some kl) : ∃ x, v = tkV x ∧ okT x ∧ kl = litT x := by
  obtain ⟨d, hd⟩ := types_two
  rw [keyOf_tk] at h
  split at h
  · rename_i hf
    rw [hd] at h
    obtain ⟨cs, rfl⟩ := formedT_agg hf
    rw [tk_formed] at hf
    obtain ⟨c0, c1, rfl⟩ := Joins.array2 (cs := cs) (by simpa using hf)
    obtain ⟨ls, hls, rfl⟩ := Option.map_eq_some_iff.1 h
    simp only [Value.cells] at hls
    rw [kl_tk] at hls
    obtain ⟨a, ha, hls⟩ := Option.bind_eq_some_iff.1 hls
    obtain ⟨b, hb, hls⟩ := Option.bind_eq_some_iff.1 hls
    obtain ⟨n0, rfl, w0, rfl⟩ := kl_int_inv ha
    obtain ⟨n1, rfl, w1, rfl⟩ := kl_int_inv hb
    obtain rfl := Option.some.inj hls
    exact ⟨⟨n0, n1⟩, rfl, ⟨w0, w1⟩, rfl⟩
  · cases h
theorem litT_inj {x y : Tk} (hx : okT x) (hy : okT y) (h : litT x = litT y) : x = y := by
  have := tk_keyed.inj (keyT_mk x hx) (h ▸ keyT_mk y hy)
  unfold tkV at this
  simp at this
  obtain ⟨a, b⟩ := x
  obtain ⟨a', b'⟩ := y
  simp_all
theorem litT_key (x : Tk) : WideAt.IsKeyLit (litT x) := trivial
end Go.Proofs.Ytlcciifoddcbdaa
