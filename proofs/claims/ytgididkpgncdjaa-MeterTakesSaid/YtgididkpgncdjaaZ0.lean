/- Prefixes as a map's keys; counts. -/
import Derived.Test.YtgididkpgncdjaaZa
import Derived.Test.YtgididkpgncdjaaY0
import Derived.Test.YtgididkpgncdjaaRefD02
import Derived.Deep.RegionHeldLaw
import Derived.DeepKeys4
import Derived.Lib.SmallJoins
namespace Go.Proofs.Ytgididkpgncdjaa
open Go.RowKit Go.Maps
set_option linter.unusedVariables false
set_option linter.unusedSimpArgs false

structure Pf where
  a : Int
  n : Int
deriving instance DecidableEq for Pf
abbrev pfV (x : Pf) : Value := .agg #[.int .u32 x.a, .int .i64 x.n]
def pfC (x : Pf) : List Value := [.int .u32 x.a, .int .i64 x.n]
theorem pkLaid : laidOutB Try.prog = true := by kernel_rfl
theorem pk_row : (25 : TypeId) < Try.prog.types.size := of_decide_eq_true (by kernel_rfl)
theorem pk_wide : (match Try.prog.underlying 25 with | some (.array _ _) | some (.struct _) => true | _ => false) = true := by kernel_rfl
theorem pk_kt : Try.prog.keyTypeAt 3 25 = true := by kernel_rfl
set_option maxRecDepth 100000 in
theorem pk_law : WideMaps.KeyLaw Try.prog 25 := deep_law_laid pkLaid (m := 3) (by omega) pk_row pk_kt pk_wide
theorem pk_keyed : Keyed Try.prog 25 := Keyed.of_law pk_law
theorem pk_keyType : Try.prog.keyType 25 = true := by kernel_rfl
theorem pk_cells : Try.prog.cellsOf 25 = 2 := by kernel_rfl
theorem pk_flds : (Try.prog.fieldsOf 25).toList.map (fun f => (f.type, f.offset, f.name != "_")) = [(23, 0, true), (3, 1, true)] := by kernel_rfl
theorem pk_und : Try.prog.underlying 25 = some (.struct (Try.prog.fieldsOf 25)) := by kernel_rfl
theorem int_cells : Try.prog.cellsOf 3 = 1 := by kernel_rfl
theorem u32_cells : Try.prog.cellsOf 23 = 1 := by kernel_rfl
theorem kl_int (d : Nat) (cs : List Value) : Try.prog.keyLits (d + 1) 3 cs = match cs with | [.int q' n] => if q' = .i64 ∧ (Lit.int .i64 n).wf = true then some [.int .i64 n] else none | _ => none := by
  unfold Program.keyLits
  rw [Try.underlying3]
  rcases cs with _ | ⟨c, _ | ⟨c2, t⟩⟩
  · rfl
  · cases c <;> rfl
  · cases c <;> rfl
theorem kl_u32 (d : Nat) (cs : List Value) : Try.prog.keyLits (d + 1) 23 cs = match cs with | [.int q' n] => if q' = .u32 ∧ (Lit.int .u32 n).wf = true then some [.int .u32 n] else none | _ => none := by
  unfold Program.keyLits
  rw [Try.underlying23]
  rcases cs with _ | ⟨c, _ | ⟨c2, t⟩⟩
  · rfl
  · cases c <;> rfl
  · cases c <;> rfl
theorem kl_pk (d : Nat) (c0 c1 : Value) : Try.prog.keyLits (d + 1) 25 [c0, c1] = (Try.prog.keyLits d 23 [c0]).bind fun a => (Try.prog.keyLits d 3 [c1]).bind fun b => some (a ++ b) := by
  have hf := pk_flds
  obtain ⟨f0, f1, hff⟩ := Joins.array2 (cs := Try.prog.fieldsOf 25) (by simpa using congrArg List.length hf)
  rw [hff] at hf
  simp only [List.map_cons, List.map_nil, List.cons.injEq, Prod.mk.injEq, and_true] at hf
  obtain ⟨⟨t0, o0, n0⟩, t1, o1, n1⟩ := hf
  obtain ⟨A, hA⟩ : ∃ A, Try.prog.keyLits d 23 [c0] = A := ⟨_, rfl⟩
  obtain ⟨B, hB⟩ : ∃ B, Try.prog.keyLits d 3 [c1] = B := ⟨_, rfl⟩
  rw [hA, hB]
  unfold Program.keyLits
  rw [pk_und, hff]
  simp only [pk_cells, List.length_cons, List.length_nil]
  have hall : (#[f0, f1] : Array Field).all (·.name != "_") = true := by simp [n0, n1]
  rw [if_pos ⟨by simp, hall⟩]
  simp only [List.mapM_cons, List.mapM_nil, t0, o0, t1, o1, u32_cells, int_cells, List.drop_zero, List.take_succ_cons, List.take_zero, List.drop_succ_cons, hA, hB]
  rcases A with _ | a
  · rfl
  · rcases B with _ | b
    · rfl
    · simp
def InPf (x : Pf) : Prop := (Lit.int .u32 x.a).wf = true ∧ (Lit.int .i64 x.n).wf = true
def litP (x : Pf) : Lit := .string (keyBytes [.int .u32 x.a, .int .i64 x.n])
theorem pk_formed (cs : Array Value) : (Value.agg cs).formed Try.prog 25 = (cs.size == 2) := by
  simp [Value.formed, pk_und, pk_cells]
theorem keyOf_pk (v : Value) : keyOf Try.prog 25 v = if v.formed Try.prog 25 = true then (Try.prog.keyLits (Try.prog.types.size + 1) 25 v.cells.toList).map fun ls => .string (keyBytes ls) else none := by
  unfold keyOf
  rw [pk_und]
  simp only [pk_keyType, Bool.true_and]
theorem types_two : ∃ d, Try.prog.types.size + 1 = d + 1 + 1 := ⟨Try.prog.types.size - 1, by have := (show 2 < Try.prog.types.size from of_decide_eq_true (by kernel_rfl)); omega⟩
theorem keyP_mk (x : Pf) (h : InPf x) : keyOf Try.prog 25 (pfV x) = some (litP x) := by
  obtain ⟨d, hd⟩ := types_two
  obtain ⟨h1, h2⟩ := h
  rw [keyOf_pk, hd]
  unfold pfV litP
  rw [pk_formed]
  simp [Value.cells, kl_pk, kl_int, kl_u32, h1, h2]
theorem kl_int_inv {d : Nat} {c : Value} {ls : List Lit} (h : Try.prog.keyLits (d + 1) 3 [c] = some ls) : ∃ n, c = .int .i64 n ∧ (Lit.int .i64 n).wf = true ∧ ls = [.int .i64 n] := by
  rw [kl_int] at h
  cases c with
  | int q n =>
    simp only at h
    split at h
    · rename_i hq
      obtain ⟨rfl, hw⟩ := hq
      exact ⟨n, rfl, hw, by simpa using h.symm⟩
    · cases h
  | _ => cases h
theorem kl_u32_inv {d : Nat} {c : Value} {ls : List Lit} (h : Try.prog.keyLits (d + 1) 23 [c] = some ls) : ∃ n, c = .int .u32 n ∧ (Lit.int .u32 n).wf = true ∧ ls = [.int .u32 n] := by
  rw [kl_u32] at h
  cases c with
  | int q n =>
    simp only at h
    split at h
    · rename_i hq
      obtain ⟨rfl, hw⟩ := hq
      exact ⟨n, rfl, hw, by simpa using h.symm⟩
    · cases h
  | _ => cases h
theorem formedP_agg {v : Value} (h : v.formed Try.prog 25 = true) : ∃ cs, v = .agg cs := by
  unfold Value.formed at h
  rw [pk_und] at h
  cases v with
  | agg cs => exact ⟨cs, rfl⟩
  | _ => cases h
theorem keyP_inv {v : Value} {kl : Lit} (h : keyOf Try.prog 25 v = some kl) : ∃ x, v = pfV x ∧ InPf x ∧ kl = litP x := by
  obtain ⟨d, hd⟩ := types_two
  rw [keyOf_pk] at h
  split at h
  · rename_i hf
    rw [hd] at h
    obtain ⟨cs, rfl⟩ := formedP_agg hf
    rw [pk_formed] at hf
    obtain ⟨c0, c1, rfl⟩ := Joins.array2 (cs := cs) (by simpa using hf)
    obtain ⟨ls, hls, rfl⟩ := Option.map_eq_some_iff.1 h
    simp only [Value.cells] at hls
    rw [kl_pk] at hls
    obtain ⟨a, ha, hls⟩ := Option.bind_eq_some_iff.1 hls
    obtain ⟨b, hb, hls⟩ := Option.bind_eq_some_iff.1 hls
    obtain ⟨n0, rfl, w0, rfl⟩ := kl_u32_inv ha
    obtain ⟨n1, rfl, w1, rfl⟩ := kl_int_inv hb
    obtain rfl := Option.some.inj hls
    exact ⟨⟨n0, n1⟩, rfl, ⟨w0, w1⟩, rfl⟩
  · cases h
theorem pfV_inj {x y : Pf} (h : pfV x = pfV y) : x = y := by
  unfold pfV at h
  simp at h
  obtain ⟨a, b⟩ := x
  obtain ⟨a', b'⟩ := y
  simp_all
theorem litP_inj (x y : Pf) (hx : InPf x) (hy : InPf y) (h : litP x = litP y) : x = y :=
  pfV_inj (pk_keyed.inj (keyP_mk x hx) (h ▸ keyP_mk y hy))
theorem litP_key (x : Pf) : WideAt.IsKeyLit (litP x) := trivial
/-- Prefixes as keys. -/
theorem keyPfC : KeyC 25 pfV litP InPf where
  keyed := pk_keyed
  key := keyP_mk
  isKey := litP_key
  inj := litP_inj
theorem InPf.addr {x : Pf} (h : InPf x) : 0 ≤ x.a ∧ x.a < 4294967296 := by
  obtain ⟨h, _⟩ := h
  simp [Lit.wf, IntKind.min, IntKind.max, IntKind.signed, IntKind.bits] at h
  omega

/-- A count. -/
structure Ct where
  intro ::
  p : Pf
  c : Int
deriving instance DecidableEq for Ct
def ctC (x : Ct) : List Value := [.int .u32 x.p.a, .int .i64 x.p.n, .int .i64 x.c]
abbrev ctV (x : Ct) : Value := .agg #[.int .u32 x.p.a, .int .i64 x.p.n, .int .i64 x.c]
def Pf.zero : Pf := ⟨0, 0⟩
def Ct.zero : Ct := ⟨⟨0, 0⟩, 0⟩
def InCt (x : Ct) : Prop := InPf x.p
theorem rowCt : RowC 29 67 ctC InCt Ct.zero (.agg #[.int .u32 0, .int .i64 0, .int .i64 0]) 3 24 where
  len x := rfl
  pos := by omega
  zs := rfl
  byl := by omega
  info := by kernel_rfl
  under := Try.underlying29
  elem := by kernel_rfl
  size w := by kernel_rfl
  one x u hu := by
    simp [ctC] at hu
    rcases hu with rfl | rfl | rfl <;> rfl
theorem rowPf : RowC 80 25 pfC InPf Pf.zero (.agg #[.int .u32 0, .int .i64 0]) 2 16 where
  len x := rfl
  pos := by omega
  zs := rfl
  byl := by omega
  info := by kernel_rfl
  under := Try.underlying80
  elem := by kernel_rfl
  size w := by kernel_rfl
  one x u hu := by
    simp [pfC] at hu
    rcases hu with rfl | rfl <;> rfl
abbrev PfsAt (w : World) (p : Option Addr) (l : List Pf) : Prop := LAt pfC InPf Pf.zero 2 w p l
abbrev CtsAt (w : World) (p : Option Addr) (l : List Ct) : Prop := LAt ctC InCt Ct.zero 3 w p l
abbrev CtsOwn (w : World) (B : Nat) (q : Option Addr) (n cap : Nat) (l : List Ct) : Prop := LOwn 67 ctC InCt 3 w B q n cap l
theorem ct_cell {w : World} {p : Option Addr} {l : List Ct} {n k : Nat} (h : CtsAt w p l) (hn : l.length = n) (hk : k < n) : ∃ b off, p = some ⟨b, off, none⟩ ∧ w.cell? ⟨b, off + k * 3, none⟩ = some (.int .u32 (l.getD k Ct.zero).p.a) ∧ w.cell? ⟨b, off + k * 3 + 1, none⟩ = some (.int .i64 (l.getD k Ct.zero).p.n) ∧ w.cell? ⟨b, off + k * 3 + 2, none⟩ = some (.int .i64 (l.getD k Ct.zero).c) := by
  obtain ⟨b, off, rfl, hc⟩ := h.cell hn hk
  exact ⟨b, off, rfl, hc 0 _ rfl, hc 1 _ rfl, hc 2 _ rfl⟩
abbrev MapP (w : World) (b n s : Nat) (f : Pf → Option Int) : Prop := MapAt keyPfC elIntC w b n s f
end Go.Proofs.Ytgididkpgncdjaa
