/- Prefixes as a map's keys; detours in force. -/
import Derived.Test.YtjimnlpmmhcdjaaZa
import Derived.Test.YtjimnlpmmhcdjaaRefD02
import Derived.Deep.RegionHeldLaw
import Derived.DeepKeys4
import Derived.Lib.SmallJoins
namespace Go.Proofs.Ytjimnlpmmhcdjaa
open Go.RowKit Go.Maps
set_option linter.unusedVariables false
set_option linter.unusedSimpArgs false

structure Pf where
  a : Int
  n : Int
deriving instance DecidableEq for Pf
abbrev pfV (x : Pf) : Value := .agg #[.int .u32 x.a, .int .i64 x.n]
def pfC (x : Pf) : List Value := [.int .u32 x.a, .int .i64 x.n]
theorem pkLaid : laidOutB Try.prog = true := by kernel_rfl
theorem pk_row : (32 : TypeId) < Try.prog.types.size := of_decide_eq_true (by kernel_rfl)
theorem pk_wide : (match Try.prog.underlying 32 with | some (.array _ _) | some (.struct _) => true | _ => false) = true := by kernel_rfl
theorem pk_kt : Try.prog.keyTypeAt 3 32 = true := by kernel_rfl
set_option maxRecDepth 100000 in
theorem pk_law : WideMaps.KeyLaw Try.prog 32 := deep_law_laid pkLaid (m := 3) (by omega) pk_row pk_kt pk_wide
theorem pk_keyed : Keyed Try.prog 32 := Keyed.of_law pk_law
theorem pk_keyType : Try.prog.keyType 32 = true := by kernel_rfl
theorem pk_cells : Try.prog.cellsOf 32 = 2 := by kernel_rfl
theorem pk_flds : (Try.prog.fieldsOf 32).toList.map (fun f => (f.type, f.offset, f.name != "_")) = [(30, 0, true), (3, 1, true)] := by kernel_rfl
theorem pk_und : Try.prog.underlying 32 = some (.struct (Try.prog.fieldsOf 32)) := by kernel_rfl
theorem int_cells : Try.prog.cellsOf 3 = 1 := by kernel_rfl
theorem u32_cells : Try.prog.cellsOf 30 = 1 := by kernel_rfl
theorem kl_int (d : Nat) (cs : List Value) : Try.prog.keyLits (d + 1) 3 cs = match cs with | [.int q' n] => if q' = .i64 ∧ (Lit.int .i64 n).wf = true then some [.int .i64 n] else none | _ => none := by
  unfold Program.keyLits
  rw [Try.underlying3]
  rcases cs with _ | ⟨c, _ | ⟨c2, t⟩⟩
  · rfl
  · cases c <;> rfl
  · cases c <;> rfl
theorem kl_u32 (d : Nat) (cs : List Value) : Try.prog.keyLits (d + 1) 30 cs = match cs with | [.int q' n] => if q' = .u32 ∧ (Lit.int .u32 n).wf = true then some [.int .u32 n] else none | _ => none := by
  unfold Program.keyLits
  rw [Try.underlying30]
  rcases cs with _ | ⟨c, _ | ⟨c2, t⟩⟩
  · rfl
  · cases c <;> rfl
  · cases c <;> rfl
theorem kl_pk (d : Nat) (c0 c1 : Value) : Try.prog.keyLits (d + 1) 32 [c0, c1] = (Try.prog.keyLits d 30 [c0]).bind fun a => (Try.prog.keyLits d 3 [c1]).bind fun b => some (a ++ b) := by
  have hf := pk_flds
  obtain ⟨f0, f1, hff⟩ := Joins.array2 (cs := Try.prog.fieldsOf 32) (by simpa using congrArg List.length hf)
  rw [hff] at hf
  simp only [List.map_cons, List.map_nil, List.cons.injEq, Prod.mk.injEq, and_true] at hf
  obtain ⟨⟨t0, o0, n0⟩, t1, o1, n1⟩ := hf
  obtain ⟨A, hA⟩ : ∃ A, Try.prog.keyLits d 30 [c0] = A := ⟨_, rfl⟩
  obtain ⟨B, hB⟩ : ∃ B, Try.prog.keyLits d 3 [c1] = B := ⟨_, rfl⟩
  rw [hA, hB]
  unfold Program.keyLits
  rw [pk_und, hff]
  simp only [pk_cells, List.length_cons, List.length_nil]
  have hall : (#[f0, f1] : Array Field).all (·.name != "_") = true := by simp [n0, n1]
  rw [if_pos ⟨by simp, hall⟩]
  simp only [List.mapM_cons, List.mapM_nil, t0, o0, t1, o1, u32_cells, int_cells, List.drop_zero, List.take_succ_cons, List.take_zero, List.drop_succ_cons, hA, hB]
  rcases A with _ | a
  · rfl
  · rcases B with _ | b
    · rfl
    · simp
def InPf (x : Pf) : Prop := (Lit.int .u32 x.a).wf = true ∧ (Lit.int .i64 x.n).wf = true
def litP (x : Pf) : Lit := .string (keyBytes [.int .u32 x.a, .int .i64 x.n])
theorem pk_formed (cs : Array Value) : (Value.agg cs).formed Try.prog 32 = (cs.size == 2) := by
  simp [Value.formed, pk_und, pk_cells]
theorem keyOf_pk (v : Value) : keyOf Try.prog 32 v = if v.formed Try.prog 32 = true then (Try.prog.keyLits (Try.prog.types.size + 1) 32 v.cells.toList).map fun ls => .string (keyBytes ls) else none := by
  unfold keyOf
  rw [pk_und]
  simp only [pk_keyType, Bool.true_and]
theorem types_two : ∃ d, Try.prog.types.size + 1 = d + 1 + 1 := ⟨Try.prog.types.size - 1, by have := (show 2 < Try.prog.types.size from of_decide_eq_true (by kernel_rfl)); omega⟩
theorem keyP_mk (x : Pf) (h : InPf x) : keyOf Try.prog 32 (pfV x) = some (litP x) := by
  obtain ⟨d, hd⟩ := types_two
  obtain ⟨h1, h2⟩ := h
  rw [keyOf_pk, hd]
  unfold pfV litP
  rw [pk_formed]
  simp [Value.cells, kl_pk, kl_int, kl_u32, h1, h2]
theorem kl_int_inv {d : Nat} {c : Value} {ls : List Lit} (h : Try.prog.keyLits (d + 1) 3 [c] = some ls) : ∃ n, c = .int .i64 n ∧ (Lit.int .i64 n).wf = true ∧ ls = [.int .i64 n] := by
  rw [kl_int] at h
  cases c with
  | int q n =>
    simp only at h
    split at h
    · rename_i hq
      obtain ⟨rfl, hw⟩ := hq
      exact ⟨n, rfl, hw, by simpa using h.symm⟩
    · cases h
  | _ => cases h
theorem kl_u32_inv {d : Nat} {c : Value} {ls : List Lit} (h : Try.prog.keyLits (d + 1) 30 [c] = some ls) : ∃ n, c = .int .u32 n ∧ (Lit.int .u32 n).wf = true ∧ ls = [.int .u32 n] := by
  rw [kl_u32] at h
  cases c with
  | int q n =>
    simp only at h
    split at h
    · rename_i hq
      obtain ⟨rfl, hw⟩ := hq
      exact ⟨n, rfl, hw, by simpa using h.symm⟩
    · cases h
  | _ => cases h
theorem formedP_agg {v : Value} (h : v.formed Try.prog 32 = true) : ∃ cs, v = .agg cs := by
  unfold Value.formed at h
  rw [pk_und] at h
  cases v with
  | agg cs => exact ⟨cs, rfl⟩
  | _ => cases h
theorem keyP_inv {v : Value} {kl : Lit} (h : keyOf Try.prog 32 v = some kl) : ∃ x, v = pfV x ∧ InPf x ∧ kl = litP x := by
  obtain ⟨d, hd⟩ := types_two
  rw [keyOf_pk] at h
  split at h
  · rename_i hf
    rw [hd] at h
    obtain ⟨cs, rfl⟩ := formedP_agg hf
    rw [pk_formed] at hf
    obtain ⟨c0, c1, rfl⟩ := Joins.array2 (cs := cs) (by simpa using hf)
    obtain ⟨ls, hls, rfl⟩ := Option.map_eq_some_iff.1 h
    simp only [Value.cells] at hls
    rw [kl_pk] at hls
    obtain ⟨a, ha, hls⟩ := Option.bind_eq_some_iff.1 hls
    obtain ⟨b, hb, hls⟩ := Option.bind_eq_some_iff.1 hls
    obtain ⟨n0, rfl, w0, rfl⟩ := kl_u32_inv ha
    obtain ⟨n1, rfl, w1, rfl⟩ := kl_int_inv hb
    obtain rfl := Option.some.inj hls
    exact ⟨⟨n0, n1⟩, rfl, ⟨w0, w1⟩, rfl⟩
  · cases h
theorem pfV_inj {x y : Pf} (h : pfV x = pfV y) : x = y := by
  unfold pfV at h
  simp at h
  obtain ⟨a, b⟩ := x
  obtain ⟨a', b'⟩ := y
  simp_all
theorem litP_inj (x y : Pf) (hx : InPf x) (hy : InPf y) (h : litP x = litP y) : x = y :=
  pfV_inj (pk_keyed.inj (keyP_mk x hx) (h ▸ keyP_mk y hy))
theorem litP_key (x : Pf) : WideAt.IsKeyLit (litP x) := trivial
/-- Prefixes as keys. -/
theorem keyPfC : KeyC 32 pfV litP InPf where
  keyed := pk_keyed
  key := keyP_mk
  isKey := litP_key
  inj := litP_inj
theorem InPf.addr {x : Pf} (h : InPf x) : 0 ≤ x.a ∧ x.a < 4294967296 := by
  obtain ⟨h, _⟩ := h
  simp [Lit.wf, IntKind.min, IntKind.max, IntKind.signed, IntKind.bits] at h
  omega

/-- A detour in force: its router, its prefix, its number, its last moment. -/
structure Dt where
  intro ::
  r : Int
  p : Pf
  d : Int
  u : Int
deriving instance DecidableEq for Dt
def dtC (x : Dt) : List Value := [.int .i64 x.r, .int .u32 x.p.a, .int .i64 x.p.n, .int .i64 x.d, .int .i64 x.u]
abbrev dtV (x : Dt) : Value := .agg #[.int .i64 x.r, .int .u32 x.p.a, .int .i64 x.p.n, .int .i64 x.d, .int .i64 x.u]
def dtD (x : Dt) : DataW Unit := .agg [.lit (.int .i64 x.r), .lit (.int .u32 x.p.a), .lit (.int .i64 x.p.n), .lit (.int .i64 x.d), .lit (.int .i64 x.u)]
def Pf.zero : Pf := ⟨0, 0⟩
def Dt.zero : Dt := ⟨0, ⟨0, 0⟩, 0, 0⟩
def InDt (x : Dt) : Prop := InPf x.p
def dtElem (v : Value) : Option (DataW Unit × List MemPlace) := match v with
  | .agg cs => match cs.toList with
    | [.int .i64 a, .int .u32 b, .int .i64 c, .int .i64 d, .int .i64 e] => some (dtD ⟨a, ⟨b, c⟩, d, e⟩, [])
    | _ => none
  | _ => none
theorem elDtC : ElC 36 dtElem dtV dtD (fun _ => True) Dt.zero where
  made x _ := rfl
  inv v z h := by
    unfold dtElem at h
    split at h
    · rename_i cs
      split at h
      · rename_i a b c d e hcs
        cases h
        refine ⟨⟨a, ⟨b, c⟩, d, e⟩, trivial, ?_, rfl⟩
        obtain ⟨l⟩ := cs
        simp only at hcs
        rw [hcs]
      · cases h
    · cases h
  inj x y h := by
    obtain ⟨a, ⟨b, c⟩, d, e⟩ := x
    obtain ⟨a', ⟨b', c'⟩, d', e'⟩ := y
    simp [dtD] at h
    obtain ⟨rfl, rfl, rfl, rfl, rfl⟩ := h
    rfl
  zok := trivial
  zrun w := by kernel_rfl
theorem rowDt : RowC 26 36 dtC InDt Dt.zero (.agg #[.int .i64 0, .int .u32 0, .int .i64 0, .int .i64 0, .int .i64 0]) 5 40 where
  len x := rfl
  pos := by omega
  zs := rfl
  byl := by omega
  info := by kernel_rfl
  under := Try.underlying26
  elem := by kernel_rfl
  size w := by kernel_rfl
  one x u hu := by
    simp [dtC] at hu
    rcases hu with rfl | rfl | rfl | rfl | rfl <;> rfl
abbrev DtsAt (w : World) (p : Option Addr) (l : List Dt) : Prop := LAt dtC InDt Dt.zero 5 w p l
abbrev DtsOwn (w : World) (B : Nat) (q : Option Addr) (n cap : Nat) (l : List Dt) : Prop := LOwn 36 dtC InDt 5 w B q n cap l
theorem dt_cell {w : World} {p : Option Addr} {l : List Dt} {n k : Nat} (h : DtsAt w p l) (hn : l.length = n) (hk : k < n) : ∃ b off, p = some ⟨b, off, none⟩ ∧ w.cell? ⟨b, off + k * 5, none⟩ = some (.int .i64 (l.getD k Dt.zero).r) ∧ w.cell? ⟨b, off + k * 5 + 1, none⟩ = some (.int .u32 (l.getD k Dt.zero).p.a) ∧ w.cell? ⟨b, off + k * 5 + 2, none⟩ = some (.int .i64 (l.getD k Dt.zero).p.n) ∧ w.cell? ⟨b, off + k * 5 + 3, none⟩ = some (.int .i64 (l.getD k Dt.zero).d) ∧ w.cell? ⟨b, off + k * 5 + 4, none⟩ = some (.int .i64 (l.getD k Dt.zero).u) := by
  obtain ⟨b, off, rfl, hc⟩ := h.cell hn hk
  exact ⟨b, off, rfl, hc 0 _ rfl, hc 1 _ rfl, hc 2 _ rfl, hc 3 _ rfl, hc 4 _ rfl⟩
theorem dt_boxes {w : World} {g : Nat} {x0 x1 x2 x3 x4 : Int} (h : Blk w g 36 [.int .i64 x0, .int .u32 x1, .int .i64 x2, .int .i64 x3, .int .i64 x4]) : w.cell? ⟨g, 0, none⟩ = some (.int .i64 x0) ∧ w.cell? ⟨g, 1, none⟩ = some (.int .u32 x1) ∧ w.cell? ⟨g, 2, none⟩ = some (.int .i64 x2) ∧ w.cell? ⟨g, 3, none⟩ = some (.int .i64 x3) ∧ w.cell? ⟨g, 4, none⟩ = some (.int .i64 x4) :=
  ⟨h.cell 0 (by simp), h.cell 1 (by simp), h.cell 2 (by simp), h.cell 3 (by simp), h.cell 4 (by simp)⟩
theorem pf_boxes {w : World} {g : Nat} {x0 x1 : Int} (h : Blk w g 32 [.int .u32 x0, .int .i64 x1]) : w.cell? ⟨g, 0, none⟩ = some (.int .u32 x0) ∧ w.cell? ⟨g, 1, none⟩ = some (.int .i64 x1) :=
  ⟨h.cell 0 (by simp), h.cell 1 (by simp)⟩
/-- Two of them held against each other. -/
theorem dt_under : Try.prog.underlying 36 = some (.struct (Try.prog.fieldsOf 36)) := by kernel_rfl
theorem dt_held : Try.prog.stoodInHeld 36 = false := by kernel_rfl
theorem dt_guard : Try.prog.eqGuardType Try.prog.depth 36 = false := by kernel_rfl
theorem dt_fields : (Try.prog.fieldsOf 36).toList.map (fun f => (f.name, f.type, f.offset)) = [("Key", 34, 0), ("Until", 3, 4)] := by kernel_rfl
theorem ke_under : Try.prog.underlying 34 = some (.struct (Try.prog.fieldsOf 34)) := by kernel_rfl
theorem ke_held : Try.prog.stoodInHeld 34 = false := by kernel_rfl
theorem ke_fields : (Try.prog.fieldsOf 34).toList.map (fun f => (f.name, f.type, f.offset)) = [("Router", 3, 0), ("P", 32, 1), ("ID", 3, 3)] := by kernel_rfl
theorem list_threeK {α : Type} {l : List α} (h : l.length = 3) : ∃ x y z, l = [x, y, z] := by
  rcases l with _ | ⟨x, _ | ⟨y, _ | ⟨z, _ | ⟨u, r⟩⟩⟩⟩ <;> simp at h
  exact ⟨x, y, z, rfl⟩
theorem list_twoK {α : Type} {l : List α} (h : l.length = 2) : ∃ x y, l = [x, y] := by
  rcases l with _ | ⟨x, _ | ⟨y, _ | ⟨z, r⟩⟩⟩ <;> simp at h
  exact ⟨x, y, rfl⟩
def eqK (x y : Dt) : Bool := x.r == y.r && ((x.p.a == y.p.a && x.p.n == y.p.n) && x.d == y.d)
def eqD (x y : Dt) : Bool := eqK x y && x.u == y.u
theorem eqD_iff (x y : Dt) : eqD x y = true ↔ x = y := by
  obtain ⟨a, ⟨b, c⟩, d, e⟩ := x
  obtain ⟨a', ⟨b', c'⟩, d', e'⟩ := y
  simp [eqD, eqK]
  constructor
  · rintro ⟨⟨h1, ⟨h2, h3⟩, h4⟩, h5⟩; exact ⟨h1, ⟨h2, h3⟩, h4, h5⟩
  · rintro ⟨h1, ⟨h2, h3⟩, h4, h5⟩; exact ⟨⟨h1, ⟨h2, h3⟩, h4⟩, h5⟩
theorem ke_equalIn (d : Nat) (x y : Dt) (w : World) :
    (Op.equalIn (d + 1 + 1 + 1) 34 (.agg #[.int .i64 x.r, .int .u32 x.p.a, .int .i64 x.p.n, .int .i64 x.d]) (.agg #[.int .i64 y.r, .int .u32 y.p.a, .int .i64 y.p.n, .int .i64 y.d])).run Try.prog w = .ok (eqK x y) w := by
  obtain ⟨x0, ⟨x1, x2⟩, x3, x4⟩ := x
  obtain ⟨y0, ⟨y1, y2⟩, y3, y4⟩ := y
  unfold eqK
  rw [run_equalIn_struct w (d + 1 + 1) _ _ _ ke_under ke_held]
  have hf := ke_fields
  generalize (Try.prog.fieldsOf 34).toList = fs at hf
  obtain ⟨f0, f1, f2, rfl⟩ := list_threeK (l := fs) (by simpa using congrArg List.length hf)
  simp only [List.map_cons, List.map_nil, List.cons.injEq, Prod.mk.injEq, and_true] at hf
  obtain ⟨⟨n0, t0, o0⟩, ⟨n1, t1, o1⟩, n2, t2, o2⟩ := hf
  have q0 : (Op.equalIn (d + 1 + 1) 3 (.int .i64 x0) (.int .i64 y0)).run Try.prog w = .ok (x0 == y0) w := run_equalIn_int w (d + 1) _ _ _ x0 y0 Try.underlying3
  have q1 := pfx_equalIn d x1 x2 y1 y2 w
  have q2 : (Op.equalIn (d + 1 + 1) 3 (.int .i64 x3) (.int .i64 y3)).run Try.prog w = .ok (x3 == y3) w := run_equalIn_int w (d + 1) _ _ _ x3 y3 Try.underlying3
  have p0 : ∀ a b c d : Value, (part 3 #[a, b, c, d] 0).run Try.prog w = .ok a w := fun a b c d => by kernel_rfl
  have p1 : ∀ a b c d : Value, (part 32 #[a, b, c, d] 1).run Try.prog w = .ok (.agg #[b, c]) w := fun a b c d => by kernel_rfl
  have p2 : ∀ a b c d : Value, (part 3 #[a, b, c, d] 3).run Try.prog w = .ok d w := fun a b c d => by kernel_rfl
  simp only [Op.eqFields, n0, n1, n2, t0, t1, t2, o0, o1, o2]
  rw [if_pos (by decide), if_pos (by decide), if_pos (by decide)]
  simp only [Sem.run_bind, p0, q0, Result.andThen_ok]
  rcases x0 == y0 with _ | _
  · simp [Sem.run_pure]
  · simp only [Bool.not_true, Bool.false_eq_true, if_false, Sem.run_bind, p1, q1, Result.andThen_ok]
    rcases x1 == y1 && x2 == y2 with _ | _
    · simp [Sem.run_pure]
    · simp only [Bool.not_true, Bool.false_eq_true, if_false, Sem.run_bind, p2, q2, Result.andThen_ok]
      rcases x3 == y3 with _ | _ <;> simp [Sem.run_pure]
theorem dt_equalIn (d : Nat) (x y : Dt) (w : World) :
    (Op.equalIn (d + 1 + 1 + 1 + 1) 36 (dtV x) (dtV y)).run Try.prog w = .ok (eqD x y) w := by
  have q0 := ke_equalIn d x y w
  obtain ⟨k, hk⟩ : ∃ k, eqK x y = k := ⟨_, rfl⟩
  unfold eqD
  rw [hk] at q0 ⊢
  clear hk
  obtain ⟨x0, ⟨x1, x2⟩, x3, x4⟩ := x
  obtain ⟨y0, ⟨y1, y2⟩, y3, y4⟩ := y
  simp only at q0 ⊢
  rw [run_equalIn_struct w (d + 1 + 1 + 1) _ _ _ dt_under dt_held]
  have hf := dt_fields
  generalize (Try.prog.fieldsOf 36).toList = fs at hf
  obtain ⟨f0, f1, rfl⟩ := list_twoK (l := fs) (by simpa using congrArg List.length hf)
  simp only [List.map_cons, List.map_nil, List.cons.injEq, Prod.mk.injEq, and_true] at hf
  obtain ⟨⟨n0, t0, o0⟩, n1, t1, o1⟩ := hf
  have q1 : (Op.equalIn (d + 1 + 1 + 1) 3 (.int .i64 x4) (.int .i64 y4)).run Try.prog w = .ok (x4 == y4) w := run_equalIn_int w (d + 1 + 1) _ _ _ x4 y4 Try.underlying3
  have p0 : ∀ a b c d e : Value, (part 34 #[a, b, c, d, e] 0).run Try.prog w = .ok (.agg #[a, b, c, d]) w := fun a b c d e => by kernel_rfl
  have p1 : ∀ a b c d e : Value, (part 3 #[a, b, c, d, e] 4).run Try.prog w = .ok e w := fun a b c d e => by kernel_rfl
  simp only [Op.eqFields, n0, n1, t0, t1, o0, o1]
  rw [if_pos (by decide), if_pos (by decide)]
  simp only [Sem.run_bind, p0, q0, Result.andThen_ok]
  rcases k with _ | _
  · simp [Sem.run_pure]
  · simp only [Bool.not_true, Bool.false_eq_true, if_false, Sem.run_bind, p1, q1, Result.andThen_ok]
    rcases x4 == y4 with _ | _ <;> simp [Sem.run_pure]
theorem dt_equal (x y : Dt) (w : World) : (Op.equalIn 10000 36 (dtV x) (dtV y)).run Try.prog w = .ok (eqD x y) w := dt_equalIn 9996 x y w
theorem dt_eql (x y : Dt) (w : World) : (binOp .eql 36 (dtV x) (dtV y)).run Try.prog w = .ok (.bool (eqD x y)) w := by
  rw [run_eql_struct, dt_equal]; rfl
theorem dt_neq (x y : Dt) (w : World) : (binOp .neq 36 (dtV x) (dtV y)).run Try.prog w = .ok (.bool (!eqD x y)) w := by
  rw [run_neq_struct, dt_equal]; rfl
theorem dt_eqGuard (op : BinOp) (x y : Operand) (xs ys : Array Value) (w : World) : (eqGuard op 36 x y (.agg xs) (.agg ys)).run Try.prog w = .ok () w := run_eqGuard_agg w op _ x y xs ys dt_guard
end Go.Proofs.Ytjimnlpmmhcdjaa
