/- Prefixes with their IDs as a map's keys. -/
import Derived.Test.YtgmcjejgginpjaaNlA
import Derived.Maps.Own
import Derived.Maps.OwnSet
import Derived.Maps.RangeWalk
import Derived.DeepKeys4
import Derived.Lib.SmallJoins
namespace Go.Proofs.Ytgmcjejgginpjaa
open Go.RowKit Go.Maps

theorem nlLaid : laidOutB Try.prog = true := by kernel_rfl
theorem nl_row : (41 : TypeId) < Try.prog.types.size := of_decide_eq_true (by kernel_rfl)
theorem nl_wide : (match Try.prog.underlying 41 with | some (.array _ _) | some (.struct _) => true | _ => false) = true := by kernel_rfl
theorem nl_kt : Try.prog.keyTypeAt 3 41 = true := by kernel_rfl
set_option maxRecDepth 100000 in
theorem nl_law : WideMaps.KeyLaw Try.prog 41 := deep_law_laid nlLaid (m := 3) (by omega) nl_row nl_kt nl_wide
theorem nl_keyed : Keyed Try.prog 41 := Keyed.of_law nl_law
theorem nl_keyType : Try.prog.keyType 41 = true := by kernel_rfl
theorem nl_cells : Try.prog.cellsOf 41 = 3 := by kernel_rfl
theorem pf_cells : Try.prog.cellsOf 39 = 2 := by kernel_rfl
theorem nl_flds : (Try.prog.fieldsOf 41).toList.map (fun f => (f.type, f.offset, f.name != "_")) = [(3, 0, true), (39, 1, true)] := by kernel_rfl
theorem pf_flds : (Try.prog.fieldsOf 39).toList.map (fun f => (f.type, f.offset, f.name != "_")) = [(37, 0, true), (3, 1, true)] := by kernel_rfl
theorem nl_und : Try.prog.underlying 41 = some (.struct (Try.prog.fieldsOf 41)) := by kernel_rfl
theorem pf_und : Try.prog.underlying 39 = some (.struct (Try.prog.fieldsOf 39)) := by kernel_rfl
theorem int_cells : Try.prog.cellsOf 3 = 1 := by kernel_rfl
theorem u32_cells : Try.prog.cellsOf 37 = 1 := by kernel_rfl
theorem kl_int (d : Nat) (cs : List Value) : Try.prog.keyLits (d + 1) 3 cs = match cs with | [.int q' n] => if q' = .i64 ∧ (Lit.int .i64 n).wf = true then some [.int .i64 n] else none | _ => none := by
  unfold Program.keyLits
  rw [Try.underlying3]
  rcases cs with _ | ⟨c, _ | ⟨c2, t⟩⟩
  · rfl
  · cases c <;> rfl
  · cases c <;> rfl
theorem kl_u32 (d : Nat) (cs : List Value) : Try.prog.keyLits (d + 1) 37 cs = match cs with | [.int q' n] => if q' = .u32 ∧ (Lit.int .u32 n).wf = true then some [.int .u32 n] else none | _ => none := by
  unfold Program.keyLits
  rw [Try.underlying37]
  rcases cs with _ | ⟨c, _ | ⟨c2, t⟩⟩
  · rfl
  · cases c <;> rfl
  · cases c <;> rfl
theorem kl_pf (d : Nat) (c0 c1 : Value) : Try.prog.keyLits (d + 1) 39 [c0, c1] = (Try.prog.keyLits d 37 [c0]).bind fun a => (Try.prog.keyLits d 3 [c1]).bind fun b => some (a ++ b) := by
  have hf := pf_flds
  obtain ⟨f0, f1, hff⟩ := Joins.array2 (cs := Try.prog.fieldsOf 39) (by simpa using congrArg List.length hf)
  rw [hff] at hf
  simp only [List.map_cons, List.map_nil, List.cons.injEq, Prod.mk.injEq, and_true] at hf
  obtain ⟨⟨t0, o0, n0⟩, t1, o1, n1⟩ := hf
  obtain ⟨A, hA⟩ : ∃ A, Try.prog.keyLits d 37 [c0] = A := ⟨_, rfl⟩
  obtain ⟨B, hB⟩ : ∃ B, Try.prog.keyLits d 3 [c1] = B := ⟨_, rfl⟩
  rw [hA, hB]
  unfold Program.keyLits
  rw [pf_und, hff]
  simp only [pf_cells, List.length_cons, List.length_nil]
  have hall : (#[f0, f1] : Array Field).all (·.name != "_") = true := by simp [n0, n1]
  rw [if_pos ⟨by simp, hall⟩]
  simp only [List.mapM_cons, List.mapM_nil, t0, o0, t1, o1, u32_cells, int_cells, List.drop_zero, List.take_succ_cons, List.take_zero, List.drop_succ_cons, hA, hB]
  rcases A with _ | a
  · rfl
  · rcases B with _ | b
    · rfl
    · simp
theorem kl_nl (d : Nat) (c0 c1 c2 : Value) : Try.prog.keyLits (d + 1) 41 [c0, c1, c2] = (Try.prog.keyLits d 3 [c0]).bind fun a => (Try.prog.keyLits d 39 [c1, c2]).bind fun b => some (a ++ b) := by
  have hf := nl_flds
  obtain ⟨f0, f1, hff⟩ := Joins.array2 (cs := Try.prog.fieldsOf 41) (by simpa using congrArg List.length hf)
  rw [hff] at hf
  simp only [List.map_cons, List.map_nil, List.cons.injEq, Prod.mk.injEq, and_true] at hf
  obtain ⟨⟨t0, o0, n0⟩, t1, o1, n1⟩ := hf
  obtain ⟨A, hA⟩ : ∃ A, Try.prog.keyLits d 3 [c0] = A := ⟨_, rfl⟩
  obtain ⟨B, hB⟩ : ∃ B, Try.prog.keyLits d 39 [c1, c2] = B := ⟨_, rfl⟩
  rw [hA, hB]
  unfold Program.keyLits
  rw [nl_und, hff]
  simp only [nl_cells, List.length_cons, List.length_nil]
  have hall : (#[f0, f1] : Array Field).all (·.name != "_") = true := by simp [n0, n1]
  rw [if_pos ⟨by simp, hall⟩]
  simp only [List.mapM_cons, List.mapM_nil, t0, o0, t1, o1, pf_cells, int_cells, List.drop_zero, List.take_succ_cons, List.take_zero, List.drop_succ_cons, hA, hB]
  rcases A with _ | a
  · rfl
  · rcases B with _ | b
    · rfl
    · simp

/-- May it be a key (so are all that are in memory)? What it reads as. -/
def okN (x : Nl) : Prop := (Lit.int .i64 x.id).wf = true ∧ (Lit.int .u32 x.addr).wf = true ∧ (Lit.int .i64 x.len).wf = true
def litN (x : Nl) : Lit := .string (keyBytes [.int .i64 x.id, .int .u32 x.addr, .int .i64 x.len])
theorem nl_formed (cs : Array Value) : (Value.agg cs).formed Try.prog 41 = (cs.size == 3) := by
  simp [Value.formed, nl_und, nl_cells]
theorem keyOf_nl (v : Value) : keyOf Try.prog 41 v = if v.formed Try.prog 41 = true then (Try.prog.keyLits (Try.prog.types.size + 1) 41 v.cells.toList).map fun ls => .string (keyBytes ls) else none := by
  unfold keyOf
  rw [nl_und]
  simp only [nl_keyType, Bool.true_and]
theorem types_three : ∃ d, Try.prog.types.size + 1 = d + 1 + 1 + 1 := ⟨Try.prog.types.size - 2, by have := (show 2 < Try.prog.types.size from of_decide_eq_true (by kernel_rfl)); omega⟩
theorem keyOf_mk (x : Nl) (h : okN x) : keyOf Try.prog 41 (nlV x) = some (litN x) := by
  obtain ⟨d, hd⟩ := types_three
  obtain ⟨h1, h2, h3⟩ := h
  rw [keyOf_nl, hd]
  unfold nlV litN
  rw [nl_formed]
  simp [Value.cells, kl_nl, kl_pf, kl_int, kl_u32, h1, h2, h3]
theorem kl_int_inv {d : Nat} {c : Value} {ls : List Lit} (h : Try.prog.keyLits (d + 1) 3 [c] = some ls) : ∃ n, c = .int .i64 n ∧ (Lit.int .i64 n).wf = true ∧ ls = [.int .i64 n] := by
  rw [kl_int] at h
  cases c with
  | int q n =>
    simp only at h
    split at h
    · rename_i hq
      obtain ⟨rfl, hw⟩ := hq
      exact ⟨n, rfl, hw, by simpa using h.symm⟩
    · cases h
  | _ => cases h
theorem kl_u32_inv {d : Nat} {c : Value} {ls : List Lit} (h : Try.prog.keyLits (d + 1) 37 [c] = some ls) : ∃ n, c = .int .u32 n ∧ (Lit.int .u32 n).wf = true ∧ ls = [.int .u32 n] := by
  rw [kl_u32] at h
  cases c with
  | int q n =>
    simp only at h
    split at h
    · rename_i hq
      obtain ⟨rfl, hw⟩ := hq
      exact ⟨n, rfl, hw, by simpa using h.symm⟩
    · cases h
  | _ => cases h
theorem formed_agg {v : Value} (h : v.formed Try.prog 41 = true) : ∃ cs, v = .agg cs := by
  unfold Value.formed at h
  rw [nl_und] at h
  cases v with
  | agg cs => exact ⟨cs, rfl⟩
  | _ => cases h
theorem keyOf_inv {v : Value} {kl : Lit} (h : keyOf Try.prog 41 v = some kl) : ∃ x, v = nlV x ∧ okN x ∧ kl = litN x := by
  obtain ⟨d, hd⟩ := types_three
  rw [keyOf_nl] at h
  split at h
  · rename_i hf
    rw [hd] at h
    obtain ⟨cs, rfl⟩ := formed_agg hf
    rw [nl_formed] at hf
    obtain ⟨c0, c1, c2, rfl⟩ := Joins.array3 (cs := cs) (by simpa using hf)
    obtain ⟨ls, hls, rfl⟩ := Option.map_eq_some_iff.1 h
    simp only [Value.cells] at hls
    rw [kl_nl] at hls
    obtain ⟨a, ha, hls⟩ := Option.bind_eq_some_iff.1 hls
    rw [kl_pf] at hls
    obtain ⟨b, hb, hls⟩ := Option.bind_eq_some_iff.1 hls
    obtain ⟨b0, hb0, hb⟩ := Option.bind_eq_some_iff.1 hb
    obtain ⟨b1, hb1, hb⟩ := Option.bind_eq_some_iff.1 hb
    obtain ⟨n0, rfl, w0, rfl⟩ := kl_int_inv ha
    obtain ⟨n1, rfl, w1, rfl⟩ := kl_u32_inv hb0
    obtain ⟨n2, rfl, w2, rfl⟩ := kl_int_inv hb1
    obtain rfl := Option.some.inj hb
    obtain rfl := Option.some.inj hls
    exact ⟨⟨n0, n1, n2⟩, rfl, ⟨w0, w1, w2⟩, rfl⟩
  · cases h
theorem litN_inj {x y : Nl} (hx : okN x) (hy : okN y) (h : litN x = litN y) : x = y := by
  have := nl_keyed.inj (keyOf_mk x hx) (h ▸ keyOf_mk y hy)
  unfold nlV at this
  simp at this
  obtain ⟨a, b, c⟩ := x
  obtain ⟨a', b', c'⟩ := y
  simp_all
theorem litN_key (x : Nl) : WideAt.IsKeyLit (litN x) := trivial

/-- What a map holds that was laid for so many: just those. -/
def Held (D : DataW Unit) (l : List Nl) : Prop := ∀ x, okN x → (has D (litN x) = true ↔ x ∈ l)
theorem Held.nil : Held (.map []) [] := fun x _ => by simp [has_eq]
theorem Held.put {D : DataW Unit} {l : List Nl} (h : Held D l) (hD : IsMap D) {x : Nl} (hx : okN x) (d : DataW Unit) : Held (D.put (litN x) d) (l ++ [x]) := fun y hy => by
  by_cases e : y = x
  · subst e
    rw [has_put_same hD (litN_key y)]; simp
  · rw [has_put_other (fun e2 => e (litN_inj hy hx e2)), h y hy]
    simp [e]

/-- The keys that have come while others are left. -/
def Come (D0 : DataW Unit) (left : Lit → Bool) (ss : List Nl) : Prop := ss.Nodup ∧ (∀ x ∈ ss, okN x) ∧ ∀ x, okN x → (x ∈ ss ↔ (has D0 (litN x) = true ∧ left (litN x) = false))
theorem Come.start (D0 : DataW Unit) : Come D0 (has D0) [] := ⟨List.nodup_nil, fun x hx => by simp at hx, fun x _ => by cases has D0 (litN x) <;> simp⟩
theorem Come.step {D0 : DataW Unit} {left : Lit → Bool} {ss : List Nl} (h : Come D0 left ss) {x : Nl} (hx : okN x) {y : DataW Unit} (hlk : left (litN x) = true) (hat : ∀ zd, D0.atKey (litN x) zd = y) : Come D0 (fun z => left z && !z.sameKey (litN x)) (ss ++ [x]) := by
  have hhas : has D0 (litN x) = true := has_true_of_atKey hat
  have hnew : x ∉ ss := fun hm => by have := ((h.2.2 x hx).1 hm).2; rw [hlk] at this; cases this
  refine ⟨List.nodup_append.2 ⟨h.1, by simp, fun a ha b hb => by simp at hb; subst hb; exact fun e => hnew (e ▸ ha)⟩, fun y hy => ?_, fun y hy => ?_⟩
  · rcases List.mem_append.1 hy with hy | hy
    · exact h.2.1 y hy
    · simp at hy; subst hy; exact hx
  · by_cases e : y = x
    · subst e; simp [hhas, WideAt.sameKey_self (litN_key y)]
    · have hs : (litN y).sameKey (litN x) = false := sameKey_ne (fun e2 => e (litN_inj hy hx e2))
      simp [h.2.2 y hy, e, hs]
theorem Come.all {D0 : DataW Unit} {left : Lit → Bool} {ss l : List Nl} (h : Come D0 left ss) (hl : ∀ kl, left kl = false) (hH : Held D0 l) (hok : ∀ x ∈ l, okN x) : ss.Nodup ∧ ∀ x, x ∈ ss ↔ x ∈ l := by
  refine ⟨h.1, fun x => ?_⟩
  constructor
  · intro hx
    exact (hH x (h.2.1 x hx)).1 ((h.2.2 x (h.2.1 x hx)).1 hx).1
  · intro hx
    exact (h.2.2 x (hok x hx)).2 ⟨(hH x (hok x hx)).2 hx, hl _⟩
end Go.Proofs.Ytgmcjejgginpjaa
