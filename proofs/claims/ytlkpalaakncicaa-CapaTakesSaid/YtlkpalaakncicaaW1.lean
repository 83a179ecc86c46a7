/- hop: interfaces by their numbers: what the map holds. -/
import Derived.Test.YtlkpalaakncicaaVE
import Derived.Maps.Own
import Derived.Maps.OwnSet
import Derived.Maps.OwnOps
import Derived.Maps.RangeWalk
namespace Go.Proofs.Ytlkpalaakncicaa
open Go.RowKit Go.Maps
set_option linter.unusedVariables false
set_option linter.unusedSimpArgs false

def ifD (x : Ifc) : DataW Unit := .agg [.lit (.int .i64 x.id), .lit (.int .i64 x.r), .lit (.int .u32 x.a), .lit (.int .i64 x.n), .lit (.int .i64 x.c)]
def ifElem (v : Value) : Option (DataW Unit × List MemPlace) := match v with
  | .agg cs => match cs.toList with
    | [.int .i64 a, .int .i64 b, .int .u32 c, .int .i64 d, .int .i64 e] => some (ifD ⟨a, b, c, d, e⟩, [])
    | _ => none
  | _ => none
theorem ifElem_mk (x : Ifc) : ifElem (ifV x) = some (ifD x, []) := rfl
theorem ifElem_inv {v : Value} {z : DataW Unit × List MemPlace} (h : ifElem v = some z) : ∃ x : Ifc, v = ifV x ∧ z = (ifD x, []) := by
  unfold ifElem at h
  split at h
  · rename_i cs
    split at h
    · rename_i a b c d e hcs
      cases h
      refine ⟨⟨a, b, c, d, e⟩, ?_, rfl⟩
      obtain ⟨l⟩ := cs
      simp only at hcs
      rw [hcs]
    · cases h
  · cases h
theorem ifD_inj {x y : Ifc} (h : ifD x = ifD y) : x = y := by
  obtain ⟨a, b, c, d, e⟩ := x
  obtain ⟨a', b', c', d', e'⟩ := y
  simp [ifD] at h
  obtain ⟨rfl, rfl, rfl, rfl, rfl⟩ := h
  rfl
def Ifc.zero : Ifc := ⟨0, 0, 0, 0, 0⟩
theorem zero_if (w : World) : (zeroValue 34).run Try.prog w = .ok (ifV Ifc.zero) w := by kernel_rfl
theorem key_keyed : Keyed Try.prog 3 := int_keyed Try.underlying3
def litI (n : Int) : Lit := .int .i64 n
theorem keyI {n : Int} (h : (Lit.int .i64 n).wf = true) : keyOf Try.prog 3 (.int .i64 n) = some (litI n) := keyOf_int_mk Try.underlying3 h
theorem litI_key (n : Int) : WideAt.IsKeyLit (litI n) := trivial
theorem litI_inj {a b : Int} (h : litI a = litI b) : a = b := by unfold litI at h; injection h
def byId (l : List Ifc) (id : Int) : Option Ifc := l.find? fun x => decide (x.id = id)
/-- The map holds just these. -/
structure MapIs (D : DataW Unit) (l : List Ifc) : Prop where
  has : ∀ id, Maps.has D (litI id) = (byId l id).isSome
  at_ : ∀ id z, D.atKey (litI id) z = match byId l id with | some x => ifD x | none => z
theorem MapIs.empty : MapIs (.map []) [] := ⟨fun _ => rfl, fun _ _ => rfl⟩
theorem byId_snoc {l : List Ifc} {x : Ifc} (h : byId l x.id = none) (id : Int) : byId (l ++ [x]) id = if x.id = id then some x else byId l id := by
  unfold byId at *
  rw [List.find?_append]
  by_cases e : x.id = id
  · subst e
    rw [h, if_pos rfl]
    simp
  · rw [if_neg e]
    simp [e]
theorem MapIs.put {D : DataW Unit} {l : List Ifc} (h : MapIs D l) (hD : IsMap D) {x : Ifc} (hx : byId l x.id = none) : MapIs (D.put (litI x.id) (ifD x)) (l ++ [x]) := by
  refine ⟨fun id => ?_, fun id z => ?_⟩
  · rw [byId_snoc hx]
    by_cases e : x.id = id
    · subst e
      rw [if_pos rfl, has_put_same hD (litI_key _)]; rfl
    · rw [if_neg e, has_put_other (fun e2 => e (litI_inj e2).symm), h.has]
  · rw [byId_snoc hx]
    by_cases e : x.id = id
    · subst e
      rw [if_pos rfl, atKey_put_same hD (litI_key _)]
    · rw [if_neg e, atKey_put_other (fun e2 => e (litI_inj e2).symm), h.at_]
def mapTy : TypeId := 74
/-- A look at it. -/
theorem look_if {w : World} {b n : Nat} {D : DataW Unit} {l : List Ifc} (h : w.ownsMap Try.prog 3 ifElem b n D) (hm : MapIs D l) (id : Int) (hw : (Lit.int .i64 id).wf = true) :
    (Instr.lookup 74 (.map (some b)) (.int .i64 id) true).run Try.prog w = .ok (.tuple #[ifV ((byId l id).getD Ifc.zero), .bool (byId l id).isSome]) w := by
  obtain ⟨v, ps, hrun, hv⟩ := h.look_ok key_keyed Try.underlying74 (zero_if w) (ifElem_mk Ifc.zero) (keyI hw)
  rw [hrun, hm.has]
  obtain ⟨x, rfl, hx⟩ := ifElem_inv hv
  have h1 := congrArg Prod.fst hx
  simp only at h1
  rw [hm.at_] at h1
  have : x = (byId l id).getD Ifc.zero := by
    rcases hb : byId l id with _ | y
    · rw [hb] at h1; exact (ifD_inj h1).symm
    · rw [hb] at h1; exact (ifD_inj h1).symm
  rw [this]
theorem look_nil_if (w : World) (id : Int) (hw : (Lit.int .i64 id).wf = true) :
    (Instr.lookup 74 (.map none) (.int .i64 id) true).run Try.prog w = .ok (.tuple #[ifV Ifc.zero, .bool false]) w :=
  Maps.look_nil true key_keyed Try.underlying74 (zero_if w) (keyI hw)
end Go.Proofs.Ytlkpalaakncicaa
