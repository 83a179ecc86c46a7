/- load: tables that lose a key; Loads in memory. -/
import Derived.Test.YteeihjdkenlebaaZa
import Derived.Test.YteeihjdkenlebaaY0
namespace Go.Proofs.Yteeihjdkenlebaa
open Go.RowKit Go.Maps
set_option linter.unusedVariables false
set_option linter.unusedSimpArgs false

/-- A table without a key. -/
def delF {κ α : Type} (f : κ → Option α) (x : κ) [DecidableEq κ] : κ → Option α := fun y => if y = x then none else f y
section
variable {k e : TypeId} {κ α : Type} {kv : κ → Value} {kl : κ → Lit} {kok : κ → Prop} {R : Value → Option (DataW Unit × List MemPlace)} {ev : α → Value} {d : α → DataW Unit} {eok : α → Prop} {zero : α} {C : KeyC k kv kl kok} {E : ElC e R ev d eok zero} {w w' : World} {b n s : Nat} {f : κ → Option α}
theorem MapAt.size_le (h : MapAt C E w b n s f) : s ≤ n := by
  obtain ⟨D, h1, h2, _⟩ := h
  rw [← h2]; exact h1.size_le
/-- 'delete(m, x)'. -/
theorem MapAt.delete [DecidableEq κ] {t : TypeId} (h : MapAt C E w b n s f) (ht : Try.prog.underlying t = some (.map k e)) {x : κ} (hx : kok x) (ty : TypeId) :
    ∃ w' s', (Builtin.delete_ #[t, k] ty #[.map (some b), kv x]).run Try.prog w = .ok (.tuple #[]) w' ∧ MapAt C E w' b n s' (delF f x) ∧ s' + (if (f x).isSome then 1 else 0) = s ∧ w.grownBy w' (some b) := by
  obtain ⟨D, h1, h2, h3⟩ := h
  obtain ⟨w', hrun, hown, hg⟩ := h1.drop C.keyed ht (C.key x hx) ty
  have hsz := Maps.size_del (k := kl x) (h1.tidy C.keyed)
  rw [h2, (h3 x hx).1] at hsz
  refine ⟨w', _, hrun, ⟨_, hown, rfl, fun y hy => ?_⟩, hsz, hg.grown⟩
  unfold delF
  by_cases e' : y = x
  · subst e'
    rw [if_pos rfl]
    exact ⟨has_del_same, atKey_del_same _⟩
  · rw [if_neg e']
    have hne : kl y ≠ kl x := fun e2 => e' (C.inj _ _ hy hx e2)
    exact ⟨(has_del_other hne).trans (h3 y hy).1, (atKey_del_other hne _).trans (h3 y hy).2⟩
theorem step_delL {κ α : Type} {k e : TypeId} {kv : κ → Value} {kl : κ → Lit} {kok : κ → Prop} {R : Value → Option (DataW Unit × List MemPlace)} {ev : α → Value} {d : α → DataW Unit} {eok : α → Prop} {zero : α} {C : KeyC k kv kl kok} {E : ElC e R ev d eok zero} [DecidableEq κ] {t : TypeId} (ht : Try.prog.underlying t = some (.map k e)) {ops : Array Oper} {o : Oper} {a : Act} {w : World} {K : Act → World → Prop} {Q : Exit → Act → World → Prop} {G : Prop} (hw : Region.wanted o (yielded ops a.tmps) = true) (m x : Operand)
    (ho : o.op = .call { callee := .builtin .delete, args := #[m, x], argTypes := #[t, k] })
    (b n s : Nat) (f : κ → Option α) (y : κ) (hy : kok y) (hm : a.eval m = .map (some b)) (hx : a.eval x = kv y) (h : MapAt C E w b n s f)
    (hK : ∀ w' s', Hid (MapAt C E w' b n s' (delF f y)) → Hid (s' + (if (f y).isSome then 1 else 0) = s) → Hid (w.grownBy w' (some b)) → K (a.put o.dst (.tuple #[])) w') :
    if Region.wanted o (yielded ops a.tmps) = true then Oper.wp Try.prog o a w K Q else G := by
  rw [if_pos hw]
  obtain ⟨w', s', hrun, h2, h3, h4⟩ := h.delete ht hy o.type
  unfold Oper.wp execOp
  simp only [ho, resolve, invoke, builtin, Sem.run_bind, Sem.run_pure, Result.andThen_ok, List.map_toArray, List.map_cons, List.map_nil, hm, hx, hrun]
  exact hK w' s' (Lib.hid h2) (Lib.hid h3) (Lib.hid h4)
end
abbrev MapI (w : World) (b n s : Nat) (f : Int → Option Int) : Prop := MapAt keyIntC elIntC w b n s f
/-- Of each interface that has a load: it is none below 0, its load is above 0, and capped. -/
def OkL (f : Int → Option Int) : Prop := ∀ i v, f i = some v → 0 ≤ i ∧ 1 ≤ v ∧ v ≤ 9007199254740991
abbrev LDf : TypeId := 67
/-- Loads at g. -/
structure LdAt (w : World) (g b n s : Nat) (f : Int → Option Int) (ov : Bool) : Prop where
  intro ::
  blk : Blk w g LDf [.map (some b), .bool ov]
  map : MapI w b n s f
  ok : OkL f
theorem LdAt.next {w w' : World} {g b n s : Nat} {f : Int → Option Int} {ov : Bool} (h : LdAt w g b n s f ov) (hb : Below w.heap.size w w') : LdAt w' g b n s f ov := ⟨h.blk.next hb, h.map.next hb, h.ok⟩
theorem LdAt.ne {w : World} {g b n s : Nat} {f : Int → Option Int} {ov : Bool} (h : LdAt w g b n s f ov) : g ≠ b := h.map.notBlk h.blk
theorem LdAt.at0 {w : World} {g b n s : Nat} {f : Int → Option Int} {ov : Bool} (h : LdAt w g b n s f ov) : w.cell? ⟨g, 0, none⟩ = some (.map (some b)) ∧ w.cell? ⟨g, 1, none⟩ = some (.bool ov) := ⟨h.blk.cellAt rfl, h.blk.cellAt rfl⟩
/-- What an interface's load is then. -/
def setL (f : Int → Option Int) (i v : Int) : Int → Option Int := if v = 0 then delF f i else putF f i v
theorem okL_none : OkL (fun _ => none) := fun i v h => by cases h
theorem okL_set {f : Int → Option Int} (h : OkL f) {i v : Int} (hi : 0 ≤ i) (h0 : 0 ≤ v) (h1 : v ≤ 9007199254740991) : OkL (setL f i v) := by
  intro j u hu
  unfold setL at hu
  by_cases hv : v = 0
  · rw [if_pos hv] at hu
    unfold delF at hu
    by_cases e : j = i
    · rw [if_pos e] at hu; cases hu
    · rw [if_neg e] at hu; exact h j u hu
  · rw [if_neg hv] at hu
    unfold putF at hu
    by_cases e : j = i
    · rw [if_pos e] at hu; injection hu with hu; omega
    · rw [if_neg e] at hu; exact h j u hu
theorem loadV_bd {f : Int → Option Int} (h : OkL f) (i : Int) : 0 ≤ (f i).getD 0 ∧ (f i).getD 0 ≤ 9007199254740991 := by
  rcases hf : f i with _ | v
  · exact ⟨Int.le_refl _, show (0 : Int) ≤ 9007199254740991 by decide⟩
  · have := h i v hf
    show 0 ≤ v ∧ v ≤ _
    omega
end Go.Proofs.Yteeihjdkenlebaa
