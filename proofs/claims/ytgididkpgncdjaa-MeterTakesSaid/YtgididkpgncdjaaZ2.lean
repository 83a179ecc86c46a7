/- What a map by prefixes holds; its keys as they come. -/
import Derived.Test.YtgididkpgncdjaaZ0
namespace Go.Proofs.Ytgididkpgncdjaa
open Go.RowKit Go.Maps

theorem litP_inj2 {x y : Pf} (hx : InPf x) (hy : InPf y) (h : litP x = litP y) : x = y := litP_inj x y hx hy h
/-- What a map holds that was laid for so many: just those. -/
def Held (D : DataW Unit) (l : List Pf) : Prop := ∀ x, InPf x → (has D (litP x) = true ↔ x ∈ l)
theorem Held.nil : Held (.map []) [] := fun x _ => by simp [has_eq]
theorem Held.put {D : DataW Unit} {l : List Pf} (h : Held D l) (hD : IsMap D) {x : Pf} (hx : InPf x) (d : DataW Unit) : Held (D.put (litP x) d) (l ++ [x]) := fun y hy => by
  by_cases e : y = x
  · subst e
    rw [has_put_same hD (litP_key y)]; simp
  · rw [has_put_other (fun e2 => e (litP_inj2 hy hx e2)), h y hy]
    simp [e]

/-- The keys that have come while others are left. -/
def Come (D0 : DataW Unit) (left : Lit → Bool) (ss : List Pf) : Prop := ss.Nodup ∧ (∀ x ∈ ss, InPf x) ∧ ∀ x, InPf x → (x ∈ ss ↔ (has D0 (litP x) = true ∧ left (litP x) = false))
theorem Come.start (D0 : DataW Unit) : Come D0 (has D0) [] := ⟨List.nodup_nil, fun x hx => by simp at hx, fun x _ => by cases has D0 (litP x) <;> simp⟩
theorem Come.step {D0 : DataW Unit} {left : Lit → Bool} {ss : List Pf} (h : Come D0 left ss) {x : Pf} (hx : InPf x) {y : DataW Unit} (hlk : left (litP x) = true) (hat : ∀ zd, D0.atKey (litP x) zd = y) : Come D0 (fun z => left z && !z.sameKey (litP x)) (ss ++ [x]) := by
  have hhas : has D0 (litP x) = true := has_true_of_atKey hat
  have hnew : x ∉ ss := fun hm => by have := ((h.2.2 x hx).1 hm).2; rw [hlk] at this; cases this
  refine ⟨List.nodup_append.2 ⟨h.1, by simp, fun a ha b hb => by simp at hb; subst hb; exact fun e => hnew (e ▸ ha)⟩, fun y hy => ?_, fun y hy => ?_⟩
  · rcases List.mem_append.1 hy with hy | hy
    · exact h.2.1 y hy
    · simp at hy; subst hy; exact hx
  · by_cases e : y = x
    · subst e; simp [hhas, WideAt.sameKey_self (litP_key y)]
    · have hs : (litP y).sameKey (litP x) = false := sameKey_ne (fun e2 => e (litP_inj2 hy hx e2))
      simp [h.2.2 y hy, e, hs]
theorem Come.all {D0 : DataW Unit} {left : Lit → Bool} {ss l : List Pf} (h : Come D0 left ss) (hl : ∀ kl, left kl = false) (hH : Held D0 l) (hok : ∀ x ∈ l, InPf x) : ss.Nodup ∧ ∀ x, x ∈ ss ↔ x ∈ l := by
  refine ⟨h.1, fun x => ?_⟩
  constructor
  · intro hx
    exact (hH x (h.2.1 x hx)).1 ((h.2.2 x (h.2.1 x hx)).1 hx).1
  · intro hx
    exact (h.2.2 x (hok x hx)).2 ⟨(hH x (hok x hx)).2 hx, hl _⟩
end Go.Proofs.Ytgididkpgncdjaa
