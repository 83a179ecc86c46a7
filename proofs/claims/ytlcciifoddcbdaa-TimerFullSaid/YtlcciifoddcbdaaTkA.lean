/- timer: what a map holds, by a table. -/
import Derived.Test.YtlcciifoddcbdaaTk9
namespace Go.Proofs.Ytlcciifoddcbdaa
open Go.RowKit Go.Maps
deriving instance DecidableEq for Tk

/-- The map reads as f says. -/
def Tab (D : DataW Unit) (f : Tk → Option Int) : Prop := ∀ y, okT y → has D (litT y) = (f y).isSome ∧ D.atKey (litT y) (inT 0) = inT ((f y).getD 0)
theorem Tab.empty : Tab (.map []) (fun _ => none) := fun _ _ => ⟨rfl, rfl⟩
theorem litT_ne {x y : Tk} (hx : okT x) (hy : okT y) (h : y ≠ x) : litT y ≠ litT x := fun e => h (litT_inj hy hx e)
theorem Tab.put {D : DataW Unit} {f : Tk → Option Int} (h : Tab D f) (hD : IsMap D) {x : Tk} (hx : okT x) (v : Int) : Tab (D.put (litT x) (inT v)) (fun y => if y = x then some v else f y) := fun y hy => by
  by_cases e : y = x
  · subst e
    dsimp only
    rw [if_pos rfl]
    exact ⟨has_put_same hD (litT_key _) _, atKey_put_same hD (litT_key _) _ _⟩
  · dsimp only
    rw [if_neg e]
    exact ⟨(has_put_other (litT_ne hx hy e) _).trans (h y hy).1, (atKey_put_other (litT_ne hx hy e) _ _).trans (h y hy).2⟩
theorem Tab.del {D : DataW Unit} {f : Tk → Option Int} (h : Tab D f) {x : Tk} (hx : okT x) : Tab (D.del (litT x)) (fun y => if y = x then none else f y) := fun y hy => by
  by_cases e : y = x
  · subst e
    dsimp only
    rw [if_pos rfl]
    exact ⟨has_del_same, atKey_del_same _⟩
  · dsimp only
    rw [if_neg e]
    exact ⟨(has_del_other (litT_ne hx hy e)).trans (h y hy).1, (atKey_del_other (litT_ne hx hy e) _).trans (h y hy).2⟩
theorem Tab.mom {D : DataW Unit} {f : Tk → Option Int} (h : Tab D f) {x : Tk} (hx : okT x) : MomT D x ((f x).getD 0) := (h x hx).2
theorem Tab.due {D : DataW Unit} {f : Tk → Option Int} (h : Tab D f) (now : Int) (dx : Option Tk) (h1 : ∀ x, dx = some x → okT x ∧ (f x).isSome = true) (h2 : ∀ x c, f x = some c → (c ≤ now ↔ dx = some x)) : OneDue D now dx :=
  ⟨fun x e => ⟨(h1 x e).1, ((h x (h1 x e).1).1).trans (h1 x e).2⟩, fun x c hx hh ha => by
    have hs := (h x hx).1.symm.trans hh
    obtain ⟨c', hc⟩ := Option.isSome_iff_exists.1 hs
    have := (h x hx).2
    rw [hc] at this
    have e : c' = c := inT_inj (this.symm.trans ha)
    exact h2 x c (e ▸ hc)⟩
theorem Tab.least {D : DataW Unit} {f : Tk → Option Int} (h : Tab D f) {m : Int} {i : Bool} (hl : LeastT D (fun _ => false) m i) {x : Tk} (hx : okT x) {c : Int} (hc : f x = some c) (hm : ∀ y d, f y = some d → c ≤ d) : m = c ∧ i = true := by
  have hh : has D (litT x) = true := by rw [(h x hx).1, hc]; rfl
  have ha : D.atKey (litT x) (inT 0) = inT c := by rw [(h x hx).2, hc]; rfl
  cases i with
  | false => have := (hl.1 rfl).2 _ hh; cases this
  | true =>
    obtain ⟨⟨y, hy, hyh, hya⟩, hall⟩ := hl.2 rfl
    have h1 := hall x c hx hh rfl ha
    have hs := (h y hy).1.symm.trans hyh
    obtain ⟨d, hd⟩ := Option.isSome_iff_exists.1 hs
    have h2 := (h y hy).2
    rw [hd] at h2
    have e : d = m := inT_inj (h2.symm.trans hya)
    have := hm y d hd
    exact ⟨by omega, rfl⟩
theorem TmP.size_put {w : World} {g b n : Nat} {D : DataW Unit} (h : TmP w g b n D) (x : Tk) (v : Int) : Maps.size (D.put (litT x) (inT v)) = if has D (litT x) then Maps.size D else Maps.size D + 1 := Maps.size_put (h.map.tidy tk_keyed) _
theorem TmP.size_del {w : World} {g b n : Nat} {D : DataW Unit} (h : TmP w g b n D) (x : Tk) : Maps.size (D.del (litT x)) + (if has D (litT x) then 1 else 0) = Maps.size D := Maps.size_del (h.map.tidy tk_keyed)
end Go.Proofs.Ytlcciifoddcbdaa
