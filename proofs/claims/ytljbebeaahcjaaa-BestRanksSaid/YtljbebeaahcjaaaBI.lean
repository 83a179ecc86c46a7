/- best: what Rank hands back: each one is the best one of those from it on. -/
import Derived.Test.YtljbebeaahcjaaaBH
import Derived.Test.YtljbebeaahcjaaaJN
namespace Go.Proofs.Ytljbebeaahcjaaa
open Go.RowKit Go.Maps Go.Sort Go.Shelf
set_option linter.unusedVariables false
set_option linter.unusedSimpArgs false
set_option maxRecDepth 100000
def SegsOk (L : List Sg) : Prop := ∀ s ∈ L, s.A.length = s.n
theorem lenL_like : ∀ {L K : List Sg}, SegsOk L → SegsOk K → K.map sgK = L.map sgK → lenL K = lenL L ∧ firstL K = firstL L
  | [], [], _, _, _ => ⟨rfl, rfl⟩
  | [], _ :: _, _, _, h => by simp at h
  | _ :: _, [], _, _, h => by simp at h
  | s :: t, u :: v, h1, h2, h => by
    simp only [List.map_cons, List.cons.injEq] at h
    obtain ⟨ih1, ih2⟩ := @lenL_like t v (fun x hx => h1 x (List.mem_cons_of_mem _ hx)) (fun x hx => h2 x (List.mem_cons_of_mem _ hx)) h.2
    have e := h.1
    unfold sgK at e
    simp only [Seg.mk.injEq] at e
    have hs := h1 s List.mem_cons_self
    have hu := h2 u List.mem_cons_self
    have hn : u.n = s.n := by rw [← hs, ← hu, e.2]
    unfold lenL firstL
    rw [e.1, e.2, hn, ih1, ih2]
    exact ⟨rfl, rfl⟩
theorem keyV_like {x y : Rv} (h : RvLike x y) (h1 : SegsOk x.x.L) (h2 : SegsOk y.x.L) : (∀ K, keyV K y = keyV K x) ∧ firstL y.x.L = firstL x.x.L := by
  obtain ⟨e1, e2⟩ := lenL_like h1 h2 h.x.L
  refine ⟨fun K => ?_, e2⟩
  match K with
  | 0 => show -prefV y.x = -prefV x.x; unfold prefV; rw [h.x.pf]
  | 1 => show ((lenL y.x.L : Nat) : Int) = _; rw [e1]; rfl
  | 2 => exact h.x.og
  | 3 => show max y.x.md 0 = max x.x.md 0; rw [h.x.md]
  | 4 => exact h.r
  | _ + 5 => exact h.i
theorem leL_of : ∀ {a b : List Int}, a.length = b.length → leK a b → leL a b
  | [], [], _, _ => trivial
  | x :: s, y :: t, h, k => by
    unfold leK at k
    rw [cmpL_cons] at k
    show x < y ∨ (x = y ∧ leL s t)
    by_cases e1 : y < x
    · rw [if_pos e1] at k; omega
    · rw [if_neg e1] at k
      by_cases e2 : x < y
      · exact .inl e2
      · rw [if_neg e2] at k
        exact .inr ⟨by omega, leL_of (by simpa using h) k⟩
theorem leL_anti : ∀ {a b : List Int}, a.length = b.length → leL a b → leL b a → a = b
  | [], [], _, _, _ => rfl
  | x :: s, y :: t, h, h1, h2 => by
    simp only [leL] at h1 h2
    rcases h1 with h1 | ⟨rfl, h1⟩
    · rcases h2 with h2 | ⟨h2, _⟩ <;> omega
    · rcases h2 with h2 | ⟨_, h2⟩
      · omega
      · rw [leL_anti (by simpa using h) h1 h2]
/-- The first one of routes is their best one, if it has .. -/
theorem best_first {l : List Rv} {n : Nat} (h0 : 0 < n) (h1 : ∀ d, d < n → leL ((keysA l).map (· 0)) ((keysA l).map (· d))) (h2 : ∀ d, d < n → (keysA l).map (· d) = (keysA l).map (· 0) → asAt l d = asAt l 0 → keyAt 3 l 0 ≤ keyAt 3 l d)
    (h3 : ∀ d, d < n → (keysA l).map (· d) = (keysA l).map (· 0) → (∀ c, c < n → (keysA l).map (· c) = (keysA l).map (· 0) → asAt l c = asAt l d → keyAt 3 l d ≤ keyAt 3 l c) → leL [keyAt 4 l 0, keyAt 5 l 0] [keyAt 4 l d, keyAt 5 l d]) : ∃ t, bestL l n = 0 :: t := by
  have hsel : ∀ d, d ∈ selV (keysA l) (List.range n) ↔ d < n ∧ (keysA l).map (· d) = (keysA l).map (· 0) := fun d => by
    rw [mem_sel, List.mem_range]
    constructor
    · rintro ⟨hd, h⟩
      exact ⟨hd, leL_anti (by simp) (h 0 (List.mem_range.2 h0)) (h1 d hd)⟩
    · rintro ⟨hd, h⟩
      exact ⟨hd, fun j hj => by rw [h]; exact h1 j (List.mem_range.1 hj)⟩
  have hm : 0 ∈ bestL l n := by
    unfold bestL
    rw [mem_sel]
    constructor
    · unfold leftV
      rw [mem_leastM]
      exact ⟨(hsel 0).2 ⟨h0, rfl⟩, fun j hj ha => h2 j ((hsel j).1 hj).1 ((hsel j).1 hj).2 ha⟩
    · intro d hd
      unfold leftV at hd
      rw [mem_leastM] at hd
      exact h3 d ((hsel d).1 hd.1).1 ((hsel d).1 hd.1).2 fun c hc hk ha => hd.2 c ((hsel c).2 ⟨hc, hk⟩) ha
  have hs : (bestL l n).Sublist (List.range n) := (sel_sub _ _).trans ((leastM_sub _ _ _).trans (sel_sub _ _))
  have hpw : (bestL l n).Pairwise (· < ·) := List.Pairwise.sublist hs List.pairwise_lt_range
  cases hb : bestL l n with
  | nil => rw [hb] at hm; cases hm
  | cons x t =>
    rw [hb] at hm hpw
    rcases List.mem_cons.1 hm with e | e
    · exact ⟨t, by rw [← e]⟩
    · have := (List.pairwise_cons.1 hpw).1 0 e
      omega
end Go.Proofs.Ytljbebeaahcjaaa
