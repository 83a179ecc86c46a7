/- trie: two lists of things that are alike but for their blocks; what is set in another order, on numbers alone. -/
import Derived.Test.YtipecocalmmmbaaTX
namespace Go.Proofs.Ytipecocalmmmbaa
open Go.RowKit
set_option linter.unusedVariables false
set_option linter.unusedSimpArgs false

/-- A thing, but for its block. -/
def TE.core (e : TE) : Int × Int × Value := (e.a, e.n, e.v)
def Alike (L M : List TE) : Prop := ∀ a n, (atT L a n).map TE.core = (atT M a n).map TE.core
theorem Alike.keys : ∀ {L M : List TE}, TL L → TL M → Alike L M → L.map TE.core = M.map TE.core
  | [], [], _, _, _ => rfl
  | [], y :: M, _, hM, h => by
    have := h y.a y.n
    rw [hM.at List.mem_cons_self] at this
    simp [atT] at this
  | x :: L, [], hL, _, h => by
    have := h x.a x.n
    rw [hL.at List.mem_cons_self] at this
    simp [atT] at this
  | x :: L, y :: M, hL, hM, h => by
    have hx := h x.a x.n
    rw [hL.at List.mem_cons_self] at hx
    have hy := h y.a y.n
    rw [hM.at List.mem_cons_self] at hy
    have hxm : ∃ z ∈ y :: M, z.core = x.core := by
      rcases hc : atT (y :: M) x.a x.n with _ | z
      · rw [hc] at hx; cases hx
      · rw [hc] at hx
        exact ⟨z, (atT_some hc).1, (Option.some.inj hx).symm⟩
    have hym : ∃ z ∈ x :: L, z.core = y.core := by
      rcases hc : atT (x :: L) y.a y.n with _ | z
      · rw [hc] at hy; cases hy
      · rw [hc] at hy
        exact ⟨z, (atT_some hc).1, Option.some.inj hy⟩
    have hxy : x.core = y.core := by
      obtain ⟨z, hz, ez⟩ := hxm
      obtain ⟨u, hu, eu⟩ := hym
      rcases List.mem_cons.1 hz with rfl | hz
      · exact ez.symm
      rcases List.mem_cons.1 hu with rfl | hu
      · exact eu
      have h1 := (List.pairwise_cons.1 hM.sorted).1 z hz
      have h2 := (List.pairwise_cons.1 hL.sorted).1 u hu
      unfold TE.core at ez eu
      injection ez with e1 e2
      injection e2 with e2 _
      injection eu with f1 f2
      injection f2 with f2 _
      unfold TE.lt at h1 h2
      omega
    have hk : x.a = y.a ∧ x.n = y.n := by
      unfold TE.core at hxy
      injection hxy with e1 e2
      injection e2 with e2 _
      exact ⟨e1, e2⟩
    rw [List.map_cons, List.map_cons, hxy]
    congr 1
    refine Alike.keys hL.tail hM.tail fun a n => ?_
    by_cases he : x.a = a ∧ x.n = n
    · have none_of : ∀ {z : TE} {K : List TE}, TL (z :: K) → z.a = a → z.n = n → atT K a n = none := fun {z K} hK e1 e2 => by
        rcases hc : atT K a n with _ | u
        · rfl
        · obtain ⟨hu, ea, en⟩ := atT_some hc
          have := (List.pairwise_cons.1 hK.sorted).1 u hu
          unfold TE.lt at this
          omega
      rw [none_of hL he.1 he.2, none_of hM (hk.1 ▸ he.1) (hk.2 ▸ he.2)]
    · have := h a n
      have s1 : atT (x :: L) a n = atT L a n := by unfold atT; rw [List.find?_cons_of_neg (by unfold TE.is; simpa using fun h1 h2 => he ⟨h1, h2⟩)]
      have s2 : atT (y :: M) a n = atT M a n := by unfold atT; rw [List.find?_cons_of_neg (by unfold TE.is; simpa using fun h1 h2 => he ⟨hk.1.trans h1, hk.2.trans h2⟩)]
      rw [s1, s2] at this
      exact this
theorem Alike.lng {L M : List TE} (h : Alike L M) (x : Int) : ∀ k, (lngTo L x k).map TE.core = (lngTo M x k).map TE.core
  | 0 => rfl
  | k + 1 => by
    unfold lngTo
    have := h (mk x k) k
    rcases h1 : atT L (mk x k) k with _ | e <;> rcases h2 : atT M (mk x k) k with _ | f <;> rw [h1, h2] at this
    · exact Alike.lng h x k
    · cases this
    · cases this
    · exact this
theorem core_same {o p : Option TE} (h : o.map TE.core = p.map TE.core) (z : Value) : lP o = lP p ∧ lV z o = lV z p ∧ o.isSome = p.isSome := by
  rcases o with _ | e <;> rcases p with _ | f
  · exact ⟨rfl, rfl, rfl⟩
  · cases h
  · cases h
  · have := Option.some.inj h
    unfold TE.core at this
    injection this with e1 e2
    injection e2 with e2 e3
    exact ⟨by simp [lP, e1, e2], by simp [lV, e3], rfl⟩
theorem map_tkey {L M : List TE} (h : L.map TE.core = M.map TE.core) : L.map tkey = M.map tkey := by
  have := congrArg (List.map (fun p : Int × Int × Value => (p.1, p.2.1))) h
  rw [List.map_map, List.map_map] at this
  exact this
/-- What is in a trie into which certain prefixes were set, each with its length. -/
structure SetBy (L : List TE) (S : Int × Int → Prop) : Prop where
  val : ∀ e ∈ L, e.v = .int .i64 e.n
  has : ∀ a n, (atT L a n).isSome = true ↔ S (a, n) ∧ okP a n = true
theorem SetBy.nil : SetBy [] (fun _ => False) := ⟨fun e h => by (cases h), fun a n => by simp [atT]⟩
theorem SetBy.step {L : List TE} {S : Int × Int → Prop} (h : SetBy L S) (hL : TL L) {a n : Int} (a0 : 0 ≤ a) (a1 : a < 4294967296) (g : Nat) : SetBy (setT L a n (.int .i64 n) g) (fun p => S p ∨ p = (a, n)) := by
  unfold setT
  rcases hk : okP a n with _ | _
  · rw [if_neg (by decide)]
    refine ⟨h.val, fun b m => ?_⟩
    rw [h.has b m]
    constructor
    · rintro ⟨h1, h2⟩; exact ⟨.inl h1, h2⟩
    · rintro ⟨h1 | h1, h2⟩
      · exact ⟨h1, h2⟩
      · injection h1 with e1 e2
        subst e1 e2
        rw [hk] at h2; cases h2
  · rw [if_pos rfl]
    have he : TE.Ok ⟨a, n, .int .i64 n, g⟩ := ⟨hk, a0, a1⟩
    refine ⟨fun e hm => ?_, fun b m => ?_⟩
    · rcases mem_ins.1 hm with rfl | ⟨hm, _⟩
      · rfl
      · exact h.val e hm
    · by_cases hs : a = b ∧ n = m
      · obtain ⟨rfl, rfl⟩ := hs
        have := at_ins_same hL he
        dsimp only at this
        rw [this]
        simp [hk]
      · have := at_ins_other hL he (a := b) (n := m) hs
        rw [this, h.has b m]
        constructor
        · rintro ⟨h1, h2⟩; exact ⟨.inl h1, h2⟩
        · rintro ⟨h1 | h1, h2⟩
          · exact ⟨h1, h2⟩
          · injection h1 with e1 e2
            exact absurd ⟨e1.symm, e2.symm⟩ hs
theorem SetBy.alike {L M : List TE} {S T : Int × Int → Prop} (h : SetBy L S) (k : SetBy M T) (hs : ∀ p, S p ↔ T p) : Alike L M := fun a n => by
  have h1 := h.has a n
  have h2 := k.has a n
  rw [hs] at h1
  rcases hc : atT L a n with _ | e <;> rcases hd : atT M a n with _ | f
  · rfl
  · rw [hc] at h1; rw [hd] at h2
    exact absurd (h1.2 (h2.1 rfl)) (by simp)
  · rw [hc] at h1; rw [hd] at h2
    exact absurd (h2.2 (h1.1 rfl)) (by simp)
  · obtain ⟨he, ea, en⟩ := atT_some hc
    obtain ⟨hf, fa, fn⟩ := atT_some hd
    have v1 := h.val e he
    have v2 := k.val f hf
    simp [TE.core, v1, v2, ea, en, fa, fn]
/-- The places that the second one is set from. -/
theorem turn_hits {len c j : Nat} (hj : j < len) : ∃ i, i < len ∧ len - 1 - (i + c % len) % len = j := by
  have hc : c % len < len := Nat.mod_lt _ (by omega)
  obtain ⟨d, hd⟩ : ∃ d, c % len = d := ⟨_, rfl⟩
  rw [hd] at hc ⊢
  by_cases h : d ≤ len - 1 - j
  · refine ⟨len - 1 - j - d, by omega, ?_⟩
    rw [show len - 1 - j - d + d = len - 1 - j from by omega, Nat.mod_eq_of_lt (by omega)]
    omega
  · refine ⟨len - 1 - j + len - d, by omega, ?_⟩
    rw [show len - 1 - j + len - d + d = len - 1 - j + len from by omega, Nat.add_mod_right, Nat.mod_eq_of_lt (by omega)]
    omega
end Go.Proofs.Ytipecocalmmmbaa
