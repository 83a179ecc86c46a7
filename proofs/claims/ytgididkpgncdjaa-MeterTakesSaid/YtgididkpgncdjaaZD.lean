/- meter in numbers: what the laws say. -/
import Derived.Test.YtgididkpgncdjaaZB
namespace Go.Proofs.Ytgididkpgncdjaa
open Go.RowKit Go.Maps
set_option linter.unusedVariables false
set_option linter.unusedSimpArgs false

theorem demS_set (V : Nat → Mv) (i : Nat) (x : Mv) (p : Pf) : ∀ k, demS (setV V i x) p k = demS V p k + (if i < k then rateAt x p - rateAt (V i) p else 0)
  | 0 => by simp [demS]
  | k + 1 => by
    simp only [demS]
    rw [demS_set V i x p k]
    by_cases e : k = i
    · subst e
      rw [setV_self, if_neg (by omega), if_pos (by omega)]; omega
    · rw [setV_ne _ _ e]
      by_cases h : i < k
      · rw [if_pos h, if_pos (by omega)]; omega
      · rw [if_neg h, if_neg (by omega)]; omega
theorem allR_set (V : Nat → Mv) (i : Nat) (x : Mv) : ∀ k, tot (allR (setV V i x) k) = tot (allR V k) + (if i < k then tot x.R - tot (V i).R else 0)
  | 0 => by simp [allR, tot]
  | k + 1 => by
    rw [allR_step, allR_step, tot_append, tot_append, allR_set V i x k]
    by_cases e : k = i
    · subst e
      rw [setV_self, if_neg (by omega), if_pos (by omega)]; omega
    · rw [setV_ne _ _ e]
      by_cases h : i < k
      · rw [if_pos h, if_pos (by omega)]; omega
      · rw [if_neg h, if_neg (by omega)]; omega
theorem demS_zero (p : Pf) : ∀ k, demS V0 p k = 0
  | 0 => rfl
  | k + 1 => by simp only [demS]; rw [demS_zero p k]; rfl
theorem allR_zero : ∀ k, allR V0 k = []
  | 0 => rfl
  | k + 1 => by rw [allR_step, allR_zero k]; rfl
theorem rates_none (now : Int) (L : List Ct) : ratesV Mv.zero now L = [] := by
  unfold ratesV
  rw [List.filterMap_eq_nil_iff]
  intro x _
  rw [if_neg]
  show ¬ 0 < rateC Mv.zero now x
  unfold rateC
  rw [show fillT Mv.zero.L x.p = none from rfl]
  simp
theorem rate_one (v : Mv) (seq now : Int) (p : Pf) (c : Int) (h : 0 ≤ rateC v now ⟨p, c⟩) : rateAt (thenV v seq [⟨p, c⟩] now) p = rateC v now ⟨p, c⟩ ∧ tot (thenV v seq [⟨p, c⟩] now).R = rateC v now ⟨p, c⟩ := by
  unfold rateAt thenV ratesV
  simp only [List.filterMap_cons, List.filterMap_nil]
  by_cases h0 : 0 < rateC v now ⟨p, c⟩
  · rw [if_pos h0]
    simp [fillT, putF, tot]
  · rw [if_neg h0]
    have : rateC v now ⟨p, c⟩ = 0 := by omega
    rw [this]
    simp [fillT, tot]
theorem fill_one (p : Pf) (c : Int) : fillT [⟨p, c⟩] p = some c := by simp [fillT, putF]
abbrev ten : Pf := ⟨167772160, 16⟩
theorem ten_ok : okP 167772160 16 = true := by decide +kernel
theorem ten_in : InPf ten := ⟨by decide, by decide⟩
theorem okRep_one {i seq c : Int} (h0 : 0 ≤ i) (h1 : i < 16) (hs : 0 ≤ seq ∧ seq ≤ 9007199254740991) (hc : 0 ≤ c ∧ c ≤ 9007199254740991) : okRep i seq [⟨ten, c⟩] = true := by
  unfold okRep
  simp only [Bool.and_eq_true, decide_eq_true_eq, List.length_cons, List.length_nil]
  refine ⟨by unfold isR; simp only [Bool.and_eq_true, decide_eq_true_eq]; exact ⟨h0, h1⟩, (isCap_iff _).2 hs, by omega, ?_⟩
  show distT [] [⟨ten, c⟩] = true
  rw [distT, oddCt_seen, distT]
  unfold fineCt apartT
  rw [show okP (⟨ten, c⟩ : Ct).p.a (⟨ten, c⟩ : Ct).p.n = true from ten_ok, (isCap_iff _).2 hc]
  rfl
/-- A source reports one count more. -/
theorem take_one {V : Nat → Mv} {i : Nat} (hi : i < 16) {seq now c : Int} (hs : 0 ≤ seq ∧ seq ≤ 9007199254740991) (hn : 0 ≤ now ∧ now ≤ 9007199254740991) (hc : 0 ≤ c ∧ c ≤ 9007199254740991) (hq : (V i).h = false ∨ (V i).q < seq) :
    takeE V i seq [⟨ten, c⟩] now = 0 ∧ takeV V i seq [⟨ten, c⟩] now = setV V i (thenV (V i) seq [⟨ten, c⟩] now) := by
  have he : takeE V i seq [⟨ten, c⟩] now = 0 := by
    unfold takeE
    rw [okRep_one (by omega) (by omega) hs hc, (isCap_iff _).2 hn]
    rw [if_neg (by simp), show ((i : Int)).toNat = i from rfl]
    rw [if_neg]
    intro h
    simp only [Bool.and_eq_true, decide_eq_true_eq] at h
    rcases hq with e | e
    · rw [e] at h; cases h.1
    · omega
  refine ⟨he, ?_⟩
  unfold takeV
  rw [if_pos he]; rfl
/-- MeterOnce. -/
theorem once_fact (src seq : Int) (L : List Ct) (now : Int) : allR (takeV V0 src seq L now) 16 = [] := by
  have h : ∀ i, (takeV V0 src seq L now i).R = [] := fun i => by
    unfold takeV
    split
    · unfold setV
      split
      · exact rates_none now L
      · rfl
    · rfl
  unfold allR
  rw [List.flatMap_eq_nil_iff]
  exact fun i _ => h i
theorem once_dem {V : Nat → Mv} (h : allR V 16 = []) {l : List Ct} (hd : Dem V l) : l = [] := by
  rcases l with _ | ⟨x, t⟩
  · rfl
  · obtain ⟨y, hy, _⟩ := (hd.mem x.p).1 (by simp)
    rw [h] at hy
    cases hy
theorem once_over {V : Nat → Mv} (h : allR V 16 = []) : overV V = false := by
  unfold overV
  rw [h]
  decide
/-- MeterRises: two reports of one source. -/
theorem two_fact {first a frm till : Int} (h0 : 0 ≤ first) (ha : first ≤ a) (hM : a ≤ 9007199254740991) (hf : 0 ≤ frm) (ht : frm < till) (hT : till ≤ 9007199254740991) :
    takeE V0 0 1 [⟨ten, first⟩] frm = 0 ∧ takeE (takeV V0 0 1 [⟨ten, first⟩] frm) 0 2 [⟨ten, a⟩] till = 0 ∧ demV (takeV (takeV V0 0 1 [⟨ten, first⟩] frm) 0 2 [⟨ten, a⟩] till) ten = (a - first) / (till - frm) := by
  obtain ⟨e1, v1⟩ := take_one (V := V0) (i := 0) (by omega) (seq := 1) (now := frm) (c := first) (by omega) (by omega) (by omega) (.inl rfl)
  have e1 : takeE V0 0 1 [⟨ten, first⟩] frm = 0 := e1
  have v1 : takeV V0 0 1 [⟨ten, first⟩] frm = setV V0 0 (thenV (V0 0) 1 [⟨ten, first⟩] frm) := v1
  rw [v1]
  obtain ⟨V1, hV⟩ : ∃ V, setV V0 0 (thenV (V0 0) 1 [⟨ten, first⟩] frm) = V := ⟨_, rfl⟩
  have hs : V1 0 = thenV (V0 0) 1 [⟨ten, first⟩] frm := by rw [← hV, setV_self]
  rw [hV]
  obtain ⟨e2, v2⟩ := take_one (V := V1) (i := 0) (by omega) (seq := 2) (now := till) (c := a) (by omega) (by omega) (by omega) (.inr (by rw [hs]; show (1 : Int) < 2; omega))
  have e2 : takeE V1 0 2 [⟨ten, a⟩] till = 0 := e2
  have v2 : takeV V1 0 2 [⟨ten, a⟩] till = setV V1 0 (thenV (V1 0) 2 [⟨ten, a⟩] till) := v2
  refine ⟨e1, e2, ?_⟩
  have hr : rateC (V1 0) till ⟨ten, a⟩ = (a - first) / (till - frm) := by
    rw [hs]
    unfold rateC
    rw [show (thenV (V0 0) 1 [⟨ten, first⟩] frm).L = [⟨ten, first⟩] from rfl, fill_one]
    simp only
    rw [show (thenV (V0 0) 1 [⟨ten, first⟩] frm).a = frm from rfl, if_neg (by omega)]
  have hx : 0 ≤ a - first := by omega
  have hq : 0 ≤ (a - first) / (till - frm) := Int.ediv_nonneg hx (by omega)
  have hle := Int.ediv_le_self (till - frm) hx
  have hz : rateAt (V1 0) ten = 0 := by
    rw [hs]
    unfold rateAt thenV
    rw [show V0 0 = Mv.zero from rfl, rates_none]; rfl
  have hd : demS V1 ten 16 = 0 := by
    rw [← hV, demS_set, demS_zero, if_pos (by omega)]
    rw [show rateAt (thenV (V0 0) 1 [⟨ten, first⟩] frm) ten = 0 from hs ▸ hz]
    rfl
  unfold demV
  rw [v2, demS_set, if_pos (by omega), hd, hz, (rate_one (V1 0) 2 till ten a (by rw [hr]; exact hq)).1, hr, near_id (by omega) (by omega)]
  omega
theorem two_le {first a b frm till : Int} (hab : a ≤ b) (ht : frm < till) : (a - first) / (till - frm) ≤ (b - first) / (till - frm) := Int.ediv_le_ediv (by omega) (by omega)
/-- MeterSums: the sources so far. -/
structure SumV (V : Nat → Mv) (k : Nat) (T : Int) : Prop where
  intro ::
  ok : OkV V
  zero : ∀ j, k ≤ j → V j = Mv.zero
  dem : demS V ten 16 = T
  all : tot (allR V 16) = T
theorem sumV0 : SumV V0 0 0 := ⟨okV0, fun _ _ => rfl, demS_zero _ _, by rw [allR_zero]; rfl⟩
theorem sumV_step {V : Nat → Mv} {k : Nat} {T c : Int} (h : SumV V k T) (hk : k < 16) (h0 : 0 ≤ c) (h1 : c ≤ 9007199254740991) :
    takeE V k 1 [⟨ten, 0⟩] 0 = 0 ∧ takeE (takeV V k 1 [⟨ten, 0⟩] 0) k 2 [⟨ten, c⟩] 1 = 0 ∧ SumV (takeV (takeV V k 1 [⟨ten, 0⟩] 0) k 2 [⟨ten, c⟩] 1) (k + 1) (T + c) := by
  have hz := h.zero k (Nat.le_refl _)
  obtain ⟨e1, v1⟩ := take_one (V := V) hk (seq := 1) (now := 0) (c := 0) (by omega) (by omega) (by omega) (.inl (by rw [hz]; rfl))
  have hin : ∀ (c : Int), ∀ x ∈ [(⟨ten, c⟩ : Ct)], InCt x := fun c x hx => by simp at hx; rw [hx]; exact ten_in
  have ok1 := okV_take h.ok (src := k) (seq := 1) (now := 0) (hin 0)
  have ok2 := okV_take ok1 (src := k) (seq := 2) (now := 1) (hin c)
  rw [v1] at ok1 ok2 ⊢
  obtain ⟨V1, hV⟩ : ∃ W, setV V k (thenV (V k) 1 [⟨ten, 0⟩] 0) = W := ⟨_, rfl⟩
  have hs : V1 k = thenV (V k) 1 [⟨ten, 0⟩] 0 := by rw [← hV, setV_self]
  rw [hV] at ok1 ok2 ⊢
  obtain ⟨e2, v2⟩ := take_one (V := V1) hk (seq := 2) (now := 1) (c := c) (by omega) (by omega) (by omega) (.inr (by rw [hs]; show (1 : Int) < 2; omega))
  rw [v2] at ok2 ⊢
  have hr : rateC (V1 k) 1 ⟨ten, c⟩ = c := by
    rw [hs]
    unfold rateC
    rw [show (thenV (V k) 1 [⟨ten, 0⟩] 0).L = [⟨ten, 0⟩] from rfl, fill_one]
    simp only
    rw [show (thenV (V k) 1 [⟨ten, 0⟩] 0).a = 0 from rfl, if_neg (by omega)]
    simp
  have hR : (V1 k).R = [] := by rw [hs, hz]; exact rates_none _ _
  have hz1 : rateAt (V1 k) ten = 0 := by unfold rateAt; rw [hR]; rfl
  have hzk : rateAt (V k) ten = 0 := by rw [hz]; rfl
  have hzR : (V k).R = [] := by rw [hz]; rfl
  have hd : demS V1 ten 16 = T := by
    rw [← hV, demS_set, if_pos hk, h.dem, hzk, show rateAt (thenV (V k) 1 [⟨ten, 0⟩] 0) ten = 0 from hs ▸ hz1]; omega
  have ha : tot (allR V1 16) = T := by
    rw [← hV, allR_set, if_pos hk, h.all, hzR, show (thenV (V k) 1 [⟨ten, 0⟩] 0).R = [] from hs ▸ hR]; omega
  obtain ⟨r1, r2⟩ := rate_one (V1 k) 2 1 ten c (by rw [hr]; exact h0)
  refine ⟨e1, e2, ok2, fun j hj => ?_, ?_, ?_⟩
  · rw [setV_ne _ _ (by omega), ← hV, setV_ne _ _ (by omega)]
    exact h.zero j (by omega)
  · rw [demS_set, if_pos hk, hd, hz1, r1, hr]; omega
  · rw [allR_set, if_pos hk, ha, hR, r2, hr]; simp [tot]
end Go.Proofs.Ytgididkpgncdjaa
