/- trie: the document's list and the trie's things, on numbers alone. -/
import Derived.Test.YtipecocalmmmbaaTSa
namespace Go.Proofs.Ytipecocalmmmbaa
open Go.RowKit
set_option linter.unusedVariables false
set_option linter.unusedSimpArgs false

def o3 (e : TE) : O3 := (e.a, e.n, match e.v with | .int _ x => x | _ => 0)
theorem less_cmp (e : TE) (a n : Int) : decide (cmpP (o3 e).1 (o3 e).2.1 a n < 0) = TE.less a n e := by
  unfold o3 cmpP TE.less
  dsimp only
  by_cases h : e.a = a ∧ e.n = n
  · rw [if_pos h]
    obtain ⟨rfl, rfl⟩ := h
    simp
  · rw [if_neg h]
    by_cases h2 : e.a < a ∨ e.a = a ∧ e.n < n
    · rw [if_pos h2]; simp [h2]
    · rw [if_neg h2]; simp [h2]
theorem takes_all {α : Type} {p : α → Bool} : ∀ {l m : List α} (_ : ∀ x ∈ l, p x = true) (_ : ∀ x, m.head? = some x → p x = false), (l ++ m).takeWhile p = l
  | [], [], _, _ => rfl
  | [], y :: m, _, h => by
    have := h y rfl
    simp [List.takeWhile_cons, this]
  | x :: l, m, hl, h => by
    have h1 := hl x List.mem_cons_self
    rw [List.cons_append]
    simp only [List.takeWhile_cons, h1, if_true]
    rw [takes_all (fun y hy => hl y (List.mem_cons_of_mem _ hy)) h]
theorem fI_o3 {L : List TE} (h : TL L) (a n : Int) : fI (L.map o3) a n = (L.filter (TE.less a n)).length := by
  unfold fI
  rw [List.takeWhile_map, List.length_map]
  have e : ((fun p : O3 => decide (cmpP p.1 p.2.1 a n < 0)) ∘ o3) = TE.less a n := funext fun e => less_cmp e a n
  rw [e]
  have hc := cut3 h a n
  have key : L.takeWhile (TE.less a n) = L.filter (TE.less a n) := by
    conv => lhs; rw [hc]
    refine takes_all (fun x hx => (List.mem_filter.1 hx).2) (fun x hx => ?_)
    have hm : x ∈ (atT L a n).toList ++ L.filter (TE.more a n) := List.mem_of_mem_head? hx
    rcases List.mem_append.1 hm with hm | hm
    · rcases hq : atT L a n with _ | y
      · rw [hq] at hm; cases hm
      · rw [hq] at hm
        have : x = y := by simpa using hm
        obtain ⟨_, ea, en⟩ := atT_some hq
        subst this
        unfold TE.less; rw [ea, en]; simp
    · have := (List.mem_filter.1 hm).2
      unfold TE.more at this
      have := of_decide_eq_true this
      unfold TE.less
      exact decide_eq_false (by omega)
  rw [key]
theorem fB_o3 {L : List TE} (h : TL L) (a n : Int) : fB (L.map o3) a n = (atT L a n).isSome := by
  unfold fB
  rw [fI_o3 h]
  have hc := cut3 h a n
  have hmap : L.map o3 = (L.filter (TE.less a n)).map o3 ++ ((atT L a n).toList ++ L.filter (TE.more a n)).map o3 := by rw [← List.map_append]; exact congrArg (List.map o3) hc
  have e : (L.map o3)[(L.filter (TE.less a n)).length]? = (((atT L a n).toList ++ L.filter (TE.more a n)).map o3)[0]? := by
    rw [hmap, List.getElem?_append_right (by rw [List.length_map]; exact Nat.le_refl _), List.length_map, Nat.sub_self]
  rw [e]
  rcases hq : atT L a n with _ | y
  · rcases hm : L.filter (TE.more a n) with _ | ⟨z, m⟩
    · rfl
    · have hz : TE.more a n z = true := (List.mem_filter.1 (by rw [hm]; exact List.mem_cons_self)).2
      unfold TE.more at hz
      have hz := of_decide_eq_true hz
      simp only [Option.toList, List.nil_append, List.map_cons, List.getElem?_cons_zero, Option.isSome]
      unfold o3
      rw [Bool.and_eq_false_iff]
      by_cases h1 : z.a = a
      · right; simp; omega
      · left; simpa using h1
  · obtain ⟨_, ea, en⟩ := atT_some hq
    simp [o3, ea, en]
theorem setO_o3 {L : List TE} (h : TL L) (a n v : Int) (g : Nat) : setO (L.map o3) a n v = (setT L a n (.int .i64 v) g).map o3 := by
  unfold setO setT
  split
  · have hc := cut3 h a n
    have hmap : L.map o3 = (L.filter (TE.less a n)).map o3 ++ ((atT L a n).toList ++ L.filter (TE.more a n)).map o3 := by rw [← List.map_append]; exact congrArg (List.map o3) hc
    have hl : (L.map o3).take (L.filter (TE.less a n)).length = (L.filter (TE.less a n)).map o3 := by
      rw [hmap, List.take_append_of_le_length (by rw [List.length_map]; exact Nat.le_refl _), List.take_of_length_le (by rw [List.length_map]; exact Nat.le_refl _)]
    have hr : (L.map o3).drop (if (atT L a n).isSome then (L.filter (TE.less a n)).length + 1 else (L.filter (TE.less a n)).length) = (L.filter (TE.more a n)).map o3 := by
      rw [hmap]
      obtain ⟨F, hF⟩ : ∃ F, (L.filter (TE.less a n)).map o3 = F := ⟨_, rfl⟩
      have hFl : (L.filter (TE.less a n)).length = F.length := by rw [← hF, List.length_map]
      rw [hF, hFl]
      rcases atT L a n with _ | y
      · simp
      · simp [List.drop_append]
    rw [fI_o3 h, fB_o3 h, hl, hr]
    unfold insT
    rw [List.map_append, List.map_cons]
    rfl
  · rfl
theorem del_ins {L : List TE} (h : TL L) (e : TE) (hn : atT L e.a e.n = none) : delT (insT L e) e.a e.n = L := by
  have hl : (insT L e).filter (TE.less e.a e.n) = L.filter (TE.less e.a e.n) := by
    unfold insT
    rw [List.filter_append, List.filter_cons, List.filter_filter]
    have : (L.filter (TE.more e.a e.n)).filter (TE.less e.a e.n) = [] := by
      rw [List.filter_eq_nil_iff]
      intro x hx hy
      have := of_decide_eq_true (List.mem_filter.1 hx).2
      have := of_decide_eq_true hy
      omega
    rw [this, if_neg (by unfold TE.less; simp)]
    simp
  have hr : (insT L e).filter (TE.more e.a e.n) = L.filter (TE.more e.a e.n) := by
    unfold insT
    rw [List.filter_append, List.filter_cons, List.filter_filter]
    have : (L.filter (TE.less e.a e.n)).filter (TE.more e.a e.n) = [] := by
      rw [List.filter_eq_nil_iff]
      intro x hx hy
      have := of_decide_eq_true (List.mem_filter.1 hx).2
      have := of_decide_eq_true hy
      omega
    rw [← List.filter_filter, this, if_neg (by unfold TE.more; simp)]
    simp
  have := del_none h hn
  unfold delT at *
  rw [hl, hr, this]
end Go.Proofs.Ytipecocalmmmbaa
