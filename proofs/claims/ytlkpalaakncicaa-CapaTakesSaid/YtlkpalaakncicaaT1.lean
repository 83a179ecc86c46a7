/- trie: things in the order of their prefixes, on numbers alone. -/
import Derived.Test.YtlkpalaakncicaaRefD02
namespace Go.Proofs.Ytlkpalaakncicaa
open Go.RowKit
set_option linter.unusedVariables false
set_option linter.unusedSimpArgs false

/-- A thing: its prefix, what it is, the block that holds it. -/
structure TE where
  a : Int
  n : Int
  v : Value
  g : Nat
def TE.lt (x y : TE) : Prop := x.a < y.a ∨ (x.a = y.a ∧ x.n < y.n)
def TE.is (a n : Int) (x : TE) : Bool := decide (x.a = a ∧ x.n = n)
def TE.less (a n : Int) (x : TE) : Bool := decide (x.a < a ∨ (x.a = a ∧ x.n < n))
def TE.more (a n : Int) (x : TE) : Bool := decide (a < x.a ∨ (x.a = a ∧ n < x.n))
structure TE.Ok (x : TE) : Prop where
  ok : okP x.a x.n = true
  a0 : 0 ≤ x.a
  a1 : x.a < 4294967296
structure TL (L : List TE) : Prop where
  sorted : L.Pairwise TE.lt
  ok : ∀ x ∈ L, x.Ok
theorem okP_parts {a n : Int} (h : okP a n = true) : a = mk a n ∧ 0 ≤ n ∧ n ≤ 32 := by
  unfold okP at h
  rw [Bool.and_eq_true, decide_eq_true_eq, decide_eq_true_eq] at h
  exact ⟨h.1, cl_len h.2⟩
theorem cl_in {n : Int} (h0 : 0 ≤ n) (h1 : n ≤ 32) : cl n = n := by
  unfold cl bitsOf
  rw [if_neg (by omega), if_neg (by omega)]
  omega
theorem okP_mk {a : Int} {d : Nat} (hd : d ≤ 32) (h0 : 0 ≤ a) (h1 : a < 4294967296) : okP (mk a d) d = true := by
  unfold okP
  rw [mk_mk a d d h0 h1 (by omega) (Int.le_refl _) (by omega), cl_in (by omega) (by omega)]
  simp
/-- One list of two halves. -/
theorem filter_split {L : List TE} {P Q R : TE → Bool} (h : L.Pairwise TE.lt) (hp : ∀ x ∈ L, P x = (Q x || R x)) (hd : ∀ x ∈ L, ∀ y ∈ L, Q x = true → R y = true → TE.lt x y) : L.filter P = L.filter Q ++ L.filter R := by
  have irr : ∀ x : TE, ¬ TE.lt x x := fun x hx => by unfold TE.lt at hx; omega
  have asy : ∀ x y : TE, TE.lt x y → ¬ TE.lt y x := fun x y hx hy => by unfold TE.lt at hx hy; omega
  induction L with
  | nil => rfl
  | cons x l ih =>
    have hc := List.pairwise_cons.1 h
    have il := ih hc.2 (fun y hy => hp y (List.mem_cons_of_mem _ hy)) (fun y hy z hz => hd y (List.mem_cons_of_mem _ hy) z (List.mem_cons_of_mem _ hz))
    have hx := hp x List.mem_cons_self
    rcases hq : Q x with _ | _
    · rcases hr : R x with _ | _
      · rw [List.filter_cons_of_neg (by rw [hx, hq, hr]; decide), List.filter_cons_of_neg (by rw [hq]; decide), List.filter_cons_of_neg (by rw [hr]; decide), il]
      · have hn : l.filter Q = [] := by
          rw [List.filter_eq_nil_iff]
          intro y hy hqy
          exact asy x y (hc.1 y hy) (hd y (List.mem_cons_of_mem _ hy) x List.mem_cons_self hqy hr)
        rw [hn] at il
        rw [List.filter_cons_of_pos (by rw [hx, hq, hr]; rfl), List.filter_cons_of_neg (by rw [hq]; decide), List.filter_cons_of_pos hr, hn, il]; rfl
    · have hr : R x = false := by
        rcases hr : R x with _ | _
        · rfl
        · exact absurd (hd x List.mem_cons_self x List.mem_cons_self hq hr) (irr x)
      rw [List.filter_cons_of_pos (by rw [hx, hq]; rfl), List.filter_cons_of_pos hq, List.filter_cons_of_neg (by rw [hr]; decide), il]; rfl
/-- Those of one prefix. -/
def atT (L : List TE) (a n : Int) : Option TE := L.find? (TE.is a n)
theorem atT_some {L : List TE} {a n : Int} {x : TE} (h : atT L a n = some x) : x ∈ L ∧ x.a = a ∧ x.n = n := by
  have h1 := List.find?_some h
  unfold TE.is at h1
  exact ⟨List.mem_of_find?_eq_some h, (of_decide_eq_true h1).1, (of_decide_eq_true h1).2⟩
theorem TL.eq {L : List TE} (h : TL L) {x y : TE} (hx : x ∈ L) (hy : y ∈ L) (ha : x.a = y.a) (hn : x.n = y.n) : x = y := by
  obtain ⟨h, ho⟩ := h
  clear ho
  induction L with
  | nil => cases hx
  | cons z l ih =>
    have hc := List.pairwise_cons.1 h
    rcases List.mem_cons.1 hx with e1 | hx1
    · rcases List.mem_cons.1 hy with e2 | hy1
      · rw [e1, e2]
      · have := hc.1 y hy1; rw [← e1] at this; unfold TE.lt at this; omega
    · rcases List.mem_cons.1 hy with e2 | hy1
      · have := hc.1 x hx1; rw [← e2] at this; unfold TE.lt at this; omega
      · exact ih hx1 hy1 hc.2
theorem TL.at {L : List TE} (h : TL L) {x : TE} (hx : x ∈ L) : atT L x.a x.n = some x := by
  rcases hc : atT L x.a x.n with _ | y
  · unfold atT at hc
    rw [List.find?_eq_none] at hc
    exact absurd (show TE.is x.a x.n x = true by unfold TE.is; simp) (hc x hx)
  · obtain ⟨hy, ea, en⟩ := atT_some hc
    rw [h.eq hx hy ea.symm en.symm]
theorem atT_none {L : List TE} {a n : Int} (h : atT L a n = none) {x : TE} (hx : x ∈ L) : ¬ (x.a = a ∧ x.n = n) := fun e => by
  unfold atT at h
  rw [List.find?_eq_none] at h
  exact h x hx (by unfold TE.is; simp [e])
theorem TL.tail {x : TE} {L : List TE} (h : TL (x :: L)) : TL L := ⟨(List.pairwise_cons.1 h.sorted).2, fun y hy => h.ok y (List.mem_cons_of_mem _ hy)⟩
theorem filter_is {L : List TE} (h : TL L) (a n : Int) : L.filter (TE.is a n) = (atT L a n).toList := by
  induction L with
  | nil => rfl
  | cons x l ih =>
    rcases hx : TE.is a n x with _ | _
    · rw [List.filter_cons_of_neg (by rw [hx]; decide), ih h.tail]
      unfold atT
      rw [List.find?_cons_of_neg (by rw [hx]; decide)]
    · rw [List.filter_cons_of_pos hx]
      unfold atT
      rw [List.find?_cons_of_pos hx]
      have : l.filter (TE.is a n) = [] := by
        rw [List.filter_eq_nil_iff]
        intro y hy he
        have := (List.pairwise_cons.1 h.sorted).1 y hy
        unfold TE.is at hx he
        have := of_decide_eq_true hx
        have := of_decide_eq_true he
        unfold TE.lt at *
        omega
      rw [this]; rfl
theorem cut3 {L : List TE} (h : TL L) (a n : Int) : L = L.filter (TE.less a n) ++ ((atT L a n).toList ++ L.filter (TE.more a n)) := by
  have h1 := filter_split (P := fun _ => true) (Q := TE.less a n) (R := fun x => TE.is a n x || TE.more a n x) h.sorted
    (fun x _ => by unfold TE.less TE.is TE.more; by_cases h1 : x.a < a ∨ (x.a = a ∧ x.n < n) <;> by_cases h2 : (x.a = a ∧ x.n = n) <;> by_cases h3 : a < x.a ∨ (x.a = a ∧ n < x.n) <;> simp [h1, h2, h3] <;> omega)
    (fun x _ y _ hx hy => by
      unfold TE.less at hx; unfold TE.is TE.more at hy
      have hx := of_decide_eq_true hx
      rw [Bool.or_eq_true, decide_eq_true_eq, decide_eq_true_eq] at hy
      unfold TE.lt; omega)
  have h2 := filter_split (P := fun x => TE.is a n x || TE.more a n x) (Q := TE.is a n) (R := TE.more a n) h.sorted (fun _ _ => rfl)
    (fun x _ y _ hx hy => by
      unfold TE.is at hx; unfold TE.more at hy
      have hx := of_decide_eq_true hx
      have hy := of_decide_eq_true hy
      unfold TE.lt; omega)
  rw [h2, filter_is h] at h1
  exact (List.filter_eq_self.2 (fun _ _ => rfl)).symm.trans h1
/-- A thing more, in place of what its prefix had; a prefix without a thing. -/
def insT (L : List TE) (e : TE) : List TE := L.filter (TE.less e.a e.n) ++ e :: L.filter (TE.more e.a e.n)
def delT (L : List TE) (a n : Int) : List TE := L.filter (TE.less a n) ++ L.filter (TE.more a n)
theorem mem_del {L : List TE} {a n : Int} {x : TE} : x ∈ delT L a n ↔ x ∈ L ∧ ¬ (x.a = a ∧ x.n = n) := by
  unfold delT TE.less TE.more
  rw [List.mem_append, List.mem_filter, List.mem_filter, decide_eq_true_eq, decide_eq_true_eq]
  constructor
  · rintro (⟨h1, h2⟩ | ⟨h1, h2⟩) <;> exact ⟨h1, by omega⟩
  · rintro ⟨h1, h2⟩
    by_cases h : x.a < a ∨ (x.a = a ∧ x.n < n)
    · exact .inl ⟨h1, h⟩
    · exact .inr ⟨h1, by omega⟩
theorem mem_ins {L : List TE} {e x : TE} : x ∈ insT L e ↔ x = e ∨ (x ∈ L ∧ ¬ (x.a = e.a ∧ x.n = e.n)) := by
  rw [← mem_del]
  unfold insT delT
  simp only [List.mem_append, List.mem_cons]
  constructor
  · rintro (h | h | h)
    · exact .inr (.inl h)
    · exact .inl h
    · exact .inr (.inr h)
  · rintro (h | h | h)
    · exact .inr (.inl h)
    · exact .inl h
    · exact .inr (.inr h)
theorem sorted_ins {L : List TE} (h : L.Pairwise TE.lt) (e : TE) : (insT L e).Pairwise TE.lt := by
  unfold insT
  rw [List.pairwise_append]
  refine ⟨h.filter _, ?_, ?_⟩
  · rw [List.pairwise_cons]
    refine ⟨fun y hy => ?_, h.filter _⟩
    rw [List.mem_filter] at hy
    have := of_decide_eq_true hy.2
    unfold TE.lt; omega
  · intro x hx y hy
    rw [List.mem_filter] at hx
    have h1 := of_decide_eq_true hx.2
    rcases List.mem_cons.1 hy with rfl | hy
    · unfold TE.lt; omega
    · rw [List.mem_filter] at hy
      have := of_decide_eq_true hy.2
      unfold TE.lt; omega
theorem sorted_del {L : List TE} (h : L.Pairwise TE.lt) (a n : Int) : (delT L a n).Pairwise TE.lt := by
  unfold delT
  rw [List.pairwise_append]
  refine ⟨h.filter _, h.filter _, ?_⟩
  intro x hx y hy
  rw [List.mem_filter] at hx hy
  have h1 := of_decide_eq_true hx.2
  have := of_decide_eq_true hy.2
  unfold TE.lt; omega
theorem TL.ins {L : List TE} (h : TL L) {e : TE} (he : e.Ok) : TL (insT L e) :=
  ⟨sorted_ins h.sorted e, fun x hx => by exact (mem_ins.1 hx).elim (fun e' => e' ▸ he) (fun h1 => h.ok x h1.1)⟩
theorem TL.del {L : List TE} (h : TL L) (a n : Int) : TL (delT L a n) := ⟨sorted_del h.sorted a n, fun x hx => h.ok x (mem_del.1 hx).1⟩
theorem at_ins_same {L : List TE} (h : TL L) {e : TE} (he : e.Ok) : atT (insT L e) e.a e.n = some e := (h.ins he).at (mem_ins.2 (.inl rfl))
theorem at_ins_other {L : List TE} (h : TL L) {e : TE} (he : e.Ok) {a n : Int} (hne : ¬ (e.a = a ∧ e.n = n)) : atT (insT L e) a n = atT L a n := by
  rcases hc : atT L a n with _ | y
  · rcases hd : atT (insT L e) a n with _ | z
    · rfl
    · obtain ⟨hz, ea, en⟩ := atT_some hd
      rcases mem_ins.1 hz with rfl | h1
      · exact absurd ⟨ea, en⟩ hne
      · exact absurd ⟨ea, en⟩ (atT_none hc h1.1)
  · obtain ⟨hy, rfl, rfl⟩ := atT_some hc
    exact (h.ins he).at (mem_ins.2 (.inr ⟨hy, fun h => hne ⟨h.1.symm, h.2.symm⟩⟩))
theorem at_del_same {L : List TE} (a n : Int) : atT (delT L a n) a n = none := by
  rcases hd : atT (delT L a n) a n with _ | z
  · rfl
  · obtain ⟨hz, ea, en⟩ := atT_some hd
    exact absurd ⟨ea, en⟩ (mem_del.1 hz).2
theorem at_del_other {L : List TE} (h : TL L) {a n b m : Int} (hne : ¬ (b = a ∧ m = n)) : atT (delT L a n) b m = atT L b m := by
  rcases hc : atT L b m with _ | y
  · rcases hd : atT (delT L a n) b m with _ | z
    · rfl
    · obtain ⟨hz, ea, en⟩ := atT_some hd
      exact absurd ⟨ea, en⟩ (atT_none hc (mem_del.1 hz).1)
  · obtain ⟨hy, rfl, rfl⟩ := atT_some hc
    exact (h.del a n).at (mem_del.2 ⟨hy, hne⟩)
theorem len_cut {L : List TE} (h : TL L) (a n : Int) : L.length = (L.filter (TE.less a n)).length + (if (atT L a n).isSome then 1 else 0) + (L.filter (TE.more a n)).length := by
  have := congrArg List.length (cut3 h a n)
  rw [List.length_append, List.length_append] at this
  rcases hc : atT L a n with _ | y <;> rw [hc] at this <;> simp at this ⊢ <;> omega
theorem len_ins {L : List TE} (h : TL L) (e : TE) : (insT L e).length = if (atT L e.a e.n).isSome then L.length else L.length + 1 := by
  have := len_cut h e.a e.n
  unfold insT
  rw [List.length_append, List.length_cons]
  split <;> rename_i hc <;> simp only [hc] at this <;> simp at this <;> omega
theorem len_del {L : List TE} (h : TL L) (a n : Int) : (delT L a n).length = if (atT L a n).isSome then L.length - 1 else L.length := by
  have := len_cut h a n
  unfold delT
  rw [List.length_append]
  split <;> rename_i hc <;> simp only [hc] at this <;> simp at this <;> omega
theorem del_none {L : List TE} (h : TL L) {a n : Int} (hc : atT L a n = none) : delT L a n = L := by
  have := cut3 h a n
  rw [hc] at this
  exact this.symm
end Go.Proofs.Ytlkpalaakncicaa
