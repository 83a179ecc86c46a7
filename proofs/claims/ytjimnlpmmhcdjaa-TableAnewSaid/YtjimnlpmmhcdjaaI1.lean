/- table in numbers: the order of prefixes; detours in order; what is set, goes, is looked for. -/
import Derived.Test.YtjimnlpmmhcdjaaI0
import Derived.Sort.Grow
import Derived.Deep.Draws
namespace Go.Proofs.Ytjimnlpmmhcdjaa
open Go.RowKit Go.Maps Go.Sort
set_option linter.unusedVariables false
set_option linter.unusedSimpArgs false

/-- Nothing but draws and new blocks. -/
def Gr (w w' : World) : Prop := ∃ q os, w' = grow (w.drewN q) os
theorem drewN_drew (w : World) (q : Nat) : w.drew.drewN q = w.drewN (q + 1) := by
  unfold World.drew World.drewN
  simp; omega
theorem drewN_zero (w : World) : w.drewN 0 = w := rfl
theorem Gr.refl (w : World) : Gr w w := ⟨0, #[], by simp [drewN_zero]⟩
theorem Gr.trans {a b c : World} (h : Gr a b) (k : Gr b c) : Gr a c := by
  obtain ⟨q, os, rfl⟩ := h
  obtain ⟨q', os', rfl⟩ := k
  refine ⟨q + q', os ++ os', ?_⟩
  rw [← grow_grow]
  unfold grow World.drewN
  simp [Nat.add_assoc]
theorem Gr.ofAlloc (w : World) (o : Obj) : Gr w (w.alloc o) := ⟨0, #[o], by rw [drewN_zero, alloc_eq_grow]⟩
theorem Gr.ofDrew (w : World) : Gr w w.drew := ⟨1, #[], by rw [grow_empty]; rfl⟩
theorem Gr.alloc {w w' : World} (h : Gr w w') (o : Obj) : Gr w (w'.alloc o) := h.trans (Gr.ofAlloc _ _)
theorem Gr.drew {w w' : World} (h : Gr w w') : Gr w w'.drew := h.trans (Gr.ofDrew _)
theorem Gr.two (w : World) (o1 o2 : Obj) : Gr w ((w.alloc o1).alloc o2) := (Gr.ofAlloc _ _).alloc _
theorem Gr.below {w w' : World} (h : Gr w w') : Below w.heap.size w w' := by
  obtain ⟨q, os, rfl⟩ := h
  refine ⟨rfl, rfl, rfl, by simp [World.drewN], fun k hk => ?_⟩
  show (w.heap ++ os)[k]? = w.heap[k]?
  rw [Array.getElem?_append_left hk]

theorem compare_gr (a n b m : Int) (w : World) :
    Calls Try.prog 35 #[.agg #[.int .u32 a, .int .i64 n], .agg #[.int .u32 b, .int .i64 m]] w fun e w' => e = .returned (.int .i64 (cmpP a n b m)) ∧ Gr w w' := by
  have HW := Lib.hid (Gr.two w (.cells #[.int .u32 a, .int .i64 n] 32) (.cells #[.int .u32 b, .int .i64 m] 32))
  have hg := pfx_eqGuard
  have hq := pfx_eql a n b m
  by_cases h : a = b ∧ n = m
  · have HK := Lib.hid (show cmpP a n b m = 0 by unfold cmpP; rw [if_pos h])
    rw [show (a == b && n == m) = true by simp [h]] at hq
    clear h
    go_enter Try.func35, Try.ntmps35
    go_wp2_with fail
    go_ret
    exact ⟨by rw [HK.out]; rfl, HW.out⟩
  · rw [show (a == b && n == m) = false by
      rw [Bool.and_eq_false_iff]
      by_cases h1 : a = b
      · right; simp; omega
      · left; simpa using h1] at hq
    by_cases h1 : a < b
    · have HK := Lib.hid (show cmpP a n b m = -1 by unfold cmpP; rw [if_neg h, if_pos (Or.inl h1)])
      clear h
      go_enter Try.func35, Try.ntmps35
      go_wp2_with fail
      go_ret
      exact ⟨by rw [HK.out]; rfl, HW.out⟩
    · by_cases h2 : a = b
      · subst h2
        by_cases h3 : n < m
        · have HK := Lib.hid (show cmpP a n a m = -1 by unfold cmpP; rw [if_neg h, if_pos (Or.inr ⟨rfl, h3⟩)])
          clear h
          go_enter Try.func35, Try.ntmps35
          go_wp2_with fail
          go_ret
          exact ⟨by rw [HK.out]; rfl, HW.out⟩
        · have HK := Lib.hid (show cmpP a n a m = 1 by unfold cmpP; rw [if_neg h, if_neg (by omega)])
          clear h
          go_enter Try.func35, Try.ntmps35
          go_wp2_with fail
          go_ret
          exact ⟨by rw [HK.out]; rfl, HW.out⟩
      · have HK := Lib.hid (show cmpP a n b m = 1 by unfold cmpP; rw [if_neg h, if_neg (by omega)])
        have h2' : (a == b) = false := by simpa using h2
        clear h h2
        go_enter Try.func35, Try.ntmps35
        go_wp2_with fail
        go_ret
        exact ⟨by rw [HK.out]; rfl, HW.out⟩

/-- The order, without branches. -/
def cmpPf (x y : Pf) : Int := cmpP x.a x.n y.a y.n
def ltN (x y : Pf) : Prop := x.a < y.a ∨ x.a = y.a ∧ x.n < y.n
theorem cmpN_lt (x y : Pf) : cmpPf x y < 0 ↔ ltN x y := by
  obtain ⟨a, n⟩ := x
  obtain ⟨b, m⟩ := y
  unfold cmpPf cmpP ltN
  simp only
  by_cases h1 : a = b ∧ n = m
  · rw [if_pos h1]; omega
  · rw [if_neg h1]
    by_cases h2 : a < b ∨ a = b ∧ n < m
    · rw [if_pos h2]; omega
    · rw [if_neg h2]; omega
theorem ltN_irrefl (x : Pf) : ¬ ltN x x := by unfold ltN; omega
theorem ltN_trans {x y z : Pf} (h : ltN x y) (k : ltN y z) : ltN x z := by unfold ltN at *; omega
theorem ltN_total (x y : Pf) : ltN x y ∨ x = y ∨ ltN y x := by
  obtain ⟨a, n⟩ := x
  obtain ⟨b, m⟩ := y
  unfold ltN
  simp only [Pf.mk.injEq]
  omega
/-- In order, each once. -/
def Srt (ss : List Pf) : Prop := ss.Pairwise ltN
/-- There is one such list. -/
theorem Srt.unique : ∀ {ss ts : List Pf}, Srt ss → Srt ts → (∀ x, x ∈ ss ↔ x ∈ ts) → ss = ts
  | [], [], _, _, _ => rfl
  | [], y :: t, _, _, h => by have := (h y).2 (by simp); simp at this
  | x :: s, [], _, _, h => by have := (h x).1 (by simp); simp at this
  | x :: s, y :: t, h1, h2, h => by
    obtain ⟨a1, a2⟩ := List.pairwise_cons.1 h1
    obtain ⟨b1, b2⟩ := List.pairwise_cons.1 h2
    have hxy : x = y := by
      rcases List.mem_cons.1 ((h x).1 (by simp)) with e | hx
      · exact e
      · rcases List.mem_cons.1 ((h y).2 (by simp)) with e | hy
        · exact e.symm
        · exact absurd (ltN_trans (a1 y hy) (b1 x hx)) (ltN_irrefl _)
    subst hxy
    rw [Srt.unique a2 b2 fun z => ?_]
    constructor
    · intro hz
      rcases List.mem_cons.1 ((h z).1 (by simp [hz])) with e | h'
      · subst e; exact absurd (a1 z hz) (ltN_irrefl _)
      · exact h'
    · intro hz
      rcases List.mem_cons.1 ((h z).2 (by simp [hz])) with e | h'
      · subst e; exact absurd (b1 z hz) (ltN_irrefl _)
      · exact h'
instance (x y : Pf) : Decidable (ltN x y) := by unfold ltN; infer_instance
theorem ltN_asymm {x y : Pf} (h : ltN x y) : ¬ ltN y x := fun k => ltN_irrefl _ (ltN_trans h k)
theorem ltN_ne {x y : Pf} (h : ltN x y) : x ≠ y := fun e => by subst e; exact ltN_irrefl _ h
/-- Detours in order. -/
def SrtD (L : List Dt) : Prop := L.Pairwise (fun x y => ltN x.p y.p)
theorem SrtD.nil : SrtD [] := List.Pairwise.nil
theorem SrtD.filter {L : List Dt} (h : SrtD L) (q : Dt → Bool) : SrtD (L.filter q) := List.Pairwise.filter q h
theorem SrtD.nodup {L : List Dt} (h : SrtD L) : L.Nodup := by
  induction L with
  | nil => exact List.nodup_nil
  | cons a t ih =>
    obtain ⟨h1, h2⟩ := List.pairwise_cons.1 h
    exact List.nodup_cons.2 ⟨fun hm => ltN_irrefl _ (h1 a hm), ih h2⟩
theorem SrtD.inj {L : List Dt} (h : SrtD L) {x y : Dt} (hx : x ∈ L) (hy : y ∈ L) (e : x.p = y.p) : x = y := by
  induction L with
  | nil => cases hx
  | cons a t ih =>
    obtain ⟨h1, h2⟩ := List.pairwise_cons.1 h
    rcases List.mem_cons.1 hx with rfl | hx' <;> rcases List.mem_cons.1 hy with rfl | hy'
    · rfl
    · exact absurd e (ltN_ne (h1 _ hy'))
    · exact absurd e.symm (ltN_ne (h1 _ hx'))
    · exact ih h2 hx' hy'
theorem SrtD.unique : ∀ {ss ts : List Dt}, SrtD ss → SrtD ts → (∀ x, x ∈ ss ↔ x ∈ ts) → ss = ts
  | [], [], _, _, _ => rfl
  | [], y :: t, _, _, h => by have := (h y).2 (by simp); simp at this
  | x :: s, [], _, _, h => by have := (h x).1 (by simp); simp at this
  | x :: s, y :: t, h1, h2, h => by
    obtain ⟨a1, a2⟩ := List.pairwise_cons.1 h1
    obtain ⟨b1, b2⟩ := List.pairwise_cons.1 h2
    have hxy : x = y := by
      rcases List.mem_cons.1 ((h x).1 (by simp)) with e | hx
      · exact e
      · rcases List.mem_cons.1 ((h y).2 (by simp)) with e | hy
        · exact e.symm
        · exact absurd (ltN_trans (a1 y hy) (b1 x hx)) (ltN_irrefl _)
    subst hxy
    rw [SrtD.unique a2 b2 fun z => ?_]
    constructor
    · intro hz
      rcases List.mem_cons.1 ((h z).1 (by simp [hz])) with e | h'
      · subst e; exact absurd (a1 z hz) (ltN_irrefl _)
      · exact h'
    · intro hz
      rcases List.mem_cons.1 ((h z).2 (by simp [hz])) with e | h'
      · subst e; exact absurd (b1 z hz) (ltN_irrefl _)
      · exact h'
/-- That of a prefix. -/
def lookD (L : List Dt) (p : Pf) : Option Dt := L.find? (fun x => decide (x.p = p))
theorem lookD_in {L : List Dt} {p : Pf} {x : Dt} (h : lookD L p = some x) : x ∈ L ∧ x.p = p :=
  ⟨List.mem_of_find?_eq_some h, by simpa using List.find?_some h⟩
theorem lookD_mem {L : List Dt} (h : SrtD L) {x : Dt} (hx : x ∈ L) : lookD L x.p = some x := by
  rcases hl : lookD L x.p with _ | y
  · unfold lookD at hl
    rw [List.find?_eq_none] at hl
    exact absurd (hl x hx) (by simp)
  · obtain ⟨h1, h2⟩ := lookD_in hl
    rw [h.inj h1 hx h2]
theorem lookD_iff {L : List Dt} (h : SrtD L) (p : Pf) (x : Dt) : lookD L p = some x ↔ x ∈ L ∧ x.p = p :=
  ⟨lookD_in, fun ⟨h1, h2⟩ => h2 ▸ lookD_mem h h1⟩
theorem lookD_none {L : List Dt} {p : Pf} : lookD L p = none ↔ ∀ x ∈ L, x.p ≠ p := by
  unfold lookD
  rw [List.find?_eq_none]
  simp
theorem lookD_isSome {L : List Dt} {p : Pf} : (lookD L p).isSome = true ↔ ∃ x ∈ L, x.p = p := by
  rcases h : lookD L p with _ | y
  · simp only [Option.isSome_none, Bool.false_eq_true, false_iff]
    rintro ⟨x, hx, e⟩
    exact lookD_none.1 h x hx e
  · simp only [Option.isSome_some, true_iff]
    exact ⟨y, lookD_in h⟩
theorem opt_ext {α : Type} {a b : Option α} (h : ∀ x, a = some x ↔ b = some x) : a = b := by
  rcases a with _ | a
  · rcases b with _ | b
    · rfl
    · exact absurd ((h b).2 rfl) (by simp)
  · exact ((h a).1 rfl).symm
/-- One is set; one goes; those whose time is over, and the others. -/
def setD (o : Dt) (L : List Dt) : List Dt := L.filter (fun y => decide (ltN y.p o.p)) ++ o :: L.filter (fun y => decide (ltN o.p y.p))
def delD (p : Pf) (L : List Dt) : List Dt := L.filter (fun y => !decide (y.p = p))
def overD (now : Int) (L : List Dt) : List Dt := L.filter (fun y => decide (y.u < now))
def leftD (now : Int) (L : List Dt) : List Dt := L.filter (fun y => !decide (y.u < now))
theorem mem_setD (o : Dt) (L : List Dt) (x : Dt) : x ∈ setD o L ↔ x = o ∨ (x ∈ L ∧ x.p ≠ o.p) := by
  unfold setD
  simp only [List.mem_append, List.mem_cons, List.mem_filter, decide_eq_true_eq]
  constructor
  · rintro (⟨h1, h2⟩ | h | ⟨h1, h2⟩)
    · exact .inr ⟨h1, ltN_ne h2⟩
    · exact .inl h
    · exact .inr ⟨h1, fun e => ltN_ne h2 e.symm⟩
  · rintro (h | ⟨h1, h2⟩)
    · exact .inr (.inl h)
    · rcases ltN_total x.p o.p with e | e | e
      · exact .inl ⟨h1, e⟩
      · exact absurd e h2
      · exact .inr (.inr ⟨h1, e⟩)
theorem setD_srt {L : List Dt} (h : SrtD L) (o : Dt) : SrtD (setD o L) := by
  unfold setD SrtD
  rw [List.pairwise_append]
  refine ⟨h.filter _, List.pairwise_cons.2 ⟨fun y hy => by simpa using (List.mem_filter.1 hy).2, h.filter _⟩, fun x hx y hy => ?_⟩
  have h1 : ltN x.p o.p := by simpa using (List.mem_filter.1 hx).2
  rcases List.mem_cons.1 hy with rfl | hy
  · exact h1
  · exact ltN_trans h1 (by simpa using (List.mem_filter.1 hy).2)
theorem look_setD {L : List Dt} (h : SrtD L) (o : Dt) (p : Pf) : lookD (setD o L) p = if p = o.p then some o else lookD L p := by
  refine opt_ext fun x => ?_
  rw [lookD_iff (setD_srt h o), mem_setD]
  by_cases e : p = o.p
  · subst e
    rw [if_pos rfl]
    constructor
    · rintro ⟨rfl | ⟨_, h2⟩, h3⟩
      · rfl
      · exact absurd h3 h2
    · intro hx
      cases hx
      exact ⟨.inl rfl, rfl⟩
  · rw [if_neg e, lookD_iff h]
    constructor
    · rintro ⟨rfl | ⟨h1, _⟩, h3⟩
      · exact absurd h3.symm e
      · exact ⟨h1, h3⟩
    · rintro ⟨h1, rfl⟩
      exact ⟨.inr ⟨h1, e⟩, rfl⟩
theorem delD_srt {L : List Dt} (h : SrtD L) (p : Pf) : SrtD (delD p L) := h.filter _
theorem mem_delD (p : Pf) (L : List Dt) (x : Dt) : x ∈ delD p L ↔ x ∈ L ∧ x.p ≠ p := by unfold delD; simp
theorem look_delD {L : List Dt} (h : SrtD L) (p q : Pf) : lookD (delD p L) q = if q = p then none else lookD L q := by
  refine opt_ext fun x => ?_
  rw [lookD_iff (delD_srt h p), mem_delD]
  by_cases e : q = p
  · subst e
    rw [if_pos rfl]
    constructor
    · rintro ⟨⟨_, h2⟩, h3⟩; exact absurd h3 h2
    · intro hx; cases hx
  · rw [if_neg e, lookD_iff h]
    constructor
    · rintro ⟨⟨h1, _⟩, h3⟩; exact ⟨h1, h3⟩
    · rintro ⟨h1, rfl⟩; exact ⟨⟨h1, e⟩, rfl⟩
theorem cut3 (p : Pf) : ∀ (L : List Dt), L.length = (L.filter (fun y => decide (ltN y.p p))).length + (L.filter (fun y => decide (y.p = p))).length + (L.filter (fun y => decide (ltN p y.p))).length
  | [] => rfl
  | x :: t => by
    have ih := cut3 p t
    rcases ltN_total x.p p with e | e | e
    · have e1 : decide (ltN x.p p) = true := decide_eq_true e
      have e2 : decide (x.p = p) = false := decide_eq_false (ltN_ne e)
      have e3 : decide (ltN p x.p) = false := decide_eq_false (ltN_asymm e)
      simp only [List.filter_cons, e1, e2, e3, if_true, Bool.false_eq_true, if_false, List.length_cons]; omega
    · have e1 : decide (ltN x.p p) = false := decide_eq_false (e ▸ ltN_irrefl _)
      have e2 : decide (x.p = p) = true := decide_eq_true e
      have e3 : decide (ltN p x.p) = false := decide_eq_false (e ▸ ltN_irrefl _)
      simp only [List.filter_cons, e1, e2, e3, if_true, Bool.false_eq_true, if_false, List.length_cons]; omega
    · have e1 : decide (ltN x.p p) = false := decide_eq_false (ltN_asymm e)
      have e2 : decide (x.p = p) = false := decide_eq_false (fun h => ltN_ne e h.symm)
      have e3 : decide (ltN p x.p) = true := decide_eq_true e
      simp only [List.filter_cons, e1, e2, e3, if_true, Bool.false_eq_true, if_false, List.length_cons]; omega
theorem eqs_len {L : List Dt} (h : SrtD L) (p : Pf) : (L.filter (fun y => decide (y.p = p))).length = if (lookD L p).isSome then 1 else 0 := by
  rcases hl : lookD L p with _ | x
  · rw [List.filter_eq_nil_iff.2 (fun y hy => by simpa using lookD_none.1 hl y hy)]; rfl
  · have : L.filter (fun y => decide (y.p = p)) = [x] := by
      obtain ⟨h1, h2⟩ := lookD_in hl
      refine SrtD.unique (h.filter _) (List.pairwise_singleton _ _) fun y => ?_
      simp only [List.mem_filter, decide_eq_true_eq, List.mem_singleton]
      constructor
      · rintro ⟨h3, h4⟩; exact h.inj h3 h1 (h4.trans h2.symm)
      · rintro rfl; exact ⟨h1, h2⟩
    rw [this]; rfl
theorem setD_len {L : List Dt} (h : SrtD L) (o : Dt) : (setD o L).length = if (lookD L o.p).isSome then L.length else L.length + 1 := by
  have h1 := cut3 o.p L
  have h2 := eqs_len h o.p
  have h3 : (setD o L).length = (L.filter (fun y => decide (ltN y.p o.p))).length + (L.filter (fun y => decide (ltN o.p y.p))).length + 1 := by unfold setD; simp; omega
  rw [h3]
  by_cases e : (lookD L o.p).isSome = true
  · rw [if_pos e] at h2 ⊢; omega
  · rw [if_neg e] at h2 ⊢; omega
theorem cut2 (q : Dt → Bool) : ∀ (L : List Dt), L.length = (L.filter q).length + (L.filter (fun y => !q y)).length
  | [] => rfl
  | x :: t => by
    have ih := cut2 q t
    rcases hq : q x with _ | _
    · simp only [List.filter_cons, hq, Bool.not_false, if_true, Bool.false_eq_true, if_false, List.length_cons]; omega
    · simp only [List.filter_cons, hq, Bool.not_true, if_true, Bool.false_eq_true, if_false, List.length_cons]; omega
theorem delD_len {L : List Dt} (h : SrtD L) (p : Pf) : (delD p L).length + (if (lookD L p).isSome then 1 else 0) = L.length := by
  have h1 := cut2 (fun y => decide (y.p = p)) L
  have h2 := eqs_len h p
  unfold delD
  omega
/-- Where a prefix stands, or would. -/
def placeD (p : Pf) (L : List Dt) : Nat := (L.takeWhile (fun y => decide (ltN y.p p))).length
theorem takeWhile_lt {L : List Dt} (h : SrtD L) (p : Pf) : L.takeWhile (fun y => decide (ltN y.p p)) = L.filter (fun y => decide (ltN y.p p)) := by
  induction L with
  | nil => rfl
  | cons a t ih =>
    obtain ⟨h1, h2⟩ := List.pairwise_cons.1 h
    by_cases e : ltN a.p p
    · simp only [List.takeWhile_cons, List.filter_cons, decide_eq_true e, if_true, ih h2]
    · simp only [List.takeWhile_cons, List.filter_cons, decide_eq_false e, Bool.false_eq_true, if_false]
      symm
      rw [List.filter_eq_nil_iff]
      intro y hy
      simp only [decide_eq_true_eq]
      exact fun k => e (ltN_trans (h1 y hy) k)
theorem take_place {L : List Dt} (h : SrtD L) (p : Pf) : L.take (placeD p L) = L.filter (fun y => decide (ltN y.p p)) := by
  rw [← takeWhile_lt h]
  unfold placeD
  conv => lhs; rw [← List.takeWhile_append_dropWhile (p := fun y => decide (ltN y.p p)) (l := L)]
  rw [List.takeWhile_append_dropWhile]
  have := List.take_left (l₁ := L.takeWhile (fun y => decide (ltN y.p p))) (l₂ := L.dropWhile (fun y => decide (ltN y.p p)))
  rw [List.takeWhile_append_dropWhile] at this
  exact this
theorem drop_place {L : List Dt} (h : SrtD L) (p : Pf) : L.drop (placeD p L) = L.filter (fun y => !decide (ltN y.p p)) := by
  have h0 : L.drop (placeD p L) = L.dropWhile (fun y => decide (ltN y.p p)) := by
    unfold placeD
    have := List.drop_left (l₁ := L.takeWhile (fun y => decide (ltN y.p p))) (l₂ := L.dropWhile (fun y => decide (ltN y.p p)))
    rw [List.takeWhile_append_dropWhile] at this
    exact this
  rw [h0]
  clear h0
  induction L with
  | nil => rfl
  | cons a t ih =>
    obtain ⟨h1, h2⟩ := List.pairwise_cons.1 h
    by_cases e : ltN a.p p
    · simp only [List.dropWhile_cons, List.filter_cons, decide_eq_true e, if_true, Bool.not_true, Bool.false_eq_true, if_false, ih h2]
    · simp only [List.dropWhile_cons, List.filter_cons, decide_eq_false e, Bool.false_eq_true, if_false, Bool.not_false, if_true]
      rw [List.filter_eq_self.2]
      intro y hy
      simp only [Bool.not_eq_true', decide_eq_false_iff_not]
      exact fun k => e (ltN_trans (h1 y hy) k)
theorem place_le (p : Pf) (L : List Dt) : placeD p L ≤ L.length := by unfold placeD; exact List.Sublist.length_le (List.takeWhile_sublist _)
/-- The one at that place. -/
theorem at_place {L : List Dt} (h : SrtD L) (p : Pf) : (lookD L p).isSome = (decide (placeD p L < L.length) && decide ((L.getD (placeD p L) Dt.zero).p = p)) := by
  rw [Bool.eq_iff_iff, lookD_isSome, Bool.and_eq_true, decide_eq_true_eq, decide_eq_true_eq]
  have hd := drop_place h p
  constructor
  · rintro ⟨x, hx, rfl⟩
    have hm : x ∈ L.drop (placeD x.p L) := by rw [hd]; simp [hx, ltN_irrefl]
    have hlt : placeD x.p L < L.length := by
      rcases Nat.lt_or_ge (placeD x.p L) L.length with h | h
      · exact h
      · rw [List.drop_eq_nil_of_le h] at hm; cases hm
    refine ⟨hlt, ?_⟩
    have hc := List.drop_eq_getElem_cons hlt
    have hs : SrtD (L.drop (placeD x.p L)) := List.Pairwise.drop h
    have hg : L.getD (placeD x.p L) Dt.zero = L[placeD x.p L] := by simp [List.getD, hlt]
    rw [hg]
    rw [hc] at hm hs
    have hin : L[placeD x.p L] ∈ L.drop (placeD x.p L) := by rw [hc]; exact List.mem_cons_self
    rw [hd] at hin
    have hnl : ¬ ltN (L[placeD x.p L]).p x.p := by simpa using (List.mem_filter.1 hin).2
    rcases List.mem_cons.1 hm with e | hm
    · rw [← e]
    · exact absurd ((List.pairwise_cons.1 hs).1 x hm) hnl
  · rintro ⟨hlt, e⟩
    have hg : L.getD (placeD p L) Dt.zero = L[placeD p L] := by simp [List.getD, hlt]
    exact ⟨L[placeD p L], by simp, by rw [← hg]; exact e⟩
theorem look_place {L : List Dt} (h : SrtD L) (p : Pf) (hs : (lookD L p).isSome = true) : lookD L p = some (L.getD (placeD p L) Dt.zero) ∧ placeD p L < L.length := by
  rw [at_place h, Bool.and_eq_true, decide_eq_true_eq, decide_eq_true_eq] at hs
  obtain ⟨hlt, e⟩ := hs
  have hg : L.getD (placeD p L) Dt.zero = L[placeD p L] := by simp [List.getD, hlt]
  refine ⟨(lookD_iff h _ _).2 ⟨by rw [hg]; simp, e⟩, hlt⟩
/-- Behind that place. -/
theorem drop_at {L : List Dt} (h : SrtD L) (p : Pf) : L.drop (placeD p L + if (lookD L p).isSome then 1 else 0) = L.filter (fun y => decide (ltN p y.p)) := by
  have hd := drop_place h p
  have key : ∀ M : List Dt, SrtD M → (∀ x, x ∈ M ↔ x ∈ L ∧ ltN p x.p) → M = L.filter (fun y => decide (ltN p y.p)) := fun M hM hx => SrtD.unique hM (h.filter _) fun x => by rw [hx, List.mem_filter, decide_eq_true_eq]
  by_cases hs : (lookD L p).isSome = true
  · rw [if_pos hs]
    obtain ⟨hl, hlt⟩ := look_place h p hs
    obtain ⟨hin, he⟩ := lookD_in hl
    have hc := List.drop_eq_getElem_cons hlt
    have hg : L.getD (placeD p L) Dt.zero = L[placeD p L] := by simp [List.getD, hlt]
    rw [hg] at he
    have hsr : SrtD (L[placeD p L] :: L.drop (placeD p L + 1)) := by rw [← hc]; exact List.Pairwise.drop h
    obtain ⟨g1, g2⟩ := List.pairwise_cons.1 hsr
    refine key _ g2 fun x => ?_
    constructor
    · intro hx
      exact ⟨List.mem_of_mem_drop hx, he ▸ g1 x hx⟩
    · rintro ⟨h1, h2⟩
      have : x ∈ L.drop (placeD p L) := by rw [hd]; simp [h1, ltN_asymm h2]
      rw [hc] at this
      rcases List.mem_cons.1 this with rfl | hx
      · exact absurd (he ▸ h2) (ltN_irrefl _)
      · exact hx
  · rw [if_neg hs, Nat.add_zero]
    refine key _ (List.Pairwise.drop h) fun x => ?_
    rw [hd, List.mem_filter]
    simp only [Bool.not_eq_true', decide_eq_false_iff_not]
    constructor
    · rintro ⟨h1, h2⟩
      refine ⟨h1, ?_⟩
      rcases ltN_total x.p p with e | e | e
      · exact absurd e h2
      · exact absurd (lookD_isSome.2 ⟨x, h1, e⟩) hs
      · exact e
    · rintro ⟨h1, h2⟩; exact ⟨h1, ltN_asymm h2⟩
/-- .. so one is set, or goes, by places. -/
theorem setD_place {L : List Dt} (h : SrtD L) (o : Dt) : setD o L = L.take (placeD o.p L) ++ o :: L.drop (placeD o.p L + if (lookD L o.p).isSome then 1 else 0) := by
  rw [take_place h, drop_at h]; rfl
theorem delD_place {L : List Dt} (h : SrtD L) (p : Pf) (hs : (lookD L p).isSome = true) : delD p L = L.take (placeD p L) ++ L.drop (placeD p L + 1) := by
  have hd := drop_at h p
  rw [if_pos hs] at hd
  rw [take_place h, hd]
  refine SrtD.unique (delD_srt h p) ?_ fun x => ?_
  · unfold SrtD
    rw [List.pairwise_append]
    refine ⟨h.filter _, h.filter _, fun x hx y hy => ltN_trans (by simpa using (List.mem_filter.1 hx).2) (by simpa using (List.mem_filter.1 hy).2)⟩
  · rw [mem_delD, List.mem_append, List.mem_filter, List.mem_filter, decide_eq_true_eq, decide_eq_true_eq]
    constructor
    · rintro ⟨h1, h2⟩
      rcases ltN_total x.p p with e | e | e
      · exact .inl ⟨h1, e⟩
      · exact absurd e h2
      · exact .inr ⟨h1, e⟩
    · rintro (⟨h1, h2⟩ | ⟨h1, h2⟩)
      · exact ⟨h1, ltN_ne h2⟩
      · exact ⟨h1, fun e => ltN_ne h2 e.symm⟩
theorem delD_none {L : List Dt} {p : Pf} (hs : (lookD L p).isSome = false) : delD p L = L := by
  have : lookD L p = none := by rcases h : lookD L p with _ | x; rfl; rw [h] at hs; cases hs
  unfold delD
  rw [List.filter_eq_self]
  intro y hy
  simpa using lookD_none.1 this y hy
end Go.Proofs.Ytjimnlpmmhcdjaa
