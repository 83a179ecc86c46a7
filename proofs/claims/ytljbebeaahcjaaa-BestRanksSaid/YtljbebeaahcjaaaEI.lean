/- attributes whose lists may be of any length that memory bears: copies (own.Attrs). -/
import Derived.Test.YtljbebeaahcjaaaJ2
import Derived.Test.YtljbebeaahcjaaaA0
namespace Go.Proofs.Ytljbebeaahcjaaa
open Go.RowKit Go.Maps
set_option linter.unusedVariables false
set_option linter.unusedSimpArgs false
set_option maxRecDepth 100000

section
variable {st et : TypeId} {α : Type} {c : α → List Value} {ok : α → Prop} {zero : α} {zv : Value} {sz by_ : Nat}
/-- append of any such list, as long as memory bears it. -/
theorem run_appB (C : RowC st et c ok zero zv sz by_) (w : World) (ty : TypeId) (B : Nat) (q : Option Addr) (n cap : Nat) (l : List α) (h : LOwn et c ok sz w B q n cap l) (p : Option Addr) (c' m : Nat) (ys : List α) (hy : LAt c ok zero sz w p ys) (hm : ys.length = m) (h47 : (n + m) * by_ ≤ 140737488355328) (hml : n + m ≤ maxLen) (hB : B ≤ w.heap.size) :
    ∃ q' cap' w', (Builtin.append_ #[st, st] ty #[.slice q n cap, .slice p m c']).run Try.prog w = .ok (.slice q' (n + m) cap') w' ∧ LOwn et c ok sz w' B q' (n + m) cap' (l ++ ys) ∧ Below B w w' := by
  obtain ⟨i0, hi, hz0, hz1, hz2⟩ := info_partsL C.info
  rcases Nat.eq_zero_or_pos m with h0 | h0
  · subst h0
    obtain rfl : ys = [] := List.eq_nil_of_length_eq_zero hm
    have hsrc : Src Try.prog i0.size st (.slice p 0 c') 0 [] w := by
      rcases p with _ | a
      · exact Src.ofNil w C.under c'
      · exact Src.ofSlice w C.under a 0 c' [] (by simp) (fun j u hj => by simp at hj) (fun u hu => by simp at hu)
    refine ⟨q, cap, w, run_append_nothing w st st ty et i0 C.under hi q n cap h.cap_.1 _ hsrc, ?_, Below.refl _ _⟩
    rw [List.append_nil]; exact h
  · obtain ⟨b, off, rfl, hcell⟩ := hy.src C hm h0
    obtain ⟨v', w', hr, h2, h3, _⟩ := run_append_own (P := Try.prog) w B st ty et i0 zv sz by_ C.under hi hz0 hz1 hz2 C.zs C.pos _ n _ h.row ⟨b, off, none⟩ m c' (cellsL c ys) (by rw [cellsL_len C, hm]) hcell (fun u hu => by
      unfold cellsL at hu
      obtain ⟨x, _, hx⟩ := List.mem_flatMap.1 hu
      exact C.one x u hx) hml h47 hB
    obtain ⟨q', cap', rfl, _, _⟩ := rowL_form h2
    refine ⟨q', cap', w', hr, ⟨by rw [List.length_append, h.len, hm], fun x hx => (List.mem_append.1 hx).elim (h.ok x) (hy.ok x), ?_⟩, ?_⟩
    · unfold cellsL at *
      rw [List.flatMap_append]
      exact h2
    · refine (Below.refl B w).grown h3 hB fun k hk => ?_
      rcases h.row.2 with ⟨hv, _⟩ | ⟨g', cap2, cur, hv, hB2, _⟩
      · rw [hv] at hk; cases hk
      · rw [hv] at hk
        have : g' = k := by simpa [Value.ownBlock] using hk
        omega
theorem wpList_appB (C : RowC st et c ok zero zv sz by_) {ops : Array Oper} {rest : List Oper} {o : Oper} {a : Act} {w : World} {Q : Exit → Act → World → Prop} (hw : Region.wanted o (yielded ops a.tmps) = true) (s x : Operand)
    (ho : o.op = .call { callee := .builtin .append, args := #[s, x], argTypes := #[st, st] })
    (B : Nat) (q : Option Addr) (n cap : Nat) (l : List α) (hown : LOwn et c ok sz w B q n cap l) (hs : a.eval s = .slice q n cap)
    (p : Option Addr) (m c' : Nat) (ys : List α) (hy : LAt c ok zero sz w p ys) (hm : ys.length = m) (hx : a.eval x = .slice p m c') (t : Nat) (ht : n + m = t) (h47 : t * by_ ≤ 140737488355328) (hml : t ≤ maxLen) (hB : B ≤ w.heap.size)
    (h : ∀ q' cap' w', Hid (LOwn et c ok sz w' B q' t cap' (l ++ ys)) → Hid (Below B w w') → wpList Try.prog ops Q rest (a.put o.dst (.slice q' t cap')) w') :
    wpList Try.prog ops Q (o :: rest) a w :=
  wpList_step fun K hK => by
    rw [if_pos hw]
    subst ht
    obtain ⟨q', cap', w', hr, h2, h3⟩ := run_appB C w o.type B q n cap l hown p c' m ys hy hm h47 hml hB
    unfold Oper.wp execOp
    simp only [ho, resolve, invoke, builtin, Sem.run_bind, Sem.run_pure, Result.andThen_ok, List.map_toArray, List.map_cons, List.map_nil, hs, hx, hr]
    exact hK _ _ (h q' cap' w' (Lib.hid h2) (Lib.hid h3))
end
theorem own_nil {α : Type} {et : TypeId} {c : α → List Value} {ok : α → Prop} {sz : Nat} {w : World} {B : Nat} {q : Option Addr} {n cap : Nat} {l : List α} (h : LOwn et c ok sz w B q n cap l) (e : q = none) : n = 0 ∧ cap = 0 := by
  subst e
  rcases h.row.2 with ⟨hv, h0⟩ | ⟨g, c', cur, hv, hB, _⟩
  · simp only [Value.slice.injEq] at hv
    exact ⟨h0, hv.2.2⟩
  · simp at hv
/-- A segment: its cells, and its numbers. -/
structure Sg where
  intro ::
  set : Bool
  q : Option Addr
  n : Nat
  c : Nat
  A : List Int
def Sg.zero : Sg := ⟨false, none, 0, 0, []⟩
def sgC (x : Sg) : List Value := [.bool x.set, .slice x.q x.n x.c]
/-- A slice that memory bears. -/
structure SlOk (q : Option Addr) (n c by_ : Nat) : Prop where
  intro ::
  le : n ≤ c
  max : c ≤ maxLen
  fits : n * by_ ≤ 140737488355328
  nil : q = none → n = 0 ∧ c = 0
def InSg (x : Sg) : Prop := x.A.length = x.n ∧ SlOk x.q x.n x.c 8
def sgK (x : Sg) : Seg := ⟨x.set, x.A⟩
theorem rowSg : RowC 30 42 sgC InSg Sg.zero (.agg #[.bool false, .slice none 0 0]) 2 32 where
  len x := rfl
  pos := by omega
  zs := rfl
  byl := by omega
  info := by kernel_rfl
  under := Try.underlying30
  elem := by kernel_rfl
  size w := by kernel_rfl
  one x u hu := by
    simp [sgC] at hu
    rcases hu with rfl | rfl <;> rfl
abbrev IsAt (w : World) (p : Option Addr) (l : List Int) : Prop := LAt inC InI 0 1 w p l
structure SgsAt (w : World) (p : Option Addr) (L : List Sg) : Prop where
  intro ::
  at_ : LAt sgC InSg Sg.zero 2 w p L
  nums : ∀ x ∈ L, IsAt w x.q x.A
theorem SgsAt.below {w w' : World} {p : Option Addr} {L : List Sg} (h : SgsAt w p L) (hb : Below w.heap.size w w') : SgsAt w' p L := ⟨h.at_.below hb, fun x hx => (h.nums x hx).below hb⟩
theorem ints_of {w : World} {p : Option Addr} {l : List Int} (h : IsAt w p l) : IntsAt w p l := by
  rcases h.cells with e | ⟨b, off, hp, hc⟩
  · exact .inl e
  · refine .inr ⟨b, off, hp, fun i hi => ?_⟩
    have := hc i hi 0 _ rfl
    rwa [Nat.mul_one] at this
theorem segs_of {w : World} {p : Option Addr} {L : List Sg} (h : SgsAt w p L) : SegsAt w p (L.map sgK) := by
  rcases h.at_.cells with e | ⟨b, off, hp, hc⟩
  · subst e; exact .inl rfl
  · refine .inr ⟨b, off, hp, fun i hi => ?_⟩
    rw [List.length_map] at hi
    have hx : L.getD i Sg.zero ∈ L := by simp [List.getD, hi]
    obtain ⟨h1, h2⟩ := h.at_.ok _ hx
    have e : (L.map sgK).getD i Seg.none = sgK (L.getD i Sg.zero) := by simp [List.getD, hi]
    rw [e]
    refine ⟨hc i hi 0 _ rfl, _, _, _, hc i hi 1 _ rfl, h1, h2.le, h2.max, ints_of (h.nums _ hx)⟩
theorem segs_eq_any (a : Addr) (n c : Nat) (w : World) : (binOp .eql 30 (.slice (some a) n c) (.slice none 0 0)).run Try.prog w = .ok (.bool false) w := by kernel_rfl
theorem ints_eq_any (a : Addr) (n c : Nat) (w : World) : (binOp .eql 31 (.slice (some a) n c) (.slice none 0 0)).run Try.prog w = .ok (.bool false) w := by kernel_rfl
/-- slices.Clone. -/
theorem clone_ints (w : World) (p : Option Addr) (l : List Int) (n c : Nat) (h : IsAt w p l) (hn : l.length = n) (hs : SlOk p n c 8) :
    Calls Try.prog 70 #[.slice p n c] w fun e w' => ∃ q c', e = .returned (.slice q n c') ∧ IsAt w' q l ∧ SlOk q n c' 8 ∧ (∀ b off, q = some ⟨b, off, none⟩ → w.heap.size ≤ b) ∧ Below w.heap.size w w' := by
  rcases p with _ | a
  · obtain ⟨rfl, rfl⟩ := hs.nil rfl
    obtain rfl : l = [] := List.eq_nil_of_length_eq_zero hn
    refine (clone_nil2 w).mono ?_
    rintro e w' ⟨rfl, rfl⟩
    exact ⟨none, 0, rfl, h, hs, fun b off e => (by cases e), Below.refl _ _⟩
  · have hq := ints_eq_any a n c w
    have HH := Lib.hid (h.below (newB w (.cells #[] 3)))
    have OL := Lib.hid (show LOwn 3 inC InI 1 (w.alloc (.cells #[] 3)) w.heap.size (some ⟨w.heap.size, 0, none⟩) 0 0 [] from LOwn.lit rowIn w w.heap.size [] (fun x hx => by simp at hx) (Nat.le_refl _) (Nat.zero_le _))
    have HN := Lib.hid hn
    have HS := Lib.hid hs
    have HZ := Lib.hid (newB w (.cells #[] 3))
    clear h hn hs
    go_enter Try.func70, Try.ntmps70
    go_wp2_with (refine wpList_appB (o := ⟨some 7, _, _, _, _, _⟩) rowIn (by kernel_rfl) (.tmp 5) (.tmp 6) rfl w.heap.size (some ⟨w.heap.size, 0, none⟩) 0 0 [] OL.out rfl (some a) n c l HH.out HN.out rfl n (Nat.zero_add n) HS.out.fits (Nat.le_trans HS.out.le HS.out.max) HZ.out.size ?_; intro q3 cap3 w3 hO3 hB3)
    go_ret
    have ho := hO3.out
    rw [List.nil_append] at ho
    exact ⟨q3, cap3, rfl, ho.at rowIn, ⟨ho.cap_.1, ho.cap_.2, HS.out.fits, fun e => own_nil ho e⟩, fun b off e => own_ge ho b off e, HZ.out.trans hB3.out⟩
theorem clone_segs (w : World) (p : Option Addr) (l : List Sg) (n c : Nat) (h : LAt sgC InSg Sg.zero 2 w p l) (hn : l.length = n) (hs : SlOk p n c 32) :
    Calls Try.prog 69 #[.slice p n c] w fun e w' => ∃ q c', e = .returned (.slice q n c') ∧ LOwn 42 sgC InSg 2 w' w.heap.size q n c' l ∧ SlOk q n c' 32 ∧ Below w.heap.size w w' := by
  rcases p with _ | a
  · obtain ⟨rfl, rfl⟩ := hs.nil rfl
    obtain rfl : l = [] := List.eq_nil_of_length_eq_zero hn
    refine (clone_nil1 w).mono ?_
    rintro e w' ⟨rfl, rfl⟩
    exact ⟨none, 0, rfl, LOwn.nil _ _ _ _ _ _, hs, Below.refl _ _⟩
  · have hq := segs_eq_any a n c w
    have HH := Lib.hid (h.below (newB w (.cells #[] 42)))
    have OL := Lib.hid (show LOwn 42 sgC InSg 2 (w.alloc (.cells #[] 42)) w.heap.size (some ⟨w.heap.size, 0, none⟩) 0 0 [] from LOwn.lit rowSg w w.heap.size [] (fun x hx => by simp at hx) (Nat.le_refl _) (Nat.zero_le _))
    have HN := Lib.hid hn
    have HS := Lib.hid hs
    have HZ := Lib.hid (newB w (.cells #[] 42))
    clear h hn hs
    go_enter Try.func69, Try.ntmps69
    go_wp2_with (refine wpList_appB (o := ⟨some 7, _, _, _, _, _⟩) rowSg (by kernel_rfl) (.tmp 5) (.tmp 6) rfl w.heap.size (some ⟨w.heap.size, 0, none⟩) 0 0 [] OL.out rfl (some a) n c l HH.out HN.out rfl n (Nat.zero_add n) HS.out.fits (Nat.le_trans HS.out.le HS.out.max) HZ.out.size ?_; intro q3 cap3 w3 hO3 hB3)
    go_ret
    have ho := hO3.out
    rw [List.nil_append] at ho
    exact ⟨q3, cap3, rfl, ho, ⟨ho.cap_.1, ho.cap_.2, HS.out.fits, fun e => own_nil ho e⟩, HZ.out.trans hB3.out⟩
end Go.Proofs.Ytljbebeaahcjaaa
