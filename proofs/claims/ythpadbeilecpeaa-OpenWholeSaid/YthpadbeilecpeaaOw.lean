/- open: what a body that is fine says may be said. -/
import Derived.Test.YthpadbeilecpeaaOm
namespace Go.Proofs.Ythpadbeilecpeaa
open Go.RowKit

def AllB (xs : List Int) : Prop := ∀ x ∈ xs, 0 ≤ x ∧ x ≤ 255
theorem InByte.all {xs : List Int} (h : InByte xs) : AllB xs := by
  intro x hx
  obtain ⟨i, hi, rfl⟩ := List.getElem_of_mem hx
  have := h i hi
  simpa [List.getD, List.getElem?_eq_getElem hi] using this
theorem AllB.take {xs : List Int} (h : AllB xs) (n : Nat) : AllB (xs.take n) := fun x hx => h x (List.mem_of_mem_take hx)
theorem AllB.drop {xs : List Int} (h : AllB xs) (n : Nat) : AllB (xs.drop n) := fun x hx => h x (List.mem_of_mem_drop hx)
theorem AllB.tail {x : Int} {xs : List Int} (h : AllB (x :: xs)) : AllB xs := fun y hy => h y (List.mem_cons_of_mem _ hy)
theorem AllB.inByte {xs : List Int} (h : AllB xs) : InByte xs := inByte_all h
theorem AllB.val {xs : List Int} (h : AllB xs) {n : Nat} (hn : xs.length ≤ n) : 0 ≤ getV xs ∧ getV xs < 256 ^ n := by
  have := getV_bd xs h.inByte xs.length (Nat.le_refl _)
  rw [List.take_length] at this
  refine ⟨this.1, ?_⟩
  have e : ∀ k : Nat, (256 : Int) ^ k = ((256 ^ k : Nat) : Int) := fun k => by rw [Int.natCast_pow]; rfl
  have hp : (256 : Int) ^ xs.length ≤ 256 ^ n := by
    rw [e, e]; exact Int.ofNat_le.2 (Nat.pow_le_pow_right (by omega) hn)
  exact Int.lt_of_lt_of_le this.2 hp
structure StB (st : Op) : Prop where
  a0 : 0 ≤ st.asn
  a1 : st.asn ≤ mostAS st.four
  h0 : 0 ≤ st.hold
  h1 : st.hold ≤ 65535
  i0 : 0 ≤ st.id
  i1 : st.id ≤ 4294967295
  p0 : 0 ≤ st.paths
  p1 : st.paths ≤ 3
theorem wayB_yes {a b c d : Int} (h : wayB a b c d = true) : 1 ≤ d ∧ d ≤ 3 := by
  unfold wayB at h
  simp only [Bool.and_eq_true, decide_eq_true_eq] at h
  exact h.2
theorem pathsV_keep : ∀ (f : Nat) (st : Op) (xs : List Int), StB st → StB (pathsV f st xs).1
  | 0, st, xs, h => h
  | f + 1, st, [], h => h
  | f + 1, st, [_], h => h
  | f + 1, st, [_, _], h => h
  | f + 1, st, [_, _, _], h => h
  | f + 1, st, a :: b :: c :: d :: rest, h => by
    unfold pathsV
    refine pathsV_keep f _ rest ?_
    split
    · rename_i hw
      have := wayB_yes hw
      exact ⟨h.a0, h.a1, h.h0, h.h1, h.i0, h.i1, by show 0 ≤ d; omega, by show d ≤ 3; omega⟩
    · exact h
theorem capV_keep (st : Op) (k : Int) (xs : List Int) (h : StB st) (hx : AllB xs) : StB (capV st k xs).1 := by
  unfold capV
  split
  · unfold fourV
    split
    · rename_i h4
      have := hx.val (n := 4) (by omega)
      rw [show (256 : Int) ^ 4 = 4294967296 from rfl] at this
      exact ⟨this.1, by show getV xs ≤ 4294967295; omega, h.h0, h.h1, h.i0, h.i1, h.p0, h.p1⟩
    · exact h
  · split
    · exact pathsV_keep _ _ _ h
    · exact h
theorem eachV_keep {look : Op → Int → List Int → Op × Bool} (hl : ∀ st k xs, StB st → AllB xs → StB (look st k xs).1) : ∀ (f : Nat) (st : Op) (xs : List Int), StB st → AllB xs → StB (eachV look f st xs).1
  | 0, st, xs, h, _ => h
  | f + 1, st, [], h, _ => h
  | f + 1, st, [_], h, _ => h
  | f + 1, st, k :: n :: rest, h, hx => by
    have hr : AllB rest := hx.tail.tail
    have h1 := hl st k (rest.take n.toNat) h (hr.take _)
    unfold eachV
    split
    · split
      · exact eachV_keep hl f _ _ h1 (hr.drop _)
      · exact h1
    · exact h
theorem begin_keep (xs : List Int) (hx : AllB xs) : StB (beginO xs) := by
  have v1 := ((hx.drop 1).take 2).val (n := 2) (List.length_take_le _ _)
  have v2 := ((hx.drop 3).take 2).val (n := 2) (List.length_take_le _ _)
  have v3 := ((hx.drop 5).take 4).val (n := 4) (List.length_take_le _ _)
  rw [show (256 : Int) ^ 2 = 65536 from rfl] at v1 v2
  rw [show (256 : Int) ^ 4 = 4294967296 from rfl] at v3
  unfold beginO
  exact ⟨v1.1, Int.le_of_lt_add_one v1.2, v2.1, Int.le_of_lt_add_one v2.2, v3.1, Int.le_of_lt_add_one v3.2, Int.le_refl _, by show (0 : Int) ≤ 3; omega⟩
theorem told_whole {st : Op} (h : StB st) : ((toldV st).code = 2 ∧ (toldV st).o = Op.zero) ∨ ((toldV st).code = 0 ∧ (toldV st).o = st ∧ okO st = true) := by
  unfold toldV
  split
  · exact .inl ⟨rfl, rfl⟩
  · split
    · exact .inl ⟨rfl, rfl⟩
    · split
      · exact .inl ⟨rfl, rfl⟩
      · rename_i a b c
        refine .inr ⟨rfl, rfl, ?_⟩
        have ha := h.a0
        unfold okO
        simp only [Bool.and_eq_true, decide_eq_true_eq, Bool.not_eq_true', beq_eq_false_iff_ne]
        exact ⟨⟨⟨⟨⟨by omega, h.a1⟩, by simpa using b⟩, c⟩, h.p0⟩, h.p1⟩
theorem getO_whole (xs : List Int) (hx : AllB xs) : (getO xs).code = 2 ∨ ((getO xs).code = 0 ∧ okO (getO xs).o = true ∧ 0 ≤ (getO xs).o.id ∧ (getO xs).o.id ≤ 4294967295) := by
  unfold getO
  split
  · exact .inl rfl
  · split
    · unfold restO
      have hs := eachV_keep (look := paramV) (fun st _ ys h hy => eachV_keep capV_keep _ _ _ h hy) (xs.length + 1) _ _ (begin_keep xs hx) (hx.drop 10)
      split
      · split
        · rcases told_whole hs with ⟨h, _⟩ | ⟨h1, h2, h3⟩
          · exact .inl h
          · refine .inr ⟨h1, ?_⟩
            rw [h2]
            exact ⟨h3, hs.i0, hs.i1⟩
        · exact .inl rfl
      · exact .inl rfl
    · exact .inl rfl
end Go.Proofs.Ythpadbeilecpeaa
