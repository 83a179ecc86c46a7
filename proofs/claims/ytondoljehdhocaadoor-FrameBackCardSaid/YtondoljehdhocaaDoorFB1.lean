/- Messages one behind the other: what the beginning of their bytes tells. -/
import Derived.Test.YtondoljehdhocaaDoorF10
namespace Go.Proofs.YtondoljehdhocaaDoor
open Go.RowKit

structure Msg where
  k : Int
  q : Option Addr
  ys : List Int
  c : Nat
def flat (ms : List Msg) : List Int := ms.flatMap fun m => putM m.k m.ys
theorem flat_cons (m : Msg) (t : List Msg) : flat (m :: t) = putM m.k m.ys ++ flat t := by simp [flat]
theorem putM_len (k : Int) (ys : List Int) : (putM k ys).length = 19 + ys.length := by unfold putM; simp [putL_len]; omega

theorem headM_more {xs : List Int} (zs : List Int) (h : 19 ≤ xs.length) : headM (xs ++ zs) = headM xs := by
  have e : ∀ i, i < 19 → (xs ++ zs).getD i 0 = xs.getD i 0 := fun i hi => getD_append_lt (by omega)
  have hm : marksB (xs ++ zs) = marksB xs := by
    unfold marksB
    rw [Bool.eq_iff_iff, List.all_eq_true, List.all_eq_true]
    constructor
    · intro h1 i hi
      have := h1 i hi
      rwa [e i (by simp at hi; omega)] at this
    · intro h1 i hi
      rw [e i (by simp at hi; omega)]
      exact h1 i hi
  unfold headM
  rw [hm, e 18 (by omega), e 16 (by omega), e 17 (by omega), if_neg (by simp; omega), if_neg (show ¬ xs.length < 19 by omega)]

theorem headM_few {xs : List Int} (h : xs.length < 19) : headM xs = ⟨0, 0, 0, 0, []⟩ := by unfold headM; rw [if_pos h]

/-- At a message's beginning. -/
theorem head_at {m : Msg} {t : List Msg} {xs rest : List Int} (ho : okM m.k m.ys.length = true) (h : flat (m :: t) = xs ++ rest) (h19 : 19 ≤ xs.length) : headM xs = ⟨m.k, ((19 + m.ys.length : Nat) : Int), 0, 0, []⟩ := by
  rw [← headM_more rest h19, ← h, flat_cons]
  exact headM_put _ ho
theorem take_at {m : Msg} {t : List Msg} {xs rest : List Int} (h : flat (m :: t) = xs ++ rest) (hl : 19 + m.ys.length ≤ xs.length) :
    (xs.take (19 + m.ys.length)).drop 19 = m.ys ∧ flat t = xs.drop (19 + m.ys.length) ++ rest := by
  rw [flat_cons] at h
  have hp := putM_len m.k m.ys
  have h1 : xs.take (19 + m.ys.length) = putM m.k m.ys := by
    have := congrArg (List.take (19 + m.ys.length)) h
    rw [List.take_append_of_le_length (by omega), List.take_append_of_le_length (by omega), List.take_of_length_le (by omega)] at this
    exact this.symm
  have h2 : flat t = xs.drop (19 + m.ys.length) ++ rest := by
    have := congrArg (List.drop (19 + m.ys.length)) h
    rw [List.drop_append_of_le_length (by omega), List.drop_append_of_le_length (by omega), List.drop_of_length_le (by omega), List.nil_append] at this
    exact this
  refine ⟨?_, h2⟩
  rw [h1]
  unfold putM
  have h3 : (List.replicate 16 (255 : Int) ++ putL (19 + m.ys.length) 2 ++ [m.k]).length = 19 := by simp [putL_len]
  rw [List.drop_append_of_le_length (by rw [h3]; exact Nat.le_refl _), List.drop_of_length_le (by rw [h3]; exact Nat.le_refl _), List.nil_append]

/-- No whole message stands there. -/
def Few (ms : List Msg) (xs : List Int) : Prop := ∀ m t, ms = m :: t → xs.length < 19 + m.ys.length
theorem few_end {ms : List Msg} {xs : List Int} (h : flat ms = xs ++ []) (hf : Few ms xs) : ms = [] ∧ xs = [] := by
  rw [List.append_nil] at h
  rcases ms with _ | ⟨m, t⟩
  · exact ⟨rfl, h.symm⟩
  · have := hf m t rfl
    have hl := congrArg List.length h
    rw [flat_cons, List.length_append, putM_len] at hl
    omega
theorem flat_le : ∀ (ms : List Msg), (∀ m ∈ ms, okM m.k m.ys.length = true) → (flat ms).length ≤ 4096 * ms.length
  | [], _ => by simp [flat]
  | m :: t, h => by
    have := (okM_parts (h m (by simp))).2.2
    have h2 := flat_le t (fun x hx => h x (by simp [hx]))
    rw [flat_cons, List.length_append, putM_len, List.length_cons]
    omega
theorem flat_drop_le (ms : List Msg) (k : Nat) : (flat (ms.drop k)).length ≤ (flat ms).length := by
  have h : flat ms = flat (ms.take k) ++ flat (ms.drop k) := by
    unfold flat; rw [← List.flatMap_append, List.take_append_drop]
  rw [h, List.length_append]; omega
theorem flat_snoc (ms : List Msg) (j : Nat) (m : Msg) (h : ms[j]? = some m) : flat (ms.take (j + 1)) = flat (ms.take j) ++ putM m.k m.ys := by
  obtain ⟨hj, rfl⟩ := List.getElem?_eq_some_iff.1 h
  rw [List.take_succ_eq_append_getElem hj]
  unfold flat
  rw [List.flatMap_append]
  simp

/-- A list of messages as it came. -/
def MsgsAt (w : World) (p : Option Addr) (ms : List Msg) : Prop :=
  (∀ (i : Nat) (m : Msg), ms[i]? = some m → BytesAt w m.q m.ys ∧ m.ys.length ≤ m.c ∧ m.c ≤ maxLen) ∧
  (ms = [] ∨ ∃ b off, p = some ⟨b, off, none⟩ ∧ ∀ (i : Nat) (m : Msg), ms[i]? = some m → w.cell? ⟨b, off + i * 2, none⟩ = some (.int .i64 m.k) ∧ w.cell? ⟨b, off + i * 2 + 1, none⟩ = some (.slice m.q m.ys.length m.c))
theorem MsgsAt.below {w w' : World} {p : Option Addr} {ms : List Msg} (h : MsgsAt w p ms) (hb : Below w.heap.size w w') : MsgsAt w' p ms := by
  refine ⟨fun i m hm => ⟨(h.1 i m hm).1.below hb, (h.1 i m hm).2⟩, ?_⟩
  rcases h.2 with h0 | ⟨b, off, hp, hc⟩
  · exact .inl h0
  · exact .inr ⟨b, off, hp, fun i m hm => ⟨kept hb (hc i m hm).1, kept hb (hc i m hm).2⟩⟩
end Go.Proofs.YtondoljehdhocaaDoor
