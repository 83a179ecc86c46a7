/- attr: what is put is got, piece by piece. -/
import Derived.Test.YtpeagakpmjnelaaDoorAI
import Derived.Test.YtpeagakpmjnelaaDoorA6
import Derived.Test.YtpeagakpmjnelaaDoorAB
namespace Go.Proofs.YtpeagakpmjnelaaDoor.Ax
open Go.RowKit
set_option maxRecDepth 100000

theorem numsL_cons (wide : Nat) (x : Int) (t : List Int) : numsL wide (x :: t) = putL x wide ++ numsL wide t := by simp [numsL]
theorem listV_numsL (wide : Nat) (h1 : 1 ≤ wide) (h4 : wide ≤ 4) : ∀ (xs : List Int) (f : Nat), (∀ x ∈ xs, fitsB x wide = true) → xs.length < f → listV f wide (numsL wide xs) = (xs, true)
  | [], f + 1, _, _ => rfl
  | x :: t, f + 1, h, hf => by
    rw [numsL_cons]
    obtain ⟨y, r, hy⟩ : ∃ y r, putL x wide = y :: r := by
      match hp : putL x wide with
      | [] => have := putL_len x wide; rw [hp] at this; simp at this; omega
      | y :: r => exact ⟨y, r, rfl⟩
    have hl : (y :: r).length = wide := by rw [← hy]; exact putL_len x wide
    have ih := listV_numsL wide h1 h4 t f (fun z hz => h z (by simp [hz])) (by simp at hf; omega)
    rw [hy, List.cons_append, listV, ← List.cons_append, if_pos (by rw [List.length_append, hl]; omega)]
    rw [show ((y :: r) ++ numsL wide t).take wide = y :: r from by rw [← hl, List.take_left'] ; rfl]
    rw [show ((y :: r) ++ numsL wide t).drop wide = numsL wide t from by rw [← hl, List.drop_left'] ; rfl]
    rw [ih, ← hy, putL_back h1 h4 (h x (by simp))]
theorem getS_step (four : Bool) (f : Nat) (s : At × Int) (fl : Int) (k : Nat) (data rest : List Int) (hfl : fl = 64 ∨ fl = 128 ∨ fl = 192) (hd : data.length ≤ 255) :
    getS four (f + 1) s (attrL fl k data ++ rest) = (takeV four s fl k data).bind (fun s' => getS four f s' rest) := by
  have hw : wideOf fl = 1 := by rcases hfl with rfl | rfl | rfl <;> decide +kernel
  have ha : attrL fl k data = fl :: (k : Int) :: (data.length : Int) :: data := by unfold attrL; rw [if_pos hd]
  have hv : (getV ([(data.length : Int)])).toNat = data.length := by simp [getV]
  rw [ha, List.cons_append, List.cons_append, List.cons_append, getS, hw]
  rw [if_pos (by simp), show List.take 1 ((data.length : Int) :: (data ++ rest)) = [(data.length : Int)] from rfl, hv, show List.drop 1 ((data.length : Int) :: (data ++ rest)) = data ++ rest from rfl]
  rw [if_pos (by simp), List.take_left', List.drop_left']
  · simp
  · rfl
  · rfl
end Go.Proofs.YtpeagakpmjnelaaDoor.Ax
