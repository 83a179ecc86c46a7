/- The document's path, in numbers: the same segments. -/
import Derived.Test.YtcabiodgmhcdlaaDoorAY
namespace Go.Proofs.YtcabiodgmhcdlaaDoor
open Go.RowKit

theorem listV_fuel {wide : Nat} (h1 : 1 ≤ wide) : ∀ (f f' : Nat) (xs : List Int), xs.length < f → xs.length < f' → listV f wide xs = listV f' wide xs
  | 0, _, _, h, _ => by omega
  | _, 0, _, _, h => by omega
  | f + 1, f' + 1, xs, h, h' => by
    rcases Nat.eq_zero_or_pos xs.length with h0 | h0
    · have : xs = [] := List.eq_nil_of_length_eq_zero h0
      subst this
      rw [listV_nil, listV_nil]
    · by_cases hw : wide ≤ xs.length
      · rw [listV_step h0 hw, listV_step h0 hw, listV_fuel h1 f f' (xs.drop wide) (by rw [List.length_drop]; omega) (by rw [List.length_drop]; omega)]
      · rw [listV_cut h0 (by omega), listV_cut h0 (by omega)]
theorem inByte_take {xs : List Int} (h : InByte xs) (n : Nat) : InByte (xs.take n) := fun i hi => by
  have hl : i < xs.length := by rw [List.length_take] at hi; omega
  have hn : i < n := by rw [List.length_take] at hi; omega
  have := h i hl
  simpa [List.getD, List.getElem?_take, hn] using this
/-- So many numbers of a reader. -/
def numsS (wide : Int) : Nat → Option (List Int) → List Int × Option (List Int)
  | 0, s => ([], s)
  | k + 1, s => (numV s wide :: (numsS wide k (numNext s wide)).1, (numsS wide k (numNext s wide)).2)
theorem numV_ok {wide : Nat} (h1 : 1 ≤ wide) (h4 : wide ≤ 4) {xs : List Int} (h : wide ≤ xs.length) : numV (some xs) wide = getV (xs.take wide) ∧ numNext (some xs) wide = some (xs.drop wide) := by
  have hk : okTake (some xs) (wide : Int) = true := by simp [okTake]; omega
  have hw : wideB (wide : Int) = true := by simp [wideB]; omega
  exact ⟨by simp [numV, hk, hw, outV], by simp [numNext, nextV, hk, hw]⟩
theorem numV_no {wide : Nat} {xs : List Int} (h : xs.length < wide) : numV (some xs) wide = 0 ∧ numNext (some xs) wide = none := by
  have hk : okTake (some xs) (wide : Int) = false := by simp [okTake]; omega
  refine ⟨by simp [numV, hk], ?_⟩
  unfold numNext nextV
  rw [hk]
  split <;> rfl
theorem numNext_none (wide : Int) : numNext none wide = none := by
  unfold numNext nextV okTake
  split <;> rfl
theorem numsS_none (wide : Int) : ∀ k, (numsS wide k none).2 = none
  | 0 => rfl
  | k + 1 => by rw [numsS, numNext_none]; exact numsS_none wide k
theorem numsS_ok {wide : Nat} (h1 : 1 ≤ wide) (h4 : wide ≤ 4) : ∀ (k : Nat) (xs : List Int), k * wide ≤ xs.length → numsS wide k (some xs) = (numsV wide (xs.take (k * wide)), some (xs.drop (k * wide)))
  | 0, xs, _ => by simp [numsS, numsV, listV]
  | k + 1, xs, h => by
    have hs : (k + 1) * wide = wide + k * wide := by rw [Nat.succ_mul]; omega
    have hw : wide ≤ xs.length := by omega
    obtain ⟨e1, e2⟩ := numV_ok h1 h4 hw
    have ih := numsS_ok h1 h4 k (xs.drop wide) (by rw [List.length_drop]; omega)
    rw [numsS, e1, e2, ih]
    have hl : (xs.take ((k + 1) * wide)).length = (k + 1) * wide := by rw [List.length_take]; omega
    have hd : (xs.take ((k + 1) * wide)).drop wide = (xs.drop wide).take (k * wide) := by rw [List.drop_take]; congr 1; omega
    have ht : (xs.take ((k + 1) * wide)).take wide = xs.take wide := by rw [List.take_take]; congr 1; omega
    have hl2 : ((xs.drop wide).take (k * wide)).length = k * wide := by rw [List.length_take, List.length_drop]; omega
    have e3 : numsV wide (xs.take ((k + 1) * wide)) = getV (xs.take wide) :: numsV wide ((xs.drop wide).take (k * wide)) := by
      unfold numsV
      rw [hl, listV_step (by rw [hl]; omega) (by rw [hl]; omega), hd, ht, hl2, listV_fuel h1 ((k + 1) * wide) (k * wide + 1) _ (by rw [hl2]; omega) (by rw [hl2]; omega)]
    rw [e3, List.drop_drop, show wide + k * wide = (k + 1) * wide from hs.symm]
theorem numsS_bad {wide : Nat} (h1 : 1 ≤ wide) (h4 : wide ≤ 4) : ∀ (k : Nat) (xs : List Int), xs.length < k * wide → (numsS wide k (some xs)).2 = none
  | 0, xs, h => by omega
  | k + 1, xs, h => by
    have hs : (k + 1) * wide = wide + k * wide := by rw [Nat.succ_mul]; omega
    rw [numsS]
    by_cases hw : wide ≤ xs.length
    · rw [(numV_ok h1 h4 hw).2]
      exact numsS_bad h1 h4 k (xs.drop wide) (by rw [List.length_drop]; omega)
    · rw [(numV_no (by omega)).2]
      exact numsS_none _ _
theorem seg_numsV (four set : Bool) (n : Nat) (ys : List Int) (hl : ys.length = n * wideA four) (hb : InByte ys) : (numsV (wideA four) ys).length = n ∧ segOdd (mostA four) ⟨set, numsV (wideA four) ys⟩ = (n == 0 || decide (64 < n)) := by
  obtain ⟨h1, h4⟩ := wideA_bd four
  obtain ⟨_, i2, i3⟩ := listV_even (wideA four) h1 n (ys.length + 1) ys (by rw [hl, Nat.mul_comm]) (Nat.lt_succ_self _) hb
  have i2' : (numsV (wideA four) ys).length = n := i2
  have ha : (numsV (wideA four) ys).any (oddB 0 (mostA four)) = false := by
    rw [List.any_eq_false]
    intro y hy
    have := i3 y hy
    cases four
    · have h4 : (256 : Int) ^ wideA false = 65536 := by decide
      simp [oddB, mostA]; omega
    · have h4 : (256 : Int) ^ wideA true = 4294967296 := by decide
      simp [oddB, mostA]; omega
  refine ⟨i2', ?_⟩
  unfold segOdd
  rw [ha, i2', Bool.or_false]
/-- The document's path: segments that may be, none else. -/
def pathR (four : Bool) : Nat → Nat → List Int → Option (List Seg)
  | 0, _, _ => some []
  | _ + 1, _, [] => some []
  | _ + 1, _, [_] => none
  | f + 1, m, k :: n :: rest =>
    if (k = 1 ∨ k = 2) ∧ 1 ≤ n ∧ n ≤ 64 ∧ m < 8 ∧ n.toNat * wideA four ≤ rest.length then (pathR four f (m + 1) (rest.drop (n.toNat * wideA four))).map (fun t => ⟨k == 1, numsV (wideA four) (rest.take (n.toNat * wideA four))⟩ :: t) else none
theorem pathR_cons (four : Bool) (f m : Nat) (k n : Int) (rest : List Int) : pathR four (f + 1) m (k :: n :: rest) = if (k = 1 ∨ k = 2) ∧ 1 ≤ n ∧ n ≤ 64 ∧ m < 8 ∧ n.toNat * wideA four ≤ rest.length then (pathR four f (m + 1) (rest.drop (n.toNat * wideA four))).map (fun t => ⟨k == 1, numsV (wideA four) (rest.take (n.toNat * wideA four))⟩ :: t) else none := rfl
def okRest (four : Bool) (m : Nat) (l : List Seg) : Option (List Seg) := if m + l.length ≤ 8 ∧ l.any (segOdd (mostA four)) = false then some l else none
theorem pathR_eq (four : Bool) : ∀ (f m : Nat) (xs : List Int), m ≤ 8 → InByte xs → pathR four f m xs = (pathG (wideA four) f xs).bind (okRest four m)
  | 0, m, xs, hm, _ => by
    have h1 : pathR four 0 m xs = some [] := by cases xs <;> rfl
    have h2 : pathG (wideA four) 0 xs = some [] := by cases xs <;> rfl
    rw [h1, h2]
    exact (if_pos ⟨hm, rfl⟩).symm
  | f + 1, m, [], hm, _ => (if_pos ⟨hm, rfl⟩).symm
  | f + 1, m, [_], hm, _ => rfl
  | f + 1, m, k :: n :: rest, hm, hb => by
    have hr : InByte rest := inByte_tail (inByte_tail hb)
    obtain ⟨n0, n1⟩ := inByte_cons (inByte_tail hb)
    rw [pathR_cons, show pathG (wideA four) (f + 1) (k :: n :: rest) = if n.toNat * wideA four ≤ rest.length ∧ (k = 1 ∨ k = 2) then (pathG (wideA four) f (rest.drop (n.toNat * wideA four))).map (fun t => ⟨k == 1, numsV (wideA four) (rest.take (n.toNat * wideA four))⟩ :: t) else none from rfl]
    by_cases h1 : n.toNat * wideA four ≤ rest.length ∧ (k = 1 ∨ k = 2)
    · rw [if_pos h1]
      obtain ⟨hsl, hso⟩ := seg_numsV four (k == 1) n.toNat (rest.take (n.toNat * wideA four)) (by rw [List.length_take]; omega) (inByte_take hr _)
      by_cases h2 : 1 ≤ n ∧ n ≤ 64 ∧ m < 8
      · rw [if_pos ⟨h1.2, h2.1, h2.2.1, h2.2.2, h1.1⟩, pathR_eq four f (m + 1) _ (by omega) (inByte_drop hr _)]
        have hsf : segOdd (mostA four) ⟨k == 1, numsV (wideA four) (rest.take (n.toNat * wideA four))⟩ = false := by
          rw [hso]; simp; omega
        rcases pathG (wideA four) f (rest.drop (n.toNat * wideA four)) with _ | l
        · rfl
        · simp only [Option.bind_some, Option.map_some]
          unfold okRest
          by_cases h3 : m + 1 + l.length ≤ 8 ∧ l.any (segOdd (mostA four)) = false
          · rw [if_pos h3, if_pos ⟨by simp; omega, by rw [List.any_cons, hsf, h3.2]; rfl⟩]; rfl
          · rw [if_neg h3, if_neg (fun h => h3 ⟨by have := h.1; simp at this; omega, by have := h.2; rw [List.any_cons, hsf] at this; simpa using this⟩)]; rfl
      · rw [if_neg (fun h => h2 ⟨h.2.1, h.2.2.1, h.2.2.2.1⟩)]
        rcases pathG (wideA four) f (rest.drop (n.toNat * wideA four)) with _ | l
        · rfl
        · simp only [Option.bind_some, Option.map_some]
          unfold okRest
          rw [if_neg (fun h => h2 (by
            obtain ⟨g1, g2⟩ := h
            rw [List.any_cons, hso] at g2
            simp at g1 g2
            omega))]
    · rw [if_neg h1, if_neg (fun h => h1 ⟨h.2.2.2.2, h.1⟩)]; rfl
theorem pathR_ok (four : Bool) (xs : List Int) (hb : InByte xs) : pathR four (xs.length + 1) 0 xs = (pathG (wideA four) (xs.length + 1) xs).bind (fun l => if okPath l four = true then some l else none) := by
  rw [pathR_eq four _ 0 xs (by omega) hb]
  congr 1
  funext l
  unfold okRest okPath
  by_cases h1 : l.length ≤ 8
  · by_cases h2 : l.any (segOdd (mostA four)) = false
    · rw [if_pos ⟨by omega, h2⟩, h2]; simp [h1]
    · rw [if_neg (fun h => h2 h.2)]; simp at h2; simp [h1, h2]
  · rw [if_neg (fun h => h1 (by omega))]; simp [h1]
end Go.Proofs.YtcabiodgmhcdlaaDoor
