/- attr: what is put is got, an attribute and a path. -/
import Derived.Test.YtpeagakpmjnelaaDoorAN
namespace Go.Proofs.YtpeagakpmjnelaaDoor.Ax
open Go.RowKit
set_option maxRecDepth 100000

theorem getS_long (four : Bool) (f : Nat) (s : At × Int) (fl : Int) (k : Nat) (data rest : List Int) (hfl : fl = 64 ∨ fl = 128 ∨ fl = 192) (hd : 255 < data.length) (hm : data.length ≤ 65535) :
    getS four (f + 1) s (attrL fl k data ++ rest) = (takeV four s (fl + 16) k data).bind (fun s' => getS four f s' rest) := by
  have hw : wideOf (fl + 16) = 2 := by rcases hfl with rfl | rfl | rfl <;> decide +kernel
  have ha : attrL fl k data = (fl + 16) :: (k : Int) :: (putL (data.length : Int) 2 ++ data) := by unfold attrL; rw [if_neg (by omega)]
  have hl : (putL (data.length : Int) 2).length = 2 := putL_len _ _
  have hv : (getV (putL (data.length : Int) 2)).toNat = data.length := by
    rw [putL_back (by omega) (by omega) (by
      have : (2 : Int) ^ (8 * 2) = 65536 := rfl
      simp [fitsB, this]; omega)]
    simp
  rw [ha, List.cons_append, List.cons_append, List.append_assoc, getS, hw]
  rw [if_pos (by rw [List.length_append, hl]; omega), List.take_left' hl, List.drop_left' hl, hv]
  rw [if_pos (by simp), List.take_left' rfl, List.drop_left' rfl]
  simp
theorem base_plain (fl : Int) (hfl : fl = 64 ∨ fl = 128 ∨ fl = 192) : baseV fl = fl ∧ baseV (fl + 16) = fl := by
  rcases hfl with rfl | rfl | rfl <;> decide +kernel
/-- An attribute that is known and was not yet seen. -/
theorem getS_attr (four : Bool) (f : Nat) (a : At) (th fl : Int) (k : Nat) (data rest : List Int) (hfl : fl = 64 ∨ fl = 128 ∨ fl = 192) (hk : flagsL.getD k 0 = fl) (hs : seenB th k = false) (hm : data.length ≤ 65535) :
    getS four (f + 1) (a, th) (attrL fl k data ++ rest) = (readV four a k data).bind (fun a' => getS four f (a', setT th k) rest) := by
  obtain ⟨h1, h2⟩ := base_plain fl hfl
  have h0 : ¬flagsL.getD k 0 = 0 := by rw [hk]; rcases hfl with rfl | rfl | rfl <;> decide
  have ht : ∀ g, baseV g = fl → takeV four (a, th) g k data = (readV four a k data).map (fun a' => (a', setT th k)) := by
    intro g hg
    unfold takeV
    rw [if_neg h0, hs, hk, hg, if_neg (by simp), if_pos rfl]
  by_cases hd : data.length ≤ 255
  · rw [getS_step four f (a, th) fl k data rest hfl hd, ht fl h1]
    cases readV four a k data <;> rfl
  · rw [getS_long four f (a, th) fl k data rest hfl (by omega) hm, ht (fl + 16) h2]
    cases readV four a k data <;> rfl
theorem fitsAll_odd (four : Bool) (s : Seg) (h : segOdd (mostA four) s = false) : 1 ≤ s.nums.length ∧ s.nums.length ≤ 64 ∧ ∀ x ∈ s.nums, fitsB x (wideA four) = true := by
  simp only [segOdd, Bool.or_eq_false_iff, beq_eq_false_iff_ne, ne_eq, decide_eq_false_iff_not, List.any_eq_false] at h
  obtain ⟨h0, h1, h2⟩ := h
  refine ⟨by omega, by omega, fun x hx => ?_⟩
  have := fits_odd x four
  have hf := h2 x hx
  rw [Bool.not_eq_true] at hf
  rw [hf] at this
  exact this
theorem segsL_cons (four : Bool) (s : Seg) (t : List Seg) : segsL four (s :: t) = kindV s :: (s.nums.length : Int) :: (numsL (wideA four) s.nums ++ segsL four t) := by
  simp [segsL, segL]
theorem pathG_segs (four : Bool) : ∀ (l : List Seg) (f : Nat), (∀ s ∈ l, segOdd (mostA four) s = false) → l.length < f → pathG (wideA four) f (segsL four l) = some l
  | [], f + 1, _, _ => rfl
  | s :: t, f + 1, h, hf => by
    obtain ⟨w1, w4⟩ := wideA_bd four
    obtain ⟨h1, h2, h3⟩ := fitsAll_odd four s (h s (by simp))
    have ih := pathG_segs four t f (fun z hz => h z (by simp [hz])) (by simp at hf; omega)
    have hl : (numsL (wideA four) s.nums).length = s.nums.length * wideA four := by rw [numsL_len, Nat.mul_comm]
    have hlv : numsV (wideA four) (numsL (wideA four) s.nums) = s.nums := by
      unfold numsV
      rw [listV_numsL (wideA four) w1 w4 s.nums _ h3 (by rw [hl]; have := Nat.mul_le_mul_left s.nums.length w1; omega)]
    rw [segsL_cons, pathG, Int.toNat_natCast, if_pos ⟨by rw [List.length_append, hl]; omega, by unfold kindV; split <;> simp⟩]
    rw [List.take_left' hl, List.drop_left' hl, ih, hlv]
    obtain ⟨set, nums⟩ := s
    cases set <;> rfl
end Go.Proofs.YtpeagakpmjnelaaDoor.Ax
