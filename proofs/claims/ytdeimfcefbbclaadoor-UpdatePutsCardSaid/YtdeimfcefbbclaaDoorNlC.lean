/- nlri: what is put is got, in numbers. -/
import Derived.Test.YtdeimfcefbbclaaDoorUqB
namespace Go.Proofs.YtdeimfcefbbclaaDoor
open Go.RowKit

theorem nat_dvd_back {A p q : Nat} (h : A / 2 ^ p * 2 ^ p = A) (hqp : q ≤ p) : A / 2 ^ q * 2 ^ q = A := by
  have h1 : 2 ^ q ∣ 2 ^ p := Nat.pow_dvd_pow 2 hqp
  have h2 : 2 ^ p ∣ A := ⟨A / 2 ^ p, by rw [Nat.mul_comm]; exact h.symm⟩
  exact Nat.div_mul_cancel (Nat.dvd_trans h1 h2)
theorem pad_back (A k : Nat) (hk : k ≤ 4) (hA : A < 4294967296) (h : A / 2 ^ (8 * (4 - k)) * 2 ^ (8 * (4 - k)) = A) :
    getV ((putL (A : Int) 4).take k ++ List.replicate (4 - k) 0) = A := by
  have : k = 0 ∨ k = 1 ∨ k = 2 ∨ k = 3 ∨ k = 4 := by omega
  rcases this with rfl | rfl | rfl | rfl | rfl
  · rw [show (2 : Nat) ^ (8 * (4 - 0)) = 4294967296 from rfl] at h
    simp [putL, List.range_succ, byteOf, getV, List.replicate]; omega
  · rw [show (2 : Nat) ^ (8 * (4 - 1)) = 16777216 from rfl] at h
    simp [putL, List.range_succ, byteOf, getV, List.replicate]; omega
  · rw [show (2 : Nat) ^ (8 * (4 - 2)) = 65536 from rfl] at h
    simp [putL, List.range_succ, byteOf, getV, List.replicate]; omega
  · rw [show (2 : Nat) ^ (8 * (4 - 3)) = 256 from rfl] at h
    simp [putL, List.range_succ, byteOf, getV]; omega
  · simp [putL, List.range_succ, byteOf, getV]; omega
theorem okP_eq {a n : Int} (h : okP a n = true) : a = mk a n ∧ n = cl n := by
  simpa [okP] using h
theorem pfx_got {a n : Int} (xs : List Int) (h0 : 0 ≤ a) (h1 : a < 4294967296) (hk : okP a n = true) : gotP (pfxL a n ++ xs) = some (a, n, (pfxL a n).length) := by
  have ⟨n0, n1⟩ := okP_len hk
  obtain ⟨N, rfl⟩ := Int.eq_ofNat_of_zero_le n0
  obtain ⟨A, rfl⟩ := Int.eq_ofNat_of_zero_le h0
  have hN : N ≤ 32 := by omega
  have hA : A < 4294967296 := by omega
  obtain ⟨k, hkk⟩ : ∃ k, (N + 7) / 8 = k := ⟨_, rfl⟩
  have hk4 : k ≤ 4 := by omega
  have hm := (okP_eq hk).1
  rw [mk_div A N hA hN] at hm
  have hb := pad_back A k hk4 hA (nat_dvd_back (p := 32 - N) (by omega) (by omega))
  have hl : ((putL (A : Int) 4).take k).length = k := by rw [List.length_take, putL_len]; omega
  unfold pfxL
  rw [Int.toNat_natCast, hkk, List.cons_append]
  simp only [gotP]
  rw [if_neg (by omega), Int.toNat_natCast, hkk, if_neg (by rw [List.length_append, hl]; omega)]
  rw [List.take_append_of_le_length (by rw [hl]; exact Nat.le_refl _), List.take_of_length_le (by rw [hl]; exact Nat.le_refl _), hb, List.length_cons, hl]
theorem first_put (paths : Bool) (x : Nl) (rest : List Int) (had : InAddr x) (ho : oddNl (mostN paths) x = false) : firstL paths (nlL paths x ++ rest) = some (x, (nlL paths x).length) := by
  obtain ⟨o0, o1, o2⟩ := oddNl_no ho
  obtain ⟨id, a, n⟩ := x
  obtain ⟨a0, a1⟩ : 0 ≤ a ∧ a < 4294967296 := had
  simp only at o0 o1 o2
  obtain ⟨e1, e2⟩ := okP_eq o2
  cases paths
  · have hid : id = 0 := by
      have : mostN false = 0 := rfl
      omega
    subst hid
    show (gotP (pfxL a n ++ rest)).map _ = _
    rw [pfx_got rest a0 a1 o2]
    simp only [Option.map_some]
    rw [← e1, ← e2]
    rfl
  · have hm : mostN true = 4294967295 := rfl
    have hl : (putL id 4).length = 4 := putL_len ..
    have hd : (nlL true ⟨id, a, n⟩ ++ rest) = putL id 4 ++ (pfxL a n ++ rest) := by
      show (putL id 4 ++ pfxL a n) ++ rest = _
      rw [List.append_assoc]
    have hlen : (nlL true ⟨id, a, n⟩).length = 4 + (pfxL a n).length := by
      show (putL id 4 ++ pfxL a n).length = _
      rw [List.length_append, hl]
    rw [hlen, hd]
    unfold firstL
    rw [if_pos rfl, if_neg (by rw [List.length_append, hl]; omega), List.drop_left' hl, List.take_left' hl, pfx_got rest a0 a1 o2]
    have hv : getV (putL id 4) = id := by
      have h5 := putL_back (n := id) (wide := 4) (by omega) (by omega) (fit_four o0 (by omega))
      exact h5
    simp only [Option.map_some]
    rw [hv, ← e1, ← e2]
theorem nlsL_app (paths : Bool) (l m : List Nl) : nlsL paths (l ++ m) = nlsL paths l ++ nlsL paths m := by unfold nlsL; rw [List.flatMap_append]
theorem nlsL_cons (paths : Bool) (x : Nl) (t : List Nl) : nlsL paths (x :: t) = nlL paths x ++ nlsL paths t := by unfold nlsL; rw [List.flatMap_cons]
theorem nlL_pos (paths : Bool) (x : Nl) : 0 < (nlL paths x).length := by
  unfold nlL pfxL
  rw [List.length_append, List.length_cons]
  omega
theorem getNl_step {paths : Bool} {f k : Nat} {xs : List Int} {x : Nl} {s : Nat} (h : firstL paths xs = some (x, s)) (h0 : xs.length ≠ 0) : getNl paths (f + 1) k xs = if k = 1024 then none else (getNl paths f (k + 1) (xs.drop s)).map (x :: ·) := by
  rw [getNl, if_neg h0, h]
theorem getNl_put (paths : Bool) : ∀ (l : List Nl) (f k : Nat), (∀ x ∈ l, InAddr x ∧ oddNl (mostN paths) x = false) → k + l.length ≤ 1024 → (nlsL paths l).length < f → getNl paths f k (nlsL paths l) = some l
  | [], 0, _, _, _, h => by omega
  | [], f + 1, k, _, _, _ => by rw [show nlsL paths [] = [] from rfl, getNl]; rfl
  | x :: t, 0, _, _, _, h => by omega
  | x :: t, f + 1, k, ho, hk, hf => by
    have hp := nlL_pos paths x
    rw [nlsL_cons] at hf ⊢
    rw [List.length_append] at hf
    simp at hk
    rw [getNl_step (first_put paths x _ (ho x (by simp)).1 (ho x (by simp)).2) (by rw [List.length_append]; omega), if_neg (by omega), List.drop_left' rfl, getNl_put paths t f (k + 1) (fun y hy => ho y (by simp [hy])) (by omega) (by omega)]
    rfl
theorem getNl_many (paths : Bool) : ∀ (l : List Nl) (f k : Nat), (∀ x ∈ l, InAddr x ∧ oddNl (mostN paths) x = false) → k ≤ 1024 → 1024 < k + l.length → (nlsL paths l).length < f → getNl paths f k (nlsL paths l) = none
  | [], _, _, _, h, h2, _ => by simp at h2; omega
  | x :: t, 0, _, _, _, _, h => by omega
  | x :: t, f + 1, k, ho, hk, hk2, hf => by
    have hp := nlL_pos paths x
    rw [nlsL_cons] at hf ⊢
    rw [List.length_append] at hf
    simp at hk2
    rw [getNl_step (first_put paths x _ (ho x (by simp)).1 (ho x (by simp)).2) (by rw [List.length_append]; omega)]
    by_cases h4 : k = 1024
    · rw [if_pos h4]
    · rw [if_neg h4, List.drop_left' rfl, getNl_many paths t f (k + 1) (fun y hy => ho y (by simp [hy])) (by omega) (by omega) (by omega)]
      rfl
end Go.Proofs.YtdeimfcefbbclaaDoor
