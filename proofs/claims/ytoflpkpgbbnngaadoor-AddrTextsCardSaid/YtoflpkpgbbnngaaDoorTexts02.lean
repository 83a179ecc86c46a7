/- Texts of addresses and of prefixes, there and back; the document's own Digits. -/
import Derived.Test.YtoflpkpgbbnngaaDoorRefD02
namespace Go.Proofs.YtoflpkpgbbnngaaDoor
open Go.RowKit

theorem itoa_num : ∀ n : Nat, n < 256 → numOf 255 (Lib.itoa n) = some (n : Int) := by decide +kernel
theorem itoa_num32 : ∀ n : Nat, n < 33 → numOf 32 (Lib.itoa n) = some (n : Int) := by decide +kernel
theorem itoa_free : ∀ n : Nat, n < 256 → (46 : UInt8) ∉ Lib.itoa n ∧ (47 : UInt8) ∉ Lib.itoa n := by decide +kernel
theorem itoa_next : ∀ n : Nat, n < 256 → 10 ≤ n → Lib.itoa n = Lib.itoa (n / 10 : Nat) ++ [(48 + (n % 10)).toUInt8] := by decide +kernel
theorem itoa_last : ∀ n : Nat, n < 10 → Lib.itoa n = [(48 + (n % 10)).toUInt8] := by decide +kernel

theorem cutL_free (c : UInt8) : ∀ {l : List UInt8}, c ∉ l → cutL c l = (l, [], false)
  | [], _ => rfl
  | b :: l, h => by
    simp only [List.mem_cons, not_or] at h
    unfold cutL
    rw [cutL_free c h.2, if_neg (fun e => h.1 e.symm)]
theorem cutL_at (c : UInt8) (r : List UInt8) : ∀ {l : List UInt8}, c ∉ l → cutL c (l ++ c :: r) = (l, r, true)
  | [], _ => by simp [cutL]
  | b :: l, h => by
    simp only [List.mem_cons, not_or] at h
    rw [List.cons_append]
    unfold cutL
    rw [cutL_at c r h.2, if_neg (fun e => h.1 e.symm)]

theorem dot_shape (x0 x1 x2 x3 : Int) : dotL [x0, x1, x2, x3] 3 = Lib.itoa x0 ++ 46 :: (Lib.itoa x1 ++ 46 :: (Lib.itoa x2 ++ 46 :: Lib.itoa x3)) := by
  simp [dotL]
theorem addr_dot {l : List Int} (hl : l.length = 4) (hx : InByte l) : addrL (dotL l 3) = some l := by
  obtain ⟨x0, x1, x2, x3, rfl⟩ := list_four hl
  have h0 : 0 ≤ x0 ∧ x0 ≤ 255 := hx 0 (by simp)
  have h1 : 0 ≤ x1 ∧ x1 ≤ 255 := hx 1 (by simp)
  have h2 : 0 ≤ x2 ∧ x2 ≤ 255 := hx 2 (by simp)
  have h3 : 0 ≤ x3 ∧ x3 ≤ 255 := hx 3 (by simp)
  obtain ⟨n0, rfl⟩ := Int.eq_ofNat_of_zero_le h0.1
  obtain ⟨n1, rfl⟩ := Int.eq_ofNat_of_zero_le h1.1
  obtain ⟨n2, rfl⟩ := Int.eq_ofNat_of_zero_le h2.1
  obtain ⟨n3, rfl⟩ := Int.eq_ofNat_of_zero_le h3.1
  rw [dot_shape]
  unfold addrL
  have c0 := cutL_at 46 (Lib.itoa n1 ++ 46 :: (Lib.itoa n2 ++ 46 :: Lib.itoa n3)) (itoa_free n0 (by omega)).1
  have c1 := cutL_at 46 (Lib.itoa n2 ++ 46 :: Lib.itoa n3) (itoa_free n1 (by omega)).1
  have c2 := cutL_at 46 (Lib.itoa n3) (itoa_free n2 (by omega)).1
  have c3 := cutL_free 46 (itoa_free n3 (by omega)).1
  rw [addrGo_next (v := n0) (by rw [c0]; exact itoa_num n0 (by omega)) (by rw [c0]; rfl), c0]
  rw [addrGo_next (v := n1) (by rw [c1]; exact itoa_num n1 (by omega)) (by rw [c1]; rfl), c1]
  rw [addrGo_next (v := n2) (by rw [c2]; exact itoa_num n2 (by omega)) (by rw [c2]; rfl), c2]
  rw [addrGo_next (v := n3) (by rw [c3]; exact itoa_num n3 (by omega)) (by rw [c3]; rfl), c3]
  rfl
theorem dot_free {l : List Int} (hl : l.length = 4) (hx : InByte l) : (47 : UInt8) ∉ dotL l 3 := by
  obtain ⟨x0, x1, x2, x3, rfl⟩ := list_four hl
  have h0 : 0 ≤ x0 ∧ x0 ≤ 255 := hx 0 (by simp)
  have h1 : 0 ≤ x1 ∧ x1 ≤ 255 := hx 1 (by simp)
  have h2 : 0 ≤ x2 ∧ x2 ≤ 255 := hx 2 (by simp)
  have h3 : 0 ≤ x3 ∧ x3 ≤ 255 := hx 3 (by simp)
  obtain ⟨n0, rfl⟩ := Int.eq_ofNat_of_zero_le h0.1
  obtain ⟨n1, rfl⟩ := Int.eq_ofNat_of_zero_le h1.1
  obtain ⟨n2, rfl⟩ := Int.eq_ofNat_of_zero_le h2.1
  obtain ⟨n3, rfl⟩ := Int.eq_ofNat_of_zero_le h3.1
  rw [dot_shape]
  have f0 := (itoa_free n0 (by omega)).2
  have f1 := (itoa_free n1 (by omega)).2
  have f2 := (itoa_free n2 (by omega)).2
  have f3 := (itoa_free n3 (by omega)).2
  simp [List.mem_append, f0, f1, f2, f3]

theorem parse_show {a n : Int} (h0 : 0 ≤ a) (h1 : a < 4294967296) (hk : okP a n = true) : parseL (showL a n) = some (a, n) := by
  obtain ⟨n0, n1⟩ := okP_len hk
  obtain ⟨N, rfl⟩ := Int.eq_ofNat_of_zero_le n0
  unfold parseL showL
  rw [cutL_at 47 (Lib.itoa N) (dot_free (putL_len a 4) (putL_byte a 4))]
  dsimp only
  rw [addr_dot (putL_len a 4) (putL_byte a 4)]
  dsimp only
  rw [itoa_num32 N (by omega)]
  dsimp only
  rw [putL_back (by omega) (by omega) (fits4 h0 h1), if_pos hk]
theorem parse_sign : parseL [63] = none := by decide +kernel
end Go.Proofs.YtoflpkpgbbnngaaDoor
