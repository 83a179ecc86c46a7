/- The document's own small; what it tells is what addr's number tells. -/
import Derived.Test.YtpmdmkemlbpnjaaDoorParse
namespace Go.Proofs.YtpmdmkemlbpnjaaDoor
open Go.RowKit

/-! Numbers of many digits are none. -/
theorem digs_ge {most : Int} : ∀ {l : List UInt8} {n v : Int}, digs most n l = some v → 0 ≤ n → n * 10 ^ l.length ≤ v
  | [], n, v, h, _ => by simp [digs] at h; simp [h]
  | c :: r, n, v, h, h0 => by
    by_cases hb : c < 48 ∨ 57 < c
    · unfold digs at h; rw [if_pos hb] at h; cases h
    · have hc : 48 ≤ (c.toNat : Int) := by
        have hh : ¬ (c.toNat : Int) < 48 := fun hh => hb (.inl ((u8_lt c).1.2 hh))
        omega
      unfold digs at h
      rw [if_neg hb] at h
      split at h
      · cases h
      · have ih := digs_ge h (by omega)
        rw [List.length_cons, Int.pow_succ]
        have hp : (0 : Int) ≤ 10 ^ r.length := Int.pow_nonneg (by omega)
        calc n * (10 ^ r.length * 10) = (10 * n) * 10 ^ r.length := by rw [Int.mul_comm 10 n, Int.mul_assoc, Int.mul_comm 10]
          _ ≤ (10 * n + ((c.toNat : Int) - 48)) * 10 ^ r.length := Int.mul_le_mul_of_nonneg_right (by omega) hp
          _ ≤ v := ih
theorem digs_le {most : Int} : ∀ {l : List UInt8} {n v : Int}, n ≤ most → digs most n l = some v → v ≤ most
  | [], n, v, hn, h => by simp [digs] at h; omega
  | c :: r, n, v, hn, h => by
    unfold digs at h
    split at h
    · cases h
    · split at h
      · cases h
      · exact digs_le (by omega) h
theorem digs_first {most : Int} {c : UInt8} {r : List UInt8} (h1 : 48 ≤ (c.toNat : Int)) (h2 : (c.toNat : Int) ≤ 57) (hm : 9 ≤ most) : digs most 0 (c :: r) = digs most ((c.toNat : Int) - 48) r := by
  rw [digs_next h1 h2 (by omega)]
  congr 1
  omega
theorem digs_far {most : Int} {c : UInt8} {r : List UInt8} (h0 : c ≠ 48) (hm : most < 1000) (hr : 3 ≤ r.length) (h9 : 9 ≤ most) : digs most 0 (c :: r) = none := by
  by_cases hb : (c.toNat : Int) < 48 ∨ 57 < (c.toNat : Int)
  · exact digs_bad hb
  · have h1 : 48 ≤ (c.toNat : Int) := by omega
    have h2 : (c.toNat : Int) ≤ 57 := by omega
    rw [digs_first h1 h2 h9]
    rcases ho : digs most ((c.toNat : Int) - 48) r with _ | v
    · rfl
    · exfalso
      have hc : 49 ≤ (c.toNat : Int) := by
        have : c.toNat ≠ 48 := fun e => h0 (UInt8.toNat.inj (by rw [e]; rfl))
        omega
      have g := digs_ge ho (by omega)
      have l := digs_le (by omega) ho
      obtain ⟨k, hk⟩ : ∃ k, r.length = k + 3 := ⟨r.length - 3, by omega⟩
      rw [hk, Int.pow_add] at g
      have hp : (1 : Int) ≤ 10 ^ k := by
        have h0 : (0 : Int) < 10 ^ k := Int.pow_pos (by omega)
        omega
      have h3 : (10 : Int) ^ 3 = 1000 := rfl
      rw [h3] at g
      have : (1 : Int) * (1 * 1000) ≤ ((c.toNat : Int) - 48) * (10 ^ k * 1000) := Int.mul_le_mul (by omega) (Int.mul_le_mul_of_nonneg_right hp (by omega)) (by omega) (by omega)
      omega
theorem numOf_long {most : Int} {l : List UInt8} (hm : most < 1000) (h9 : 9 ≤ most) (hl : 3 < l.length) : numOf most l = none := by
  match l, hl with
  | c :: r, hl =>
    unfold numOf
    simp only
    by_cases h : c = 48
    · rw [if_pos ⟨h, by intro e; rw [e] at hl; simp at hl⟩]
    · rw [if_neg (by rintro ⟨e, _⟩; exact h e)]
      exact digs_far h hm (by simp at hl; omega) h9
/-- All digits, whatever they come to. -/
def digA : Int → List UInt8 → Option Int
  | n, [] => some n
  | n, c :: r => if c < 48 ∨ 57 < c then none else digA (10 * n + ((c.toNat : Int) - 48)) r
theorem digA_ge : ∀ {l : List UInt8} {n v : Int}, digA n l = some v → 0 ≤ n → n ≤ v
  | [], n, v, h, _ => by simp [digA] at h; omega
  | c :: r, n, v, h, h0 => by
    by_cases hb : c < 48 ∨ 57 < c
    · unfold digA at h; rw [if_pos hb] at h; cases h
    · have hc : 48 ≤ (c.toNat : Int) := by
        have hh : ¬ (c.toNat : Int) < 48 := fun hh => hb (.inl ((u8_lt c).1.2 hh))
        omega
      unfold digA at h
      rw [if_neg hb] at h
      have := digA_ge h (by omega)
      omega
theorem digs_all {most : Int} : ∀ {l : List UInt8} {n : Int}, 0 ≤ n → n ≤ most → digs most n l = (digA n l).bind (fun v => if most < v then none else some v)
  | [], n, _, hn => by simp [digs, digA]; omega
  | c :: r, n, h0, hn => by
    by_cases hb : c < 48 ∨ 57 < c
    · unfold digs digA; rw [if_pos hb, if_pos hb]; rfl
    · have hc : 48 ≤ (c.toNat : Int) := by
        have hh : ¬ (c.toNat : Int) < 48 := fun hh => hb (.inl ((u8_lt c).1.2 hh))
        omega
      unfold digs digA
      rw [if_neg hb, if_neg hb]
      by_cases h : most < 10 * n + ((c.toNat : Int) - 48)
      · rw [if_pos h]
        rcases ho : digA (10 * n + ((c.toNat : Int) - 48)) r with _ | v
        · rfl
        · have := digA_ge ho (by omega)
          simp only [Option.bind_some]
          rw [if_pos (by omega)]
      · rw [if_neg h]
        exact digs_all (by omega) (by omega)
/-- The document's number of digits. -/
def smallV (most : Int) (l : List UInt8) : Int := (numOf most l).getD (-1)
end Go.Proofs.YtpmdmkemlbpnjaaDoor
