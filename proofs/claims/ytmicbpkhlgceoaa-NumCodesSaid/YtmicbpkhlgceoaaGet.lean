/- Contracts of num's Get, and of the document's own beside it. -/
import Derived.Test.YtmicbpkhlgceoaaPut
namespace Go.Proofs.Ytmicbpkhlgceoaa
open Go.RowKit

/-- A slice's bytes, wherever they lie. -/
def BytesAt (w : World) (p : Option Addr) (xs : List Int) : Prop :=
  (∀ i, i < xs.length → 0 ≤ xs.getD i 0 ∧ xs.getD i 0 ≤ 255) ∧ (xs = [] ∨ ∃ b off, p = some ⟨b, off, none⟩ ∧ ∀ i, i < xs.length → w.cell? ⟨b, off + i, none⟩ = some (.int .u8 (xs.getD i 0)))

/-- The number of bytes, the highest first. -/
def getV (xs : List Int) : Int := xs.foldl (fun n x => 256 * n + x) 0

theorem take_snoc' (xs : List Int) (k : Nat) (h : k < xs.length) : xs.take (k + 1) = xs.take k ++ [xs.getD k 0] := by
  rw [List.take_succ_eq_append_getElem h]; simp [List.getD, List.getElem?_eq_getElem h]
theorem getV_snoc (xs : List Int) (k : Nat) (h : k < xs.length) : getV (xs.take (k + 1)) = 256 * getV (xs.take k) + xs.getD k 0 := by
  unfold getV; rw [take_snoc' xs k h, List.foldl_append]; rfl
theorem getV_bd (xs : List Int) (hx : ∀ i, i < xs.length → 0 ≤ xs.getD i 0 ∧ xs.getD i 0 ≤ 255) : ∀ k, k ≤ xs.length → 0 ≤ getV (xs.take k) ∧ getV (xs.take k) < 256 ^ k
  | 0, _ => by simp [getV]
  | k + 1, h => by
    have ⟨h1, h2⟩ := getV_bd xs hx k (by omega)
    have ⟨h3, h4⟩ := hx k (by omega)
    rw [getV_snoc xs k (by omega), Int.pow_succ]
    omega

theorem or_byte (n x : Int) (h0 : 0 ≤ n) (h1 : n < 16777216) (hx0 : 0 ≤ x) (hx1 : x ≤ 255) : bits BinOp.or IntKind.u32 (n * 256) x = 256 * n + x := by
  obtain ⟨N, rfl⟩ := Int.eq_ofNat_of_zero_le h0
  obtain ⟨X, rfl⟩ := Int.eq_ofNat_of_zero_le hx0
  have := u32_or_nat (N * 256) X (by omega) (by omega)
  rw [nat_join 8 (N * 256) X (by omega) (by omega)] at this
  rw [show ((N : Int) * 256) = ((N * 256 : Nat) : Int) from by omega, this]; omega

theorem get_wide (p : Option Addr) (len cap : Nat) (w : World) (h : wideB len = false) :
    Calls Try.prog 12 #[.slice p len cap] w fun e w' => e = .returned (.tuple #[.int .i64 0, .int .i64 10]) ∧ w = w' := by
  go_enter Try.func12, Try.ntmps12
  go_wp2_with (go_at_call 36; refine (wide_any _ _).mono ?_; rintro e w' ⟨rfl, rfl⟩)
  go_ret2
  exact ⟨rfl, rfl⟩

theorem pow_small {k : Nat} (h : k ≤ 3) : (256 : Int) ^ k ≤ 16777216 := by
  have : k = 0 ∨ k = 1 ∨ k = 2 ∨ k = 3 := by omega
  rcases this with rfl | rfl | rfl | rfl <;> decide

theorem pow_most {k : Nat} (h : k ≤ 4) : (256 : Int) ^ k ≤ 4294967296 := by
  have : k = 0 ∨ k = 1 ∨ k = 2 ∨ k = 3 ∨ k = 4 := by omega
  rcases this with rfl | rfl | rfl | rfl | rfl <;> decide

theorem get_some (p : Option Addr) (xs : List Int) (cap : Nat) (w : World) (h1 : 1 ≤ xs.length) (h4 : xs.length ≤ 4) (hb : BytesAt w p xs) :
    Calls Try.prog 12 #[.slice p xs.length cap] w fun e w' => e = .returned (.tuple #[.int .i64 (getV xs), .int .i64 0]) ∧ w = w' := by
  have hwb : wideB xs.length = true := by simp [wideB]; omega
  obtain ⟨hx, hb⟩ := hb
  rcases hb with rfl | ⟨b, off, rfl, hc⟩
  · simp at h1
  have hbd := getV_bd xs hx
  generalize hL : xs.length = len at *
  have HL := Lib.hid hL; clear hL
  go_enter Try.func12, Try.ntmps12
  go_wp2_with (go_at_call 36; refine (wide_any _ _).mono ?_; rintro e w' ⟨rfl, rfl⟩)
  clear hwb
  have HX := Lib.hid hx
  have HC := Lib.hid hc
  have HB := Lib.hid hbd
  clear hx hc hbd
  go_loop [4, 13] (fun n i => ∃ k : Nat, k ≤ len ∧ i = .int .i64 k ∧ n = .int .u32 (getV (xs.take k))) (fun _ i => len - (intOf i).toNat)
  case atStart => exact ⟨0, Nat.zero_le _, rfl, rfl⟩
  case round =>
    obtain ⟨k, hk, rfl, rfl⟩ := hrel
    have ⟨v0, v1⟩ := HB.out k hk
    by_cases hlt : k < len
    · have hs := Lib.hid (getV_snoc xs k (by rw [HL.out]; exact hlt))
      have ⟨x0, x1⟩ := HX.out k hlt
      have hck := HC.out k hlt
      have hp := pow_small (k := k) (by omega)
      have ho := or_byte (getV (xs.take k)) (xs.getD k 0) v0 (by omega) x0 x1
      generalize getV (xs.take k) = V at *
      generalize xs.getD k 0 = x at *
      go_wp2
      go_round
      case rel => exact ⟨k + 1, by omega, by go_num, by rw [hs.out]⟩
      case measure => simp [intOf]; omega
    · have e : k = len := by omega
      subst e
      have hp := pow_most h4
      have hfin : getV (xs.take k) = getV xs := by rw [List.take_of_length_le (by rw [HL.out]; exact Nat.le_refl _)]
      rw [hfin] at v0 v1 ⊢
      clear hfin
      generalize hV : getV xs = V at *
      have HV := Lib.hid hV; clear hV
      go_wp2
      go_ret2
      exact ⟨by rw [HV.out]; rfl, rfl⟩

theorem rget_any (p : Option Addr) (xs : List Int) (cap : Nat) (w : World) (h4 : xs.length ≤ 4) (hb : BytesAt w p xs) :
    Calls Try.prog 13 #[.slice p xs.length cap] w fun e w' => e = .returned (.int .i64 (getV xs)) ∧ w = w' := by
  obtain ⟨hx, hb⟩ := hb
  rcases hb with rfl | ⟨b, off, rfl, hc⟩
  · go_enter Try.func13, Try.ntmps13
    go_wp2
    go_loop [3, 4] (fun n i => i = .int .i64 0 ∧ n = .int .i64 0) (fun _ i => 0)
    case atStart => exact ⟨rfl, rfl⟩
    case round =>
      obtain ⟨rfl, rfl⟩ := hrel
      go_wp2
      go_ret
      exact ⟨rfl, rfl⟩
  have hbd := getV_bd xs hx
  generalize hL : xs.length = len at *
  have HL := Lib.hid hL; clear hL
  go_enter Try.func13, Try.ntmps13
  go_wp2
  have HX := Lib.hid hx
  have HC := Lib.hid hc
  have HB := Lib.hid hbd
  clear hx hc hbd
  go_loop [3, 4] (fun n i => ∃ k : Nat, k ≤ len ∧ i = .int .i64 k ∧ n = .int .i64 (getV (xs.take k))) (fun _ i => len - (intOf i).toNat)
  case atStart => exact ⟨0, Nat.zero_le _, rfl, rfl⟩
  case round =>
    obtain ⟨k, hk, rfl, rfl⟩ := hrel
    have ⟨v0, v1⟩ := HB.out k hk
    by_cases hlt : k < len
    · have hs := Lib.hid (getV_snoc xs k (by rw [HL.out]; exact hlt))
      have ⟨x0, x1⟩ := HX.out k hlt
      have hck := HC.out k hlt
      have hp := pow_small (k := k) (by omega)
      generalize getV (xs.take k) = V at *
      generalize xs.getD k 0 = x at *
      go_wp2
      go_round
      case rel => exact ⟨k + 1, by omega, by go_num, by rw [hs.out]⟩
      case measure => simp [intOf]; omega
    · have e : k = len := by omega
      subst e
      have hp := pow_most h4
      have hfin : getV (xs.take k) = getV xs := by rw [List.take_of_length_le (by rw [HL.out]; exact Nat.le_refl _)]
      rw [hfin] at v0 v1 ⊢
      clear hfin
      generalize hV : getV xs = V at *
      have HV := Lib.hid hV; clear hV
      go_wp2
      go_ret
      exact ⟨by rw [HV.out]; rfl, rfl⟩
end Go.Proofs.Ytmicbpkhlgceoaa
