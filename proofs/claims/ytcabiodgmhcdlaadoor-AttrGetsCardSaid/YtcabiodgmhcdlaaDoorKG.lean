/- num's Get. -/
import Derived.Test.YtcabiodgmhcdlaaDoorKW
namespace Go.Proofs.YtcabiodgmhcdlaaDoor
open Go.RowKit
theorem get_wide (p : Option Addr) (len cap : Nat) (w : World) (h : wideB len = false) :
    Calls Tryd.prog 58 #[.slice p len cap] w fun e w' => e = .returned (.tuple #[.int .i64 0, .int .i64 10]) ∧ w = w' := by
  go_enter Tryd.func58, Tryd.ntmps58
  go_wp2_with (go_at_call 56; refine (wide_any _ _).mono ?_; rintro e w' ⟨rfl, rfl⟩)
  go_ret2
  exact ⟨rfl, rfl⟩
theorem get_some (p : Option Addr) (xs : List Int) (cap : Nat) (w : World) (h1 : 1 ≤ xs.length) (h4 : xs.length ≤ 4) (hb : BytesAt w p xs) :
    Calls Tryd.prog 58 #[.slice p xs.length cap] w fun e w' => e = .returned (.tuple #[.int .i64 (getV xs), .int .i64 0]) ∧ w = w' := by
  have hwb : wideB xs.length = true := by simp [wideB]; omega
  obtain ⟨hx, hb⟩ := hb
  rcases hb with rfl | ⟨b, off, rfl, hc⟩
  · simp at h1
  have hbd := getV_bd xs hx
  generalize hL : xs.length = len at *
  have HL := Lib.hid hL; clear hL
  go_enter Tryd.func58, Tryd.ntmps58
  go_wp2_with (go_at_call 56; refine (wide_any _ _).mono ?_; rintro e w' ⟨rfl, rfl⟩)
  clear hwb
  have HX := Lib.hid hx
  have HC := Lib.hid hc
  have HB := Lib.hid hbd
  clear hx hc hbd
  go_loop [4, 13] (fun n i => ∃ k : Nat, k ≤ len ∧ i = .int .i64 k ∧ n = .int .u32 (getV (xs.take k))) (fun _ i => len - (intOf i).toNat)
  case atStart => exact ⟨0, Nat.zero_le _, rfl, rfl⟩
  case round =>
    obtain ⟨k, hk, rfl, rfl⟩ := hrel
    have ⟨v0, v1⟩ := HB.out k hk
    by_cases hlt : k < len
    · have hs := Lib.hid (getV_snoc xs k (by rw [HL.out]; exact hlt))
      have ⟨x0, x1⟩ := HX.out k hlt
      have hck := HC.out k hlt
      have hp := pow_small (k := k) (by omega)
      have ho := or_byte (getV (xs.take k)) (xs.getD k 0) v0 (by omega) x0 x1
      generalize getV (xs.take k) = V at *
      generalize xs.getD k 0 = x at *
      go_wp2
      go_round
      case rel => exact ⟨k + 1, by omega, by go_num, by rw [hs.out]⟩
      case measure => simp [intOf]; omega
    · have e : k = len := by omega
      subst e
      have hp := pow_most h4
      have hfin : getV (xs.take k) = getV xs := by rw [List.take_of_length_le (by rw [HL.out]; exact Nat.le_refl _)]
      rw [hfin] at v0 v1 ⊢
      clear hfin
      generalize hV : getV xs = V at *
      have HV := Lib.hid hV; clear hV
      go_wp2
      go_ret2
      exact ⟨by rw [HV.out]; rfl, rfl⟩
end Go.Proofs.YtcabiodgmhcdlaaDoor
