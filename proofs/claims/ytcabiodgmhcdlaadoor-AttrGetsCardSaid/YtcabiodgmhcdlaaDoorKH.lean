/- The document's own Get of a number. -/
import Derived.Test.YtcabiodgmhcdlaaDoorK0
namespace Go.Proofs.YtcabiodgmhcdlaaDoor
open Go.RowKit
theorem rget_any (p : Option Addr) (xs : List Int) (cap : Nat) (w : World) (h4 : xs.length ≤ 4) (hb : BytesAt w p xs) :
    Calls Tryd.prog 61 #[.slice p xs.length cap] w fun e w' => e = .returned (.int .i64 (getV xs)) ∧ w = w' := by
  obtain ⟨hx, hb⟩ := hb
  rcases hb with rfl | ⟨b, off, rfl, hc⟩
  · go_enter Tryd.func61, Tryd.ntmps61
    go_wp2
    go_loop [3, 4] (fun n i => i = .int .i64 0 ∧ n = .int .i64 0) (fun _ i => 0)
    case atStart => exact ⟨rfl, rfl⟩
    case round =>
      obtain ⟨rfl, rfl⟩ := hrel
      go_wp2
      go_ret
      exact ⟨rfl, rfl⟩
  have hbd := getV_bd xs hx
  generalize hL : xs.length = len at *
  have HL := Lib.hid hL; clear hL
  go_enter Tryd.func61, Tryd.ntmps61
  go_wp2
  have HX := Lib.hid hx
  have HC := Lib.hid hc
  have HB := Lib.hid hbd
  clear hx hc hbd
  go_loop [3, 4] (fun n i => ∃ k : Nat, k ≤ len ∧ i = .int .i64 k ∧ n = .int .i64 (getV (xs.take k))) (fun _ i => len - (intOf i).toNat)
  case atStart => exact ⟨0, Nat.zero_le _, rfl, rfl⟩
  case round =>
    obtain ⟨k, hk, rfl, rfl⟩ := hrel
    have ⟨v0, v1⟩ := HB.out k hk
    by_cases hlt : k < len
    · have hs := Lib.hid (getV_snoc xs k (by rw [HL.out]; exact hlt))
      have ⟨x0, x1⟩ := HX.out k hlt
      have hck := HC.out k hlt
      have hp := pow_small (k := k) (by omega)
      generalize getV (xs.take k) = V at *
      generalize xs.getD k 0 = x at *
      go_wp2
      go_round
      case rel => exact ⟨k + 1, by omega, by go_num, by rw [hs.out]⟩
      case measure => simp [intOf]; omega
    · have e : k = len := by omega
      subst e
      have hp := pow_most h4
      have hfin : getV (xs.take k) = getV xs := by rw [List.take_of_length_le (by rw [HL.out]; exact Nat.le_refl _)]
      rw [hfin] at v0 v1 ⊢
      clear hfin
      generalize hV : getV xs = V at *
      have HV := Lib.hid hV; clear hV
      go_wp2
      go_ret
      exact ⟨by rw [HV.out]; rfl, rfl⟩
end Go.Proofs.YtcabiodgmhcdlaaDoor
