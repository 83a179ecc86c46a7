/- meter: room, then. -/
import Derived.Test.YtgididkpgncdjaaZE
import Derived.Deep.RegionHeldLaw
namespace Go.Proofs.Ytgididkpgncdjaa
open Go.RowKit Go.Maps
set_option linter.unusedVariables false
set_option linter.unusedSimpArgs false
set_option maxRecDepth 100000

def others (i k : Nat) : Nat := if i < k then k - 1 else k
set_option maxHeartbeats 4000000 in
theorem mroom_any (w : World) (B m b : Nat) (V : Nat → Mv) (P : Nat → Mp) (H : MtAt w B m b V P) (i : Nat) (hi : i < 16) :
    Calls Try.prog 32 #[.pointer (some ⟨m, 0, none⟩), .int .i64 i] w fun e w' => ∃ N : Int, e = .returned (.int .i64 N) ∧ 1024 ≤ N ∧ N ≤ 16384 ∧ Below w.heap.size w w' := by
  have HK := Lib.hid H
  have h0 := H.at0
  clear H
  go_enter Try.func32, Try.ntmps32
  go_wp2_with fail
  go_loopw [5, 13] (fun nv iv wr => ∃ (k : Nat) (N : Int), k ≤ 16 ∧ iv = .int .i64 k ∧ nv = .int .i64 N ∧ 16384 - 1024 * (others i k : Int) ≤ N ∧ N ≤ 16384 ∧ Below w.heap.size w wr) (fun _ iv _ => 16 - (intOf iv).toNat)
  case atStart => exact ⟨0, 16384, Nat.zero_le _, rfl, rfl, by unfold others; simp, by omega, Below.refl _ _⟩
  case round =>
    obtain ⟨k, N, hk, rfl, rfl, hN, hN2, hB⟩ := hrel
    have HB := Lib.hid hB
    have HK1 := Lib.hid (HK.out.below hB)
    clear hB
    by_cases hlt : k < 16
    · have hlt' : (k : Int) < 16 := by omega
      have k0 : (0 : Int) ≤ (k : Int) := by omega
      have t1 : decide ((k : Int) < 16) = true := decide_eq_true hlt'
      have HS := Lib.hid (fun (U : World) (hU : Below wr.heap.size wr U) => (HK1.out.below hU).src hlt)
      obtain ⟨s, hs, hln⟩ := (((HK1.out.cm k hlt).below (newB wr (.cells #[.int .i64 (V k).q, .int .i64 (V k).a, .bool (V k).h, .map (P k).1, .map (P k).2] 62))).below (show Below (wr.alloc (.cells #[.int .i64 (V k).q, .int .i64 (V k).a, .bool (V k).h, .map (P k).1, .map (P k).2] 62)).heap.size (wr.alloc (.cells #[.int .i64 (V k).q, .int .i64 (V k).a, .bool (V k).h, .map (P k).1, .map (P k).2] 62)) (wr.alloc (.cells #[.int .i64 (V k).q, .int .i64 (V k).a, .bool (V k).h, .map (P k).1, .map (P k).2] 62)).drew from (Below.refl _ _).drew)).len
      have hX := Blk.new wr 62 [.int .i64 (V k).q, .int .i64 (V k).a, .bool (V k).h, .map (P k).1, .map (P k).2]
      have hBQ := (newB wr (.cells #[.int .i64 (V k).q, .int .i64 (V k).a, .bool (V k).h, .map (P k).1, .map (P k).2] 62)).drew
      obtain ⟨⟨q, a, hh, L, R⟩, hv⟩ : ∃ v, V k = v := ⟨_, rfl⟩
      obtain ⟨⟨c, r⟩, hp⟩ : ∃ p, P k = p := ⟨_, rfl⟩
      rw [hv, hp] at HS hln hX hBQ
      dsimp only at HS hln hX hBQ
      obtain ⟨Q, hQ⟩ : ∃ Q, (wr.alloc (.cells #[.int .i64 q, .int .i64 a, .bool hh, .map c, .map r] 62)).drew = Q := ⟨_, rfl⟩
      have hx : Q.cell? ⟨wr.heap.size, 3, none⟩ = some (.map c) := hQ ▸ (ms_boxes hX.drew).2.2.2.1
      rw [hQ] at hln hBQ
      have HQ := Lib.hid hQ
      have HBQ := Lib.hid (HB.out.trans (hBQ.mono HB.out.size))
      have hS := HS.out wr.drew (Below.refl _ _).drew
      clear hv hp hQ hX hBQ
      go_wp2_with fail
      go_region_held_law (fun W => W.cell? ⟨b, k * 5, none⟩ = some (.int .i64 q) ∧ W.cell? ⟨b, k * 5 + 1, none⟩ = some (.int .i64 a) ∧ W.cell? ⟨b, k * 5 + 2, none⟩ = some (.bool hh) ∧ W.cell? ⟨b, k * 5 + 3, none⟩ = some (.map c) ∧ W.cell? ⟨b, k * 5 + 4, none⟩ = some (.map r)) (first | with_reducible assumption | exact HS.out _ ((Below.refl _ _).drew.alloc (Nat.le_refl _) _)) (fail)
      clear hS
      by_cases he : k = i
      · subst he
        have t2 : ((k : Int) != (k : Int)) = false := by simp
        have hoth : others k (k + 1) = others k k := by unfold others; rw [if_pos (by omega), if_neg (by omega)]; omega
        rw [HQ.out]
        go_wp2_with fail
        go_roundw
        case rel => exact ⟨k + 1, N, by omega, by go_num, rfl, by rw [hoth]; exact hN, hN2, HBQ.out⟩
        case measure => simp [intOf]; omega
      · have t2 : ((k : Int) != (i : Int)) = true := by simp; omega
        have hoth : others i (k + 1) = others i k + 1 := by unfold others; split <;> split <;> omega
        have ho16 : others i k ≤ 16 := by unfold others; split <;> omega
        have w1 : wrap64 (N - s) = N - s := IntWalk.wrap64_in _ (by omega)
        rw [HQ.out]
        go_wp2_with fail
        go_roundw
        case rel => exact ⟨k + 1, N - s, by omega, by go_num, rfl, by rw [hoth]; omega, by omega, HBQ.out⟩
        case measure => simp [intOf]; omega
    · obtain rfl : k = 16 := by omega
      have t1 : decide (((16 : Nat) : Int) < 16) = false := by decide
      have ho : others i 16 = 15 := by unfold others; rw [if_pos hi]
      rw [ho] at hN
      go_wp2_with fail
      go_ret
      exact ⟨N, rfl, by omega, hN2, HB.out⟩
end Go.Proofs.Ytgididkpgncdjaa
