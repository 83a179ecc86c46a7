/- num's Put. -/
import Derived.Test.YtcabiodgmhcdlaaDoorK0
namespace Go.Proofs.YtcabiodgmhcdlaaDoor
open Go.RowKit
theorem wide_any (n : Int) (w : World) :
    Calls Tryd.prog 56 #[.int .i64 n] w fun e w' => e = .returned (.bool (wideB n)) ∧ w = w' := by
  by_cases h1 : 1 ≤ n
  · go_enter Tryd.func56, Tryd.ntmps56
    go_wp2
    go_ret
    exact ⟨ret_bool (by simp [wideB, h1]), rfl⟩
  · go_enter Tryd.func56, Tryd.ntmps56
    go_wp2
    go_ret
    exact ⟨ret_bool (by unfold wideB; rw [decide_eq_false (by omega)]; rfl), rfl⟩
theorem put_wide (n : Int) (wide : Int) (w : World) (h : wideB wide = false) :
    Calls Tryd.prog 49 #[.int .i64 n, .int .i64 wide] w fun e w' => e = .returned (.tuple #[.slice none 0 0, .int .i64 1]) ∧ w = w' := by
  go_enter Tryd.func49, Tryd.ntmps49
  go_wp2_with (go_at_call 56; refine (wide_any _ _).mono ?_; rintro e w' ⟨rfl, rfl⟩)
  go_ret2
  exact ⟨rfl, rfl⟩
theorem put_num (n : Int) (wide : Nat) (w : World) (h1 : 1 ≤ wide) (h4 : wide ≤ 4) (h : fitsB n wide = false) :
    Calls Tryd.prog 49 #[.int .i64 n, .int .i64 wide] w fun e w' => e = .returned (.tuple #[.slice none 0 0, .int .i64 10]) ∧ w = w' := by
  have hwb : wideB wide = true := by simp [wideB]; omega
  have hq := not_fits_shr h
  go_enter Tryd.func49, Tryd.ntmps49
  go_wp2_with (go_at_call 56; refine (wide_any _ _).mono ?_; rintro e w' ⟨rfl, rfl⟩)
  go_ret2
  exact ⟨rfl, rfl⟩
def PutRel (n : Int) (wide : Nat) (w : World) (rest i : Value) (wr : World) : Prop :=
  ∃ k : Nat, k ≤ wide ∧ i = .int .i64 ((k : Int) - 1) ∧ rest = .int .u32 (n / 256 ^ (wide - k)) ∧ Below w.heap.size w wr ∧ w.heap.size < wr.heap.size ∧ ∃ f, wr.rowIs w.heap.size 5 wide f ∧ ∀ j, k ≤ j → j < wide → f j = .int .u8 (byteOf n wide j)
theorem put_fits (n : Int) (wide : Nat) (w : World) (h1 : 1 ≤ wide) (h4 : wide ≤ 4) (h : fitsB n wide = true) :
    Calls Tryd.prog 49 #[.int .i64 n, .int .i64 wide] w fun e w' => e = .returned (.tuple #[.slice (some ⟨w.heap.size, 0, none⟩) wide wide, .int .i64 0]) ∧ PutRow w' w.heap.size n wide ∧ Below w.heap.size w w' := by
  have hwb : wideB wide = true := by simp [wideB]; omega
  have hq := fits_shr h
  have ⟨h0, hlt⟩ := fitsB_yes h
  have hmx := wideMax h4
  have hmod : n % 4294967296 = n := by omega
  have hmk := run_make_row' (P := Tryd.prog) 29 5 (.int .u8 0) 1 Tryd.underlying29 info5 rfl .i64 .i64 wide (by omega) (by omega)
  clear h
  go_enter Tryd.func49, Tryd.ntmps49
  go_wp2_with (go_at_call 56; refine (wide_any _ _).mono ?_; rintro e w' ⟨rfl, rfl⟩)
  clear hmk hq hwb
  go_loopw [7, 8] (fun rest i wr => PutRel n wide w rest i wr) (fun _ i _ => (1 + intOf i).toNat)
  case atStart =>
    refine ⟨wide, Nat.le_refl _, rfl, by rw [Nat.sub_self, Int.pow_zero, Int.ediv_one], (Below.refl _ _).alloc (Nat.le_refl _) _, by simp, _, World.rowIs_made _ _ _ _, fun j h1 h2 => by omega⟩
  case round =>
    obtain ⟨k, hk, rfl, rfl, hb, hz, f, hrow, hf⟩ := hrel
    by_cases hk0 : k = 0
    · subst hk0
      go_wp2
      go_ret2
      exact ⟨rfl, hrow.congr fun i hi => hf i (by omega) hi, hb⟩
    · have hcell := hrow.cell (i := k - 1) (by omega)
      have hfr := hrow.frozen (k - 1)
      have ⟨r0, r1⟩ := rest_lt (wide - k) h0 (show n < 4294967296 by omega)
      have HR := Lib.hid hrow
      have HF := Lib.hid hf
      have HB := Lib.hid hb
      clear hrow hf hb hmod
      go_wp2
      go_roundw
      case rel =>
        obtain ⟨f', hrow', hf'⟩ := putRow_step (by omega) hk HR.out HF.out
        refine ⟨k - 1, by omega, by rw [show ((k : Int) - 1 - 1) = ((k - 1 : Nat) : Int) - 1 from by omega], ?_, HB.out.setCell (Nat.le_refl _) _, by simpa [World.setCell] using hz, f', hrow', hf'⟩
        rw [pow_div, show wide - (k - 1) = wide - k + 1 from by omega]
      case measure => simp [intOf]; omega
end Go.Proofs.YtcabiodgmhcdlaaDoor
