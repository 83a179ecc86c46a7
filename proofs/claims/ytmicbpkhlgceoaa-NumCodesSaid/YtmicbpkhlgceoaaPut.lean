/- Contracts of num's Put, and of the document's own beside it. -/
import Derived.Test.YtmicbpkhlgceoaaPart
import Derived.Deep.OwnRows
import Derived.WalkSmall
namespace Go.Proofs.Ytmicbpkhlgceoaa
open Go.RowKit

theorem bcell {W w1 : World} (hb : Below W.heap.size W w1) : (∀ b o, b < W.heap.size → w1.cell? ⟨b, o, none⟩ = W.cell? ⟨b, o, none⟩) ∧ (∀ b o, b < W.heap.size → w1.frozen? ⟨b, o, none⟩ = W.frozen? ⟨b, o, none⟩) :=
  ⟨fun b o h => hb.cell (p := ⟨b, o, none⟩) h, fun b o h => hb.frozen (p := ⟨b, o, none⟩) h⟩

def wideB (n : Int) : Bool := decide (1 ≤ n) && decide (n ≤ 4)
theorem wideB_yes {n : Int} (h : wideB n = true) : 1 ≤ n ∧ n ≤ 4 := by simpa [wideB] using h
theorem wideB_no {n : Int} (h : wideB n = false) : n < 1 ∨ 4 < n := by
  unfold wideB at h
  by_cases h1 : 1 ≤ n
  · right; simp [h1] at h; omega
  · left; omega
theorem wide_any (n : Int) (w : World) :
    Calls Try.prog 36 #[.int .i64 n] w fun e w' => e = .returned (.bool (wideB n)) ∧ w = w' := by
  by_cases h1 : 1 ≤ n
  · go_enter Try.func36, Try.ntmps36
    go_wp2
    go_ret
    exact ⟨ret_bool (by simp [wideB, h1]), rfl⟩
  · go_enter Try.func36, Try.ntmps36
    go_wp2
    go_ret
    exact ⟨ret_bool (by unfold wideB; rw [decide_eq_false (by omega)]; rfl), rfl⟩

theorem put_wide (n : Int) (wide : Int) (w : World) (h : wideB wide = false) :
    Calls Try.prog 11 #[.int .i64 n, .int .i64 wide] w fun e w' => e = .returned (.tuple #[.slice none 0 0, .int .i64 1]) ∧ w = w' := by
  go_enter Try.func11, Try.ntmps11
  go_wp2_with (go_at_call 36; refine (wide_any _ _).mono ?_; rintro e w' ⟨rfl, rfl⟩)
  go_ret2
  exact ⟨rfl, rfl⟩

theorem info5 : (Try.prog.info? 5).map (fun i => (i.zero, i.size, i.bytes)) = some (some (.int .u8 0), 1, 1) := by kernel_rfl

/-- Does a number fit into so many bytes? -/
def fitsB (n : Int) (wide : Nat) : Bool := decide (0 ≤ n) && decide (n < 2 ^ (8 * wide))
theorem fitsB_yes {n : Int} {wide : Nat} (h : fitsB n wide = true) : 0 ≤ n ∧ n < 2 ^ (8 * wide) := by simpa [fitsB] using h
theorem pow8 (k : Nat) : (2 : Int) ^ (8 * k) = 256 ^ k := by rw [Int.pow_mul]; rfl
theorem wideMax {wide : Nat} (h4 : wide ≤ 4) : (2 : Int) ^ (8 * wide) ≤ 4294967296 := by
  have : wide = 0 ∨ wide = 1 ∨ wide = 2 ∨ wide = 3 ∨ wide = 4 := by omega
  rcases this with rfl | rfl | rfl | rfl | rfl <;> decide
theorem fits_shr {n : Int} {wide : Nat} (h : fitsB n wide = true) : (n / 2 ^ (8 * wide) != 0) = false := by
  obtain ⟨h0, h1⟩ := fitsB_yes h
  rw [Int.ediv_eq_zero_of_lt h0 h1]; rfl
theorem not_fits_shr {n : Int} {wide : Nat} (h : fitsB n wide = false) : (n / 2 ^ (8 * wide) != 0) = true := by
  have hp : (0 : Int) < 2 ^ (8 * wide) := Int.pow_pos (by omega)
  rw [bne_iff_ne]
  intro e
  have h1 : 0 ≤ n := by
    rcases Int.lt_or_le n 0 with h2 | h2
    · have := Int.ediv_neg_of_neg_of_pos h2 hp; omega
    · exact h2
  have h2 : n < 2 ^ (8 * wide) := by
    rcases Int.lt_or_le n (2 ^ (8 * wide)) with h3 | h3
    · exact h3
    · have := (Int.le_ediv_iff_mul_le hp).2 (show 1 * 2 ^ (8 * wide) ≤ n by omega); omega
  simp [fitsB, h1, h2] at h

theorem put_num (n : Int) (wide : Nat) (w : World) (h1 : 1 ≤ wide) (h4 : wide ≤ 4) (h : fitsB n wide = false) :
    Calls Try.prog 11 #[.int .i64 n, .int .i64 wide] w fun e w' => e = .returned (.tuple #[.slice none 0 0, .int .i64 10]) ∧ w = w' := by
  have hwb : wideB wide = true := by simp [wideB]; omega
  have hq := not_fits_shr h
  go_enter Try.func11, Try.ntmps11
  go_wp2_with (go_at_call 36; refine (wide_any _ _).mono ?_; rintro e w' ⟨rfl, rfl⟩)
  go_ret2
  exact ⟨rfl, rfl⟩

/-- Byte j of a number in so many bytes, the highest first. -/
def byteOf (n : Int) (wide j : Nat) : Int := n / 256 ^ (wide - 1 - j) % 256
/-- Block g holds the bytes of n, and nothing else. -/
def PutRow (w : World) (g : Nat) (n : Int) (wide : Nat) : Prop := w.rowIs g 5 wide (fun j => .int .u8 (byteOf n wide j))

theorem pow_div (n : Int) (a : Nat) : n / 256 ^ a / 256 = n / 256 ^ (a + 1) := by
  rw [Int.pow_succ, Int.ediv_ediv_of_nonneg]
  exact Int.le_of_lt (Int.pow_pos (by omega))
theorem rest_lt {n : Int} (a : Nat) (h0 : 0 ≤ n) (h : n < 4294967296) : 0 ≤ n / 256 ^ a ∧ n / 256 ^ a < 4294967296 := by
  have hp : (0 : Int) < 256 ^ a := Int.pow_pos (by omega)
  exact ⟨Int.ediv_nonneg h0 (Int.le_of_lt hp), by have := Int.ediv_le_self (256 ^ a) h0; omega⟩

theorem putRow_step {wr : World} {B : Nat} {f : Nat → Value} {n : Int} {wide k : Nat} (hk : 1 ≤ k) (hkw : k ≤ wide) (hr : wr.rowIs B 5 wide f) (hf : ∀ j, k ≤ j → j < wide → f j = .int .u8 (byteOf n wide j)) :
    ∃ f', (wr.setCell ⟨B, k - 1, none⟩ (.int .u8 (n / 256 ^ (wide - k) % 256))).rowIs B 5 wide f' ∧ ∀ j, k - 1 ≤ j → j < wide → f' j = .int .u8 (byteOf n wide j) := by
  refine ⟨_, hr.set (k - 1) _, fun j h1 h2 => ?_⟩
  by_cases e : j = k - 1
  · subst e
    rw [if_pos rfl]
    unfold byteOf
    rw [show wide - 1 - (k - 1) = wide - k from by omega]
  · rw [if_neg e]
    exact hf j (by omega) h2

def PutRel (n : Int) (wide : Nat) (w : World) (rest i : Value) (wr : World) : Prop :=
  ∃ k : Nat, k ≤ wide ∧ i = .int .i64 ((k : Int) - 1) ∧ rest = .int .u32 (n / 256 ^ (wide - k)) ∧ Below w.heap.size w wr ∧ w.heap.size < wr.heap.size ∧ ∃ f, wr.rowIs w.heap.size 5 wide f ∧ ∀ j, k ≤ j → j < wide → f j = .int .u8 (byteOf n wide j)

theorem put_fits (n : Int) (wide : Nat) (w : World) (h1 : 1 ≤ wide) (h4 : wide ≤ 4) (h : fitsB n wide = true) :
    Calls Try.prog 11 #[.int .i64 n, .int .i64 wide] w fun e w' => e = .returned (.tuple #[.slice (some ⟨w.heap.size, 0, none⟩) wide wide, .int .i64 0]) ∧ PutRow w' w.heap.size n wide ∧ Below w.heap.size w w' := by
  have hwb : wideB wide = true := by simp [wideB]; omega
  have hq := fits_shr h
  have ⟨h0, hlt⟩ := fitsB_yes h
  have hmx := wideMax h4
  have hmod : n % 4294967296 = n := by omega
  have hmk := run_make_row' (P := Try.prog) 22 5 (.int .u8 0) 1 Try.underlying22 info5 rfl .i64 .i64 wide (by omega) (by omega)
  clear h
  go_enter Try.func11, Try.ntmps11
  go_wp2_with (go_at_call 36; refine (wide_any _ _).mono ?_; rintro e w' ⟨rfl, rfl⟩)
  clear hmk hq hwb
  go_loopw [7, 8] (fun rest i wr => PutRel n wide w rest i wr) (fun _ i _ => (1 + intOf i).toNat)
  case atStart =>
    refine ⟨wide, Nat.le_refl _, rfl, by rw [Nat.sub_self, Int.pow_zero, Int.ediv_one], (Below.refl _ _).alloc (Nat.le_refl _) _, by simp, _, World.rowIs_made _ _ _ _, fun j h1 h2 => by omega⟩
  case round =>
    obtain ⟨k, hk, rfl, rfl, hb, hz, f, hrow, hf⟩ := hrel
    by_cases hk0 : k = 0
    · subst hk0
      go_wp2
      go_ret2
      exact ⟨rfl, hrow.congr fun i hi => hf i (by omega) hi, hb⟩
    · have hcell := hrow.cell (i := k - 1) (by omega)
      have hfr := hrow.frozen (k - 1)
      have ⟨r0, r1⟩ := rest_lt (wide - k) h0 (show n < 4294967296 by omega)
      have HR := Lib.hid hrow
      have HF := Lib.hid hf
      have HB := Lib.hid hb
      clear hrow hf hb hmod
      go_wp2
      go_roundw
      case rel =>
        obtain ⟨f', hrow', hf'⟩ := putRow_step (by omega) hk HR.out HF.out
        refine ⟨k - 1, by omega, by rw [show ((k : Int) - 1 - 1) = ((k - 1 : Nat) : Int) - 1 from by omega], ?_, HB.out.setCell (Nat.le_refl _) _, by simpa [World.setCell] using hz, f', hrow', hf'⟩
        rw [pow_div, show wide - (k - 1) = wide - k + 1 from by omega]
      case measure => simp [intOf]; omega

theorem rfits_any (n : Int) (wide : Nat) (w : World) (h4 : wide ≤ 4) :
    Calls Try.prog 14 #[.int .i64 n, .int .i64 wide] w fun e w' => e = .returned (.bool (fitsB n wide)) ∧ w = w' := by
  have hw : wide = 0 ∨ wide = 1 ∨ wide = 2 ∨ wide = 3 ∨ wide = 4 := by omega
  by_cases h1 : 0 ≤ n
  · rcases hw with rfl | rfl | rfl | rfl | rfl
    all_goals
      go_enter Try.func14, Try.ntmps14
      go_wp2
      go_ret
      exact ⟨ret_bool (by simp [fitsB, h1]), rfl⟩
  · go_enter Try.func14, Try.ntmps14
    go_wp2
    go_ret
    exact ⟨ret_bool (by unfold fitsB; rw [decide_eq_false (by omega)]; rfl), rfl⟩

def RPutRel (n : Int) (wide : Nat) (w : World) (rest i : Value) (wr : World) : Prop :=
  ∃ k : Nat, k ≤ wide ∧ i = .int .i64 ((k : Int) - 1) ∧ rest = .int .i64 (n / 256 ^ (wide - k)) ∧ Below w.heap.size w wr ∧ w.heap.size < wr.heap.size ∧ ∃ f, wr.rowIs w.heap.size 5 wide f ∧ ∀ j, k ≤ j → j < wide → f j = .int .u8 (byteOf n wide j)

theorem rput_fits (n : Int) (wide : Nat) (w : World) (h1 : 1 ≤ wide) (h4 : wide ≤ 4) (h : fitsB n wide = true) :
    Calls Try.prog 15 #[.int .i64 n, .int .i64 wide] w fun e w' => e = .returned (.slice (some ⟨w.heap.size, 0, none⟩) wide wide) ∧ PutRow w' w.heap.size n wide ∧ Below w.heap.size w w' := by
  have ⟨h0, hlt⟩ := fitsB_yes h
  have hmx := wideMax h4
  have hmk := run_make_row' (P := Try.prog) 22 5 (.int .u8 0) 1 Try.underlying22 info5 rfl .i64 .i64 wide (by omega) (by omega)
  clear h
  go_enter Try.func15, Try.ntmps15
  go_wp2
  clear hmk
  go_loopw [0, 6] (fun rest i wr => RPutRel n wide w rest i wr) (fun _ i _ => (1 + intOf i).toNat)
  case atStart =>
    refine ⟨wide, Nat.le_refl _, rfl, by rw [Nat.sub_self, Int.pow_zero, Int.ediv_one], (Below.refl _ _).alloc (Nat.le_refl _) _, by simp, _, World.rowIs_made _ _ _ _, fun j h1 h2 => by omega⟩
  case round =>
    obtain ⟨k, hk, rfl, rfl, hb, hz, f, hrow, hf⟩ := hrel
    by_cases hk0 : k = 0
    · subst hk0
      go_wp2
      go_ret
      exact ⟨rfl, hrow.congr fun i hi => hf i (by omega) hi, hb⟩
    · have hcell := hrow.cell (i := k - 1) (by omega)
      have hfr := hrow.frozen (k - 1)
      have ⟨r0, r1⟩ := rest_lt (wide - k) h0 (show n < 4294967296 by omega)
      have HR := Lib.hid hrow
      have HF := Lib.hid hf
      have HB := Lib.hid hb
      have hmm : n / 256 ^ (wide - k) % 256 % 256 = n / 256 ^ (wide - k) % 256 := by omega
      clear hrow hf hb
      go_wp2
      go_roundw
      case rel =>
        obtain ⟨f', hrow', hf'⟩ := putRow_step (by omega) hk HR.out HF.out
        refine ⟨k - 1, by omega, by rw [show ((k : Int) - 1 - 1) = ((k - 1 : Nat) : Int) - 1 from by omega], ?_, HB.out.setCell (Nat.le_refl _) _, by simpa [World.setCell] using hz, f', hrow', hf'⟩
        rw [pow_div, show wide - (k - 1) = wide - k + 1 from by omega]
      case measure => simp [intOf]; omega
end Go.Proofs.Ytmicbpkhlgceoaa
