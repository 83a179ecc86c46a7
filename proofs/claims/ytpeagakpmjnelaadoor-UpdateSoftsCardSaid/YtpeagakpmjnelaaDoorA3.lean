/- attr: numbers, attribute, segments. -/
import Derived.Test.YtpeagakpmjnelaaDoorA2
import Derived.Deep.RegionHeldLaw
namespace Go.Proofs.YtpeagakpmjnelaaDoor.Ax
open Go.RowKit
set_option maxRecDepth 100000

/-- Bytes of one's own that a call hands back. -/
def RetB (w w' : World) (xs : List Int) (e : Ending) : Prop := ∃ p cap, e = .returned (.slice p xs.length cap) ∧ Own w' w.heap.size p cap xs ∧ Below w.heap.size w w'
def RetBn (w w' : World) (xs : List Int) (m : Nat) (e : Ending) : Prop := ∃ p cap, e = .returned (.slice p m cap) ∧ Own w' w.heap.size p cap xs ∧ Below w.heap.size w w'
/-- The bytes of numbers, one behind the other. -/
def numsL (wide : Nat) (xs : List Int) : List Int := xs.flatMap (fun n => putL n wide)
theorem numsL_len (wide : Nat) (xs : List Int) : (numsL wide xs).length = wide * xs.length := by
  induction xs with
  | nil => rfl
  | cons a t ih =>
    unfold numsL at *
    rw [List.flatMap_cons, List.length_append, putL_len, ih, List.length_cons, Nat.mul_add, Nat.mul_one, Nat.add_comm]
theorem numsL_snoc (wide : Nat) (xs : List Int) (k : Nat) (h : k < xs.length) : numsL wide (xs.take (k + 1)) = numsL wide (xs.take k) ++ putL (xs.getD k 0) wide := by
  unfold numsL
  rw [take_snoc' xs k h, List.flatMap_append]
  simp
def FitAll (wide : Nat) (xs : List Int) : Prop := ∀ i, i < xs.length → fitsB (xs.getD i 0) wide = true

def NumRel (w : World) (wide n : Nat) (xs : List Int) (b i : Value) (wr : World) : Prop :=
  ∃ (k : Nat) (p : Option Addr) (cap : Nat), k ≤ n ∧ i = .int .i64 k ∧ b = .slice p (wide * k) cap ∧ Own wr w.heap.size p cap (numsL wide (xs.take k)) ∧ Below w.heap.size w wr
set_option maxHeartbeats 1000000 in
theorem numbers_any (wide : Nat) (p : Option Addr) (xs : List Int) (n c : Nat) (w : World) (h1 : 1 ≤ wide) (h4 : wide ≤ 4) (hx : IntsAt w p xs) (hn : xs.length = n) (hl : n ≤ 100000) (hf : FitAll wide xs) :
    Calls Tryd.prog 72 #[.int .i64 wide, .slice p n c] w fun e w' => RetBn w w' (numsL wide xs) (wide * n) e := by
  have hwn : wide * n ≤ 400000 := by
    have := Nat.mul_le_mul h4 hl; omega
  have hmk : ∀ w, (Instr.makeSlice 32 (.int .i64 0) (.int .i64 ((wide : Int) * (n : Int)))).run Tryd.prog w = .ok (.slice (some ⟨w.heap.size, 0, none⟩) 0 (wide * n)) (w.alloc (.cells (madeCells #[.int .u8 0] (wide * n)) 5)) := fun w => by
    rw [show (wide : Int) * (n : Int) = ((wide * n : Nat) : Int) from by rw [Int.natCast_mul]]; exact run_make0 (wide * n) (by omega) w
  have hmi : (0 : Int) ≤ (wide : Int) * (n : Int) ∧ (wide : Int) * (n : Int) ≤ 400000 := by
    rw [← Int.natCast_mul]; omega
  obtain ⟨hm0, hm1⟩ := hmi
  have HX := Lib.hid hx
  have HN := Lib.hid hn
  have HF := Lib.hid hf
  have HWN := Lib.hid hwn
  clear hx hn hf hwn
  go_enter Tryd.func72, Tryd.ntmps72
  go_wp2
  clear hmk
  go_loopw [5, 17] (fun b i wr => NumRel w wide n xs b i wr) (fun _ i _ => n - (intOf i).toNat)
  case atStart => exact ⟨0, _, _, Nat.zero_le _, rfl, rfl, Own.made w w.heap.size (wide * n) (by have := HWN.out; unfold maxLen; omega) (Nat.le_refl _), new_below _ _⟩
  case round =>
    obtain ⟨k, q, cap, hk, rfl, rfl, hO, hB⟩ := hrel
    have HO := Lib.hid hO
    have HB := Lib.hid hB
    clear hO hB
    by_cases hlt : k < n
    · have hcell : ∃ b off, p = some ⟨b, off, none⟩ ∧ wr.cell? ⟨b, off + k, none⟩ = some (.int .i64 (xs.getD k 0)) := by
        rcases HX.out.below HB.out with h | ⟨b, off, hp, hc⟩
        · have := HN.out; rw [h] at this; simp at this; omega
        · exact ⟨b, off, hp, hc k (by rw [HN.out]; exact hlt)⟩
      obtain ⟨b, off, rfl, hc⟩ := hcell
      have HFX := Lib.hid (HF.out k (by rw [HN.out]; exact hlt))
      have HS := Lib.hid (numsL_snoc wide xs k (by rw [HN.out]; exact hlt))
      have HLK := Lib.hid (show (numsL wide (xs.take k)).length = wide * k by rw [numsL_len, List.length_take, HN.out, Nat.min_eq_left hk])
      obtain ⟨x, hx⟩ : ∃ x, xs.getD k 0 = x := ⟨_, rfl⟩
      rw [hx] at hc HFX HS
      clear hx
      have hwk : wide * k + wide = wide * (k + 1) := by rw [Nat.mul_add, Nat.mul_one]
      have hwk2 : wide * (k + 1) ≤ wide * n := Nat.mul_le_mul_left _ hlt
      have HWK := Lib.hid hwk
      have HW2 := Lib.hid hwk2
      clear hwk hwk2
      go_wp2_with fail
      refine (put_fits x wide wr h1 h4 HFX.out).mono ?_; rintro e w2 ⟨rfl, hr, hb⟩
      have HO2 := Lib.hid (HO.out.below hb)
      have HY2 := Lib.hid (hr.list.bytes (putL_byte x wide))
      have HB2 := Lib.hid (HB.out.trans (hb.mono HB.out.size))
      clear hr hb hc
      go_wp2_with (refine wpList_appo (o := ⟨some 29, _, _, _, _, _⟩) (by rfl) (.tmp 27) (.tmp 28) (by rfl) w.heap.size q cap (numsL wide (xs.take k)) HO2.out (wide * k) HLK.out (by rfl) _ wide wide (putL x wide) HY2.out (putL_len ..) (by rfl) (wide * (k + 1)) HWK.out (by have := HW2.out; have := HWN.out; omega) HB2.out.size ?_; intro q3 cap3 w3 hO3 hB3 hG3)
      go_roundw
      case rel => exact ⟨k + 1, q3, cap3, by omega, by go_num, rfl, by rw [HS.out]; exact hO3.out, HB2.out.trans hB3.out⟩
      case measure => simp [intOf]; omega
    · obtain rfl : k = n := by omega
      go_wp2
      go_ret
      have hO := HO.out
      rw [List.take_of_length_le (by rw [HN.out]; exact Nat.le_refl _)] at hO
      exact ⟨q, cap, rfl, hO, HB.out⟩
theorem ints_new (w : World) (xs : List Int) : IntsAt (w.alloc (.cells (xs.map (Value.int .i64)).toArray 3)) (some ⟨w.heap.size, 0, none⟩) xs := by
  have := Blk.new w 3 (xs.map (Value.int .i64))
  refine .inr ⟨w.heap.size, 0, rfl, fun i hi => ?_⟩
  have hc := this.cell i (by simpa using hi)
  rw [Nat.zero_add, hc]
  simp [List.getD, List.getElem?_eq_getElem hi]
theorem ints1 (w : World) (a : Int) : IntsAt (w.alloc (.cells #[.int .i64 a] 3)) (some ⟨w.heap.size, 0, none⟩) [a] := ints_new w [a]
theorem ints2 (w : World) (a b : Int) : IntsAt (w.alloc (.cells #[.int .i64 a, .int .i64 b] 3)) (some ⟨w.heap.size, 0, none⟩) [a, b] := ints_new w [a, b]
theorem fit1 {wide : Nat} {a : Int} (h : fitsB a wide = true) : FitAll wide [a] := fun i hi => by
  obtain rfl : i = 0 := by simpa using hi
  exact h
theorem fit2 {wide : Nat} {a b : Int} (ha : fitsB a wide = true) (hb : fitsB b wide = true) : FitAll wide [a, b] := fun i hi => by
  have : i = 0 ∨ i = 1 := by simp at hi; omega
  rcases this with rfl | rfl
  · exact ha
  · exact hb
theorem fit_byte {n : Int} (h0 : 0 ≤ n) (h1 : n ≤ 255) : fitsB n (1 : Nat) = true := by
  have : (2 : Int) ^ (8 * 1) = 256 := rfl
  simp [fitsB, this]; omega
theorem fit_two {n : Int} (h0 : 0 ≤ n) (h1 : n ≤ 65535) : fitsB n (2 : Nat) = true := by
  have : (2 : Int) ^ (8 * 2) = 65536 := rfl
  simp [fitsB, this]; omega
theorem fit_four {n : Int} (h0 : 0 ≤ n) (h1 : n ≤ 4294967295) : fitsB n (4 : Nat) = true := by
  have : (2 : Int) ^ (8 * 4) = 4294967296 := rfl
  simp [fitsB, this]; omega
theorem putL_one {x : Int} (h0 : 0 ≤ x) (h1 : x ≤ 255) : putL x 1 = [x] := by
  simp [putL, List.range_succ, byteOf]; omega
/-- numbers of a list that was just made: with the wide as it stands in the text. -/
theorem numbers_new (I : Int) (wide : Nat) (hI : I = wide) (p : Option Addr) (xs : List Int) (n c m : Nat) (w : World) (h1 : 1 ≤ wide) (h4 : wide ≤ 4) (hx : IntsAt w p xs) (hn : xs.length = n) (hl : n ≤ 100000) (hm : wide * n = m) (hf : FitAll wide xs) :
    Calls Tryd.prog 72 #[.int .i64 I, .slice p n c] w fun e w' => RetBn w w' (numsL wide xs) m e := by
  subst hI hm
  exact numbers_any wide p xs n c w h1 h4 hx hn hl hf
end Go.Proofs.YtpeagakpmjnelaaDoor.Ax
