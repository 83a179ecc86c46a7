/- What the contracts of addr share: bytes in memory; num's Mask, Put and Get; the document's own Put and Get. -/
import Derived.Test.YtljbebeaahcjaaaRows
import Derived.WalkKit
import Derived.WalkSpells
import Derived.WalkLawsBesides
import Derived.Outline
import Derived.Lib.Hide
import Derived.Deep.QuietTactic
import Derived.BigQuiet
import Derived.Deep.DeepCutAuto
import Derived.Deep.RegionHeld
import Derived.Deep.RegionWith
import Derived.Deep.DeepMust
import Derived.Deep.OwnRows
import Derived.Laws.BitsAllLaws
import Derived.Laws.CopyOwn
import Derived.Laws.BytesArg
import Derived.IntWalk
import Derived.WalkSmall
namespace Go.Proofs.Ytljbebeaahcjaaa
open Go.RowKit
theorem ret_int {k : IntKind} {a b : Int} (h : a = b) : Ending.returned (.int k a) = .returned (.int k b) := by rw [h]
theorem ret_bool {a b : Bool} (h : a = b) : Ending.returned (.bool a) = .returned (.bool b) := by rw [h]
/-- How many bits, 0 to 32; and the number whose highest ones are 1. -/
def bitsOf (n : Int) : Nat := if n < 0 then 0 else if 32 < n then 32 else n.toNat
def mask (n : Int) : Int := ((4294967296 - 2 ^ (32 - bitsOf n) : Nat) : Int)
theorem bitsOf_le (n : Int) : bitsOf n ≤ 32 := by unfold bitsOf; split <;> (try split) <;> omega
theorem mask_nat : ∀ k : Nat, k < 33 → 4294967295 * 2 ^ (32 - k) % 4294967296 = 4294967296 - 2 ^ (32 - k) := by decide
theorem bcell {W w1 : World} (hb : Below W.heap.size W w1) : (∀ b o, b < W.heap.size → w1.cell? ⟨b, o, none⟩ = W.cell? ⟨b, o, none⟩) ∧ (∀ b o, b < W.heap.size → w1.frozen? ⟨b, o, none⟩ = W.frozen? ⟨b, o, none⟩) :=
  ⟨fun b o h => hb.cell (p := ⟨b, o, none⟩) h, fun b o h => hb.frozen (p := ⟨b, o, none⟩) h⟩
def wideB (n : Int) : Bool := decide (1 ≤ n) && decide (n ≤ 4)
theorem wideB_yes {n : Int} (h : wideB n = true) : 1 ≤ n ∧ n ≤ 4 := by simpa [wideB] using h
theorem wideB_no {n : Int} (h : wideB n = false) : n < 1 ∨ 4 < n := by
  unfold wideB at h
  by_cases h1 : 1 ≤ n
  · right; simp [h1] at h; omega
  · left; omega
theorem info5 : (Try.prog.info? 5).map (fun i => (i.zero, i.size, i.bytes)) = some (some (.int .u8 0), 1, 1) := by kernel_rfl
/-- Does a number fit into so many bytes? -/
def fitsB (n : Int) (wide : Nat) : Bool := decide (0 ≤ n) && decide (n < 2 ^ (8 * wide))
theorem fitsB_yes {n : Int} {wide : Nat} (h : fitsB n wide = true) : 0 ≤ n ∧ n < 2 ^ (8 * wide) := by simpa [fitsB] using h
theorem pow8 (k : Nat) : (2 : Int) ^ (8 * k) = 256 ^ k := by rw [Int.pow_mul]; rfl
theorem wideMax {wide : Nat} (h4 : wide ≤ 4) : (2 : Int) ^ (8 * wide) ≤ 4294967296 := by
  have : wide = 0 ∨ wide = 1 ∨ wide = 2 ∨ wide = 3 ∨ wide = 4 := by omega
  rcases this with rfl | rfl | rfl | rfl | rfl <;> decide
theorem fits_shr {n : Int} {wide : Nat} (h : fitsB n wide = true) : (n / 2 ^ (8 * wide) != 0) = false := by
  obtain ⟨h0, h1⟩ := fitsB_yes h
  rw [Int.ediv_eq_zero_of_lt h0 h1]; rfl
theorem not_fits_shr {n : Int} {wide : Nat} (h : fitsB n wide = false) : (n / 2 ^ (8 * wide) != 0) = true := by
  have hp : (0 : Int) < 2 ^ (8 * wide) := Int.pow_pos (by omega)
  rw [bne_iff_ne]
  intro e
  have h1 : 0 ≤ n := by
    rcases Int.lt_or_le n 0 with h2 | h2
    · have := Int.ediv_neg_of_neg_of_pos h2 hp; omega
    · exact h2
  have h2 : n < 2 ^ (8 * wide) := by
    rcases Int.lt_or_le n (2 ^ (8 * wide)) with h3 | h3
    · exact h3
    · have := (Int.le_ediv_iff_mul_le hp).2 (show 1 * 2 ^ (8 * wide) ≤ n by omega); omega
  simp [fitsB, h1, h2] at h
/-- Byte j of a number in so many bytes, the highest first. -/
def byteOf (n : Int) (wide j : Nat) : Int := n / 256 ^ (wide - 1 - j) % 256
/-- Block g holds the bytes of n, and nothing else. -/
def PutRow (w : World) (g : Nat) (n : Int) (wide : Nat) : Prop := w.rowIs g 5 wide (fun j => .int .u8 (byteOf n wide j))
theorem pow_div (n : Int) (a : Nat) : n / 256 ^ a / 256 = n / 256 ^ (a + 1) := by
  rw [Int.pow_succ, Int.ediv_ediv_of_nonneg]
  exact Int.le_of_lt (Int.pow_pos (by omega))
theorem rest_lt {n : Int} (a : Nat) (h0 : 0 ≤ n) (h : n < 4294967296) : 0 ≤ n / 256 ^ a ∧ n / 256 ^ a < 4294967296 := by
  have hp : (0 : Int) < 256 ^ a := Int.pow_pos (by omega)
  exact ⟨Int.ediv_nonneg h0 (Int.le_of_lt hp), by have := Int.ediv_le_self (256 ^ a) h0; omega⟩
theorem putRow_step {wr : World} {B : Nat} {f : Nat → Value} {n : Int} {wide k : Nat} (hk : 1 ≤ k) (hkw : k ≤ wide) (hr : wr.rowIs B 5 wide f) (hf : ∀ j, k ≤ j → j < wide → f j = .int .u8 (byteOf n wide j)) :
    ∃ f', (wr.setCell ⟨B, k - 1, none⟩ (.int .u8 (n / 256 ^ (wide - k) % 256))).rowIs B 5 wide f' ∧ ∀ j, k - 1 ≤ j → j < wide → f' j = .int .u8 (byteOf n wide j) := by
  refine ⟨_, hr.set (k - 1) _, fun j h1 h2 => ?_⟩
  by_cases e : j = k - 1
  · subst e
    rw [if_pos rfl]
    unfold byteOf
    rw [show wide - 1 - (k - 1) = wide - k from by omega]
  · rw [if_neg e]
    exact hf j (by omega) h2
def PutRel (n : Int) (wide : Nat) (w : World) (rest i : Value) (wr : World) : Prop :=
  ∃ k : Nat, k ≤ wide ∧ i = .int .i64 ((k : Int) - 1) ∧ rest = .int .u32 (n / 256 ^ (wide - k)) ∧ Below w.heap.size w wr ∧ w.heap.size < wr.heap.size ∧ ∃ f, wr.rowIs w.heap.size 5 wide f ∧ ∀ j, k ≤ j → j < wide → f j = .int .u8 (byteOf n wide j)
def RPutRel (n : Int) (wide : Nat) (w : World) (rest i : Value) (wr : World) : Prop :=
  ∃ k : Nat, k ≤ wide ∧ i = .int .i64 ((k : Int) - 1) ∧ rest = .int .i64 (n / 256 ^ (wide - k)) ∧ Below w.heap.size w wr ∧ w.heap.size < wr.heap.size ∧ ∃ f, wr.rowIs w.heap.size 5 wide f ∧ ∀ j, k ≤ j → j < wide → f j = .int .u8 (byteOf n wide j)
/-- A slice's bytes, wherever they lie. -/
def BytesAt (w : World) (p : Option Addr) (xs : List Int) : Prop :=
  (∀ i, i < xs.length → 0 ≤ xs.getD i 0 ∧ xs.getD i 0 ≤ 255) ∧ (xs = [] ∨ ∃ b off, p = some ⟨b, off, none⟩ ∧ ∀ i, i < xs.length → w.cell? ⟨b, off + i, none⟩ = some (.int .u8 (xs.getD i 0)))
/-- The number of bytes, the highest first. -/
def getV (xs : List Int) : Int := xs.foldl (fun n x => 256 * n + x) 0
theorem take_snoc' (xs : List Int) (k : Nat) (h : k < xs.length) : xs.take (k + 1) = xs.take k ++ [xs.getD k 0] := by
  rw [List.take_succ_eq_append_getElem h]; simp [List.getD, List.getElem?_eq_getElem h]
theorem getV_snoc (xs : List Int) (k : Nat) (h : k < xs.length) : getV (xs.take (k + 1)) = 256 * getV (xs.take k) + xs.getD k 0 := by
  unfold getV; rw [take_snoc' xs k h, List.foldl_append]; rfl
theorem getV_bd (xs : List Int) (hx : ∀ i, i < xs.length → 0 ≤ xs.getD i 0 ∧ xs.getD i 0 ≤ 255) : ∀ k, k ≤ xs.length → 0 ≤ getV (xs.take k) ∧ getV (xs.take k) < 256 ^ k
  | 0, _ => by simp [getV]
  | k + 1, h => by
    have ⟨h1, h2⟩ := getV_bd xs hx k (by omega)
    have ⟨h3, h4⟩ := hx k (by omega)
    rw [getV_snoc xs k (by omega), Int.pow_succ]
    omega
theorem or_byte (n x : Int) (h0 : 0 ≤ n) (h1 : n < 16777216) (hx0 : 0 ≤ x) (hx1 : x ≤ 255) : bits BinOp.or IntKind.u32 (n * 256) x = 256 * n + x := by
  obtain ⟨N, rfl⟩ := Int.eq_ofNat_of_zero_le h0
  obtain ⟨X, rfl⟩ := Int.eq_ofNat_of_zero_le hx0
  have := u32_or_nat (N * 256) X (by omega) (by omega)
  rw [nat_join 8 (N * 256) X (by omega) (by omega)] at this
  rw [show ((N : Int) * 256) = ((N * 256 : Nat) : Int) from by omega, this]; omega
theorem pow_small {k : Nat} (h : k ≤ 3) : (256 : Int) ^ k ≤ 16777216 := by
  have : k = 0 ∨ k = 1 ∨ k = 2 ∨ k = 3 := by omega
  rcases this with rfl | rfl | rfl | rfl <;> decide
theorem pow_most {k : Nat} (h : k ≤ 4) : (256 : Int) ^ k ≤ 4294967296 := by
  have : k = 0 ∨ k = 1 ∨ k = 2 ∨ k = 3 ∨ k = 4 := by omega
  rcases this with rfl | rfl | rfl | rfl | rfl <;> decide
/-- Block g is a row of just these bytes. -/
def BRow (w : World) (g : Nat) (xs : List Int) : Prop := w.rowIs g 5 xs.length (fun j => .int .u8 (xs.getD j 0))
def InByte (xs : List Int) : Prop := ∀ i, i < xs.length → 0 ≤ xs.getD i 0 ∧ xs.getD i 0 ≤ 255
theorem BRow.bytes {w : World} {g : Nat} {xs : List Int} (h : BRow w g xs) (hx : InByte xs) : BytesAt w (some ⟨g, 0, none⟩) xs :=
  ⟨hx, .inr ⟨g, 0, rfl, fun i hi => by rw [Nat.zero_add]; exact World.rowIs.cell h hi⟩⟩
theorem rowIs_of_list {w : World} {g : Nat} {t : TypeId} {cs : List Value} {f : Nat → Value} (h : w.heap[g]? = some (.cells cs.toArray t (0, 0))) (hf : ∀ i, i < cs.length → cs[i]? = some (f i)) : w.rowIs g t cs.length f :=
  ⟨_, h, by simp, fun i hi => by simpa using hf i hi⟩
theorem bytes_list (xs : List Int) (i : Nat) (h : i < xs.length) : (xs.map (Value.int .u8))[i]? = some (.int .u8 (xs.getD i 0)) := by
  simp [List.getD, List.getElem?_eq_getElem h]
theorem splice_all {α : Type} (L cs : List α) (h : L.length = cs.length) : splice L 0 cs = cs := by
  unfold splice; rw [List.take_zero, List.nil_append, Nat.zero_add, ← h, List.drop_length, List.append_nil]
theorem size5 : (Try.prog.info? 5).map (·.size) = some 1 := by kernel_rfl
theorem BytesAt.of_block {w w' : World} {b off : Nat} {xs : List Int} (h : BytesAt w (some ⟨b, off, none⟩) xs) (e : w'.heap[b]? = w.heap[b]?) : BytesAt w' (some ⟨b, off, none⟩) xs := by
  obtain ⟨hx, h⟩ := h
  refine ⟨hx, ?_⟩
  rcases h with h | ⟨b', off', hp, hc⟩
  · exact .inl h
  · simp only [Option.some.injEq, Addr.mk.injEq] at hp
    obtain ⟨rfl, rfl, _⟩ := hp
    exact .inr ⟨b, off, rfl, fun i hi => (World.cell?_of_block (w := w) (a := ⟨b, off + i, none⟩) e).trans (hc i hi)⟩
theorem BRow.below {w w' : World} {g : Nat} {xs : List Int} (h : BRow w g xs) (hb : Below w.heap.size w w') : BRow w' g xs := World.rowIs.of_block h (hb.block _ (World.rowIs.lt h))
theorem PutRow.row {w : World} {g : Nat} {n : Int} {wide : Nat} {xs : List Int} (h : PutRow w g n wide) (hl : xs.length = wide) (hx : ∀ j, j < wide → byteOf n wide j = xs.getD j 0) : BRow w g xs := by
  unfold BRow; rw [hl]
  exact World.rowIs.congr h (fun i hi => by rw [hx i hi])
theorem inByte_all {xs : List Int} (h : ∀ x ∈ xs, 0 ≤ x ∧ x ≤ 255) : InByte xs := fun i hi => by
  have : xs.getD i 0 = xs[i] := by simp [List.getD, List.getElem?_eq_getElem hi]
  rw [this]; exact h _ (List.getElem_mem hi)
theorem bytes_new (w : World) (xs : List Int) (hx : InByte xs) : BytesAt (w.alloc (.cells (xs.map (Value.int .u8)).toArray 5)) (some ⟨w.heap.size, 0, none⟩) xs :=
  BRow.bytes (World.rowIs.of_block (w := w.alloc (.cells (xs.map (Value.int .u8)).toArray 5)) (by
    have := World.rowIs_alloc w (xs.map (Value.int .u8)).toArray 5 (fun j => .int .u8 (xs.getD j 0)) (fun i hi => by
      rw [List.getElem?_toArray]; exact bytes_list xs i (by simpa using hi))
    simpa using this) rfl) hx
theorem BytesAt.below {w w' : World} {p : Option Addr} {xs : List Int} (h : BytesAt w p xs) (hb : Below w.heap.size w w') : BytesAt w' p xs := by
  obtain ⟨hx, h⟩ := h
  refine ⟨hx, ?_⟩
  rcases h with h | ⟨b, off, rfl, hc⟩
  · exact .inl h
  · exact .inr ⟨b, off, rfl, fun i hi => by
      have hk := hc i hi
      exact (hb.cell (p := ⟨b, off + i, none⟩) (World.block_lt_of_cell? w _ hk)).trans hk⟩
/-- The slice of bytes as the form reads it. -/
theorem bytesOfArg {W : World} {x : Addr} {l c : Nat} {zs : List Int} (hl : l ≤ c) (hz : zs.length = c) (hcell : ∀ i, i < zs.length → W.cell? (x.add i) = some (.int .u8 (zs.getD i 0))) (hwz : ∀ n ∈ zs, (Lit.int .u8 n).wf = true) :
    ∃ ys, l = ys.length ∧ BytesAt W (some x) ys := by
  refine ⟨zs.take l, by rw [List.length_take]; omega, ?_, ?_⟩
  · intro i hi
    rw [List.length_take] at hi
    have e : (zs.take l).getD i 0 = zs[i]'(by omega) := by
      simp [List.getD, List.getElem?_take_of_lt (show i < l by omega), List.getElem?_eq_getElem (show i < zs.length by omega)]
    rw [e]
    have := hwz _ (List.getElem_mem (show i < zs.length by omega))
    simp [Lit.wf, IntKind.min, IntKind.max, IntKind.signed, IntKind.bits] at this
    exact this
  · rcases Nat.eq_zero_or_pos l with h0 | h0
    · subst h0; exact .inl (by simp)
    · have h := hcell 0 (by omega)
      obtain ⟨b, off, spot⟩ := x
      have hspot : spot = none := by simpa [Addr.add] using World.cell?_spot h
      subst hspot
      refine .inr ⟨b, off, rfl, fun i hi => ?_⟩
      rw [List.length_take] at hi
      have hc := hcell i (by omega)
      rw [show (⟨b, off, none⟩ : Addr).add i = ⟨b, off + i, none⟩ from by unfold Addr.add; split <;> simp_all] at hc
      rw [hc]
      simp [List.getD, List.getElem?_take_of_lt (show i < l by omega)]
/-- The bytes of a number, as a list. -/
def putL (n : Int) (wide : Nat) : List Int := (List.range wide).map (byteOf n wide)
theorem putL_len (n : Int) (wide : Nat) : (putL n wide).length = wide := by simp [putL]
theorem putL_get (n : Int) (wide j : Nat) (h : j < wide) : byteOf n wide j = (putL n wide).getD j 0 := by
  simp [putL, List.getD, List.getElem?_map, List.getElem?_range h]
theorem putL_byte (n : Int) (wide : Nat) : InByte (putL n wide) := by
  intro i hi
  rw [putL_len] at hi
  rw [← putL_get n wide i hi]
  unfold byteOf
  omega
theorem PutRow.list {w : World} {g : Nat} {n : Int} {wide : Nat} (h : PutRow w g n wide) : BRow w g (putL n wide) := h.row (putL_len n wide) (putL_get n wide)
theorem putL_back {n : Int} {wide : Nat} (h1 : 1 ≤ wide) (h4 : wide ≤ 4) (h : fitsB n wide = true) : getV (putL n wide) = n := by
  obtain ⟨h0, hlt⟩ := fitsB_yes h
  have hw : wide = 1 ∨ wide = 2 ∨ wide = 3 ∨ wide = 4 := by omega
  rcases hw with rfl | rfl | rfl | rfl
  · rw [show (2 : Int) ^ (8 * 1) = 256 from rfl] at hlt
    simp [putL, List.range_succ, byteOf, getV]; omega
  · rw [show (2 : Int) ^ (8 * 2) = 65536 from rfl] at hlt
    simp [putL, List.range_succ, byteOf, getV]; omega
  · rw [show (2 : Int) ^ (8 * 3) = 16777216 from rfl] at hlt
    simp [putL, List.range_succ, byteOf, getV]; omega
  · rw [show (2 : Int) ^ (8 * 4) = 4294967296 from rfl] at hlt
    simp [putL, List.range_succ, byteOf, getV]; omega
end Go.Proofs.Ytljbebeaahcjaaa
