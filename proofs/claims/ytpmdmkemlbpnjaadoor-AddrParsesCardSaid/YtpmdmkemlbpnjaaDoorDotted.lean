/- The contract of addr's Dotted: four bytes in digits, points between. -/
import Derived.Test.YtpmdmkemlbpnjaaDoorAddress
namespace Go.Proofs.YtpmdmkemlbpnjaaDoor
open Go.RowKit

/-- The library's table of powers of ten holds what the program's text lays. -/
def Tab (w : World) : Prop := Lib.TabIs Tryd.prog w "internal/strconv.uint64pow10" .u64 Lib.pow10Tab
theorem tab_named : Tryd.prog.globalNamed "internal/strconv.uint64pow10" = some 1 := by kernel_rfl
theorem Tab.lt {w : World} (h : Tab w) : 1 < w.heap.size := by
  unfold Tab Lib.TabIs World.var? at h
  rw [tab_named] at h
  rcases Nat.lt_or_ge 1 w.heap.size with h1 | h1
  · exact h1
  · simp [Array.getElem?_eq_none h1] at h
theorem Tab.below {w w' : World} (h : Tab w) (hb : Below w.heap.size w w') : Tab w' := var?_below hb tab_named h.lt h
theorem Tab.drewN {w : World} (h : Tab w) (n : Nat) : Tab (w.drewN n) := h.below (below_drewN (Below.refl _ _) n)

theorem below_grow (w : World) (os : Array Obj) : Below w.heap.size w (Go.Sort.grow w os) :=
  ⟨rfl, rfl, rfl, by simp [Go.Sort.grow], fun k hk => by simp [Go.Sort.grow, Array.getElem?_append_left hk]⟩

theorem itoa_any (n : Int) (w : World) (h0 : 0 ≤ n) (h1 : n ≤ 1000000) (ht : Tab w) :
    Calls Tryd.prog 28 #[.int .i64 n] w fun e w' => e = .returned (.string ⟨(Lib.itoa n).toArray⟩) ∧ Below w.heap.size w w' := by
  refine (Tryd.strconv_Itoa n (by omega) (by omega) w ht).mono ?_
  rintro e w' ⟨rfl, k, os, rfl⟩
  exact ⟨rfl, (below_drewN (Below.refl w.heap.size w) k).trans (below_grow (w.drewN k) os)⟩

theorem itoa_len : ∀ n : Nat, n < 256 → (Lib.itoa n).length ≤ 3 := by decide +kernel

/-- The first bytes in digits, points between. -/
def dotL (l : List Int) : Nat → List UInt8
  | 0 => Lib.itoa (l.getD 0 0)
  | k + 1 => dotL l k ++ (46 :: Lib.itoa (l.getD (k + 1) 0))

def DotRel (l : List Int) (g : Nat) (w : World) (s i : Value) (wr : World) : Prop :=
  ∃ (k : Nat) (S : ByteArray), k ≤ 3 ∧ i = .int .i64 k ∧ s = .string S ∧ S.data.toList = dotL l k ∧ S.size ≤ 3 + 4 * k ∧ wr.rowIs g 57 4 (fun j => .int .u8 (l.getD j 0)) ∧ Tab wr ∧ Below w.heap.size w wr

theorem itoa_size (n : Int) (h0 : 0 ≤ n) (h1 : n ≤ 255) : (⟨(Lib.itoa n).toArray⟩ : ByteArray).size ≤ 3 := by
  obtain ⟨k, rfl⟩ := Int.eq_ofNat_of_zero_le h0
  have := itoa_len k (by omega)
  simpa [ByteArray.size] using this
theorem append_data (a b : ByteArray) : (a ++ b).data.toList = a.data.toList ++ b.data.toList := by simp
theorem append_size (a b : ByteArray) : (a ++ b).size = a.size + b.size := by simp

def DotPost (a : Int) (e : Ending) : Prop := ∃ S : ByteArray, e = .returned (.string S) ∧ S.data.toList = dotL (putL a 4) 3 ∧ S.size ≤ 15

theorem dotted_any (a : Int) (w : World) (h0 : 0 ≤ a) (h1 : a < 4294967296) (ht : Tab w) :
    Calls Tryd.prog 13 #[.int .u32 a] w fun e w' => DotPost a e ∧ Below w.heap.size w w' := by
  have hp := apart_any a w h0 h1
  have hby := putL_byte a 4
  obtain ⟨x0, x1, x2, x3, hx⟩ := list_four (putL_len a 4)
  unfold DotPost
  rw [hx] at hp hby ⊢
  have b0 : 0 ≤ x0 ∧ x0 ≤ 255 := hby 0 (by simp)
  have HP := Lib.hid (show Calls Tryd.prog 26 #[.int .u32 a] w fun e w' => e = .returned (.agg #[.int .u8 x0, .int .u8 x1, .int .u8 x2, .int .u8 x3]) ∧ Below w.heap.size w w' from hp)
  have HT := Lib.hid ht
  have HBY := Lib.hid hby
  obtain ⟨b00, b01⟩ := b0
  clear ht hp hby hx
  go_enter Tryd.func13, Tryd.ntmps13
  go_wp2_with fail
  refine HP.out.mono ?_; rintro e w1 ⟨rfl, hb⟩
  have HB := Lib.hid (hb.alloc hb.size (.cells #[.int .u8 x0, .int .u8 x1, .int .u8 x2, .int .u8 x3] 57))
  have HT1 := Lib.hid (HT.out.below HB.out)
  have HR := Lib.hid (row_four w1 (.int .u8 x0) (.int .u8 x1) (.int .u8 x2) (.int .u8 x3) 57)
  have HZ := Lib.hid hb.size
  clear hb
  go_wp2_with fail
  refine (itoa_any x0 _ b00 (by omega) HT1.out).mono ?_; rintro e w2 ⟨rfl, hb2⟩
  have HB2 := Lib.hid (HB.out.trans (hb2.mono HB.out.size))
  have HT2 := Lib.hid (HT1.out.below hb2)
  have HR2 := Lib.hid (World.rowIs.of_block HR.out (hb2.block _ (World.rowIs.lt HR.out)))
  have s0 := itoa_size x0 b00 b01
  obtain ⟨S0, hS0⟩ : ∃ S0 : ByteArray, S0 = ⟨(Lib.itoa x0).toArray⟩ := ⟨_, rfl⟩
  rw [← hS0] at s0 ⊢
  have HS0 := Lib.hid hS0
  clear hb2 hS0
  go_wp2_with fail
  go_loopw [4, 15] (fun s i wr => DotRel [x0, x1, x2, x3] w1.heap.size w s i wr) (fun _ i _ => 3 - (intOf i).toNat)
  case atStart =>
    refine ⟨0, S0, by omega, rfl, rfl, by rw [HS0.out]; rfl, by omega, HR2.out.congr fun i hi => ?_, HT2.out, HB2.out⟩
    have : i = 0 ∨ i = 1 ∨ i = 2 ∨ i = 3 := by omega
    rcases this with rfl | rfl | rfl | rfl <;> rfl
  case round =>
    obtain ⟨k, S, hk, rfl, rfl, hd, hs, hrow, htab, hbw⟩ := hrel
    have HD := Lib.hid hd
    have HTB := Lib.hid htab
    have HBW := Lib.hid hbw
    have HRW := Lib.hid hrow
    by_cases hlt : k < 3
    · have hc := hrow.cell (i := 1 + k) (by omega)
      have hc' := hrow.cell (i := k + 1) (by omega)
      rw [Nat.add_comm 1 k] at hc
      obtain ⟨v, hv⟩ : ∃ v, [x0, x1, x2, x3].getD (k + 1) 0 = v := ⟨_, rfl⟩
      have hvb := HBY.out (k + 1) (by simp; omega)
      rw [hv] at hc hc' hvb
      obtain ⟨v0, v1⟩ := hvb
      rw [Nat.add_comm k 1] at hc
      have HV := Lib.hid hv
      clear hd htab hbw hrow hv
      go_wp2_with fail
      refine (itoa_any v wr v0 (by omega) HTB.out).mono ?_; rintro e w3 ⟨rfl, hb3⟩
      have HB3 := Lib.hid hb3
      have sv := itoa_size v v0 v1
      obtain ⟨V, hV⟩ : ∃ V : ByteArray, V = ⟨(Lib.itoa v).toArray⟩ := ⟨_, rfl⟩
      rw [← hV] at sv ⊢
      have HVV := Lib.hid hV
      clear hb3 hV
      go_wp2_with fail
      go_roundw
      case rel =>
        refine ⟨k + 1, _, by omega, by go_num, rfl, ?_, ?_, World.rowIs.of_block HRW.out (HB3.out.block _ (World.rowIs.lt HRW.out)), HTB.out.below HB3.out, HBW.out.trans (HB3.out.mono HBW.out.size)⟩
        · rw [append_data, append_data, HD.out, HVV.out, dotL, HV.out]; rfl
        · rw [append_size, append_size]
          have : (ByteArray.mk #[46]).size = 1 := rfl
          omega
      case measure => simp [intOf]; omega
    · have e : k = 3 := by omega
      subst e
      clear hd htab hbw hrow
      go_wp2_with fail
      go_ret
      exact ⟨⟨S, rfl, HD.out, by omega⟩, HBW.out⟩
end Go.Proofs.YtpmdmkemlbpnjaaDoor
