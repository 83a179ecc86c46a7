/- 'AddrTexts': any prefix, and any address, as a text. -/
import Derived.Test.YtoflpkpgbbnngaaDoorDigits02
namespace Go.Proofs.YtoflpkpgbbnngaaDoor
open Go.RowKit

theorem rshow_no (a n : Int) (w : World) (h0 : 0 ≤ a) (h1 : a < 4294967296) (hk : okP a n = false) :
    Calls Tryd.prog 27 #[.agg #[.int .u32 a, .int .i64 n]] w fun e w' => ShowPost [63] e ∧ Below w.heap.size w w' := by
  have HC := Lib.hid (rcheck_any a n (w.alloc (.cells #[.int .u32 a, .int .i64 n] 24)) h0 h1)
  rw [hk] at HC
  have HB := Lib.hid ((Below.refl w.heap.size w).alloc (Nat.le_refl _) (.cells #[.int .u32 a, .int .i64 n] 24))
  clear hk
  go_enter Tryd.func27, Tryd.ntmps27
  go_wp2_with fail
  refine HC.out.mono ?_; rintro e w1 ⟨rfl, hb1⟩
  have HB1 := Lib.hid (HB.out.trans (hb1.mono HB.out.size))
  clear hb1
  go_wp2_with fail
  go_ret
  exact ⟨⟨_, rfl, rfl, by decide⟩, HB1.out⟩

set_option maxHeartbeats 1000000 in
theorem rshow_ok (a n : Int) (w : World) (h0 : 0 ≤ a) (h1 : a < 4294967296) (hk : okP a n = true) :
    Calls Tryd.prog 27 #[.agg #[.int .u32 a, .int .i64 n]] w fun e w' => ShowPost (showL a n) e ∧ Below w.heap.size w w' := by
  have ⟨n0, n1⟩ := okP_len hk
  obtain ⟨N, rfl⟩ := Int.eq_ofNat_of_zero_le n0
  have HC := Lib.hid (rcheck_any a N (w.alloc (.cells #[.int .u32 a, .int .i64 N] 24)) h0 h1)
  rw [hk] at HC
  have HB := Lib.hid ((Below.refl w.heap.size w).alloc (Nat.le_refl _) (.cells #[.int .u32 a, .int .i64 N] 24))
  have HX := Lib.hid (Box.new w (.int .u32 a) (.int .i64 N))
  have hI : ∀ W, Calls Tryd.prog 42 #[.int .i64 N] W fun e w' => e = .returned (.string ⟨(Lib.itoa N).toArray⟩) ∧ W = w' := fun W => digits_any N W (by omega)
  have sv := itoa_size N n0 (by omega)
  obtain ⟨V, hV⟩ : ∃ V : ByteArray, V = ⟨(Lib.itoa N).toArray⟩ := ⟨_, rfl⟩
  rw [← hV] at sv hI
  have HVV := Lib.hid hV
  have HI := Lib.hid hI
  clear hk hV hI
  go_enter Tryd.func27, Tryd.ntmps27
  go_wp2_with fail
  refine HC.out.mono ?_; rintro e w1 ⟨rfl, hb1⟩
  have HB1 := Lib.hid (HB.out.trans (hb1.mono HB.out.size))
  have HX1 := Lib.hid (HX.out.below hb1)
  have C0 : w1.drew.cell? ⟨w.heap.size, 0, none⟩ = some (.int .u32 a) := HX1.out.c0
  have C1 : w1.drew.cell? ⟨w.heap.size, 1, none⟩ = some (.int .i64 N) := HX1.out.c1
  have BB : Hid (Below w.heap.size w w1.drew) := HB1.out.drew
  clear hb1
  go_wp2_with fail
  go_region_held (fun w' => w'.cell? ⟨w.heap.size, 0, none⟩ = some (.int .u32 a) ∧ w'.cell? ⟨w.heap.size, 1, none⟩ = some (.int .i64 N)) (refine ⟨?_, ?_⟩ <;> assumption) (first | (go_at_call 28; refine (rdotted_any a _ h0 h1).mono ?_; rintro e w2 ⟨⟨S1, rfl, hS, hz⟩, hb2⟩; have k0 : w2.cell? ⟨w.heap.size, 0, none⟩ = some (.int .u32 a) := keep hb2 (by assumption); have k1 : w2.cell? ⟨w.heap.size, 1, none⟩ = some (.int .i64 N) := keep hb2 (by assumption); have HS := Lib.hid hS; have BB := Lib.hid (BB.out.trans (hb2.mono BB.out.size)); clear hS hb2) | (go_at_call 42; refine (HI.out _).mono ?_; rintro e w2 ⟨rfl, rfl⟩))
  all_goals
    go_wp2_with fail
    go_ret
    refine ⟨⟨_, rfl, ?_, ?_⟩, BB.out⟩
    · rw [append_data, append_data, HS.out, HVV.out]
      simp [showL]
    · rw [append_size, append_size]
      have : (ByteArray.mk #[47]).size = 1 := rfl
      omega

/-- The text of a prefix. -/
def showP (a n : Int) : List UInt8 := if okP a n then showL a n else [63]
theorem showP_size {a n : Int} {e : Ending} (h : ShowPost (showP a n) e) : e = .returned (.string ⟨(showP a n).toArray⟩) ∧ (⟨(showP a n).toArray⟩ : ByteArray).size ≤ 20 := by
  obtain ⟨S, rfl, hs, hz⟩ := h
  obtain rfl := str_eq (a := (showP a n).toArray) (by simpa using hs)
  exact ⟨rfl, hz⟩

theorem show_str (a n : Int) (w : World) (h0 : 0 ≤ a) (h1 : a < 4294967296) (ht : Tab w) :
    Calls Tryd.prog 24 #[.agg #[.int .u32 a, .int .i64 n]] w fun e w' => e = .returned (.string ⟨(showP a n).toArray⟩) ∧ Below w.heap.size w w' := by
  have h : Calls Tryd.prog 24 #[.agg #[.int .u32 a, .int .i64 n]] w fun e w' => ShowPost (showP a n) e ∧ Below w.heap.size w w' := by
    unfold showP
    rcases hk : okP a n with _ | _
    · exact show_no a n w hk
    · exact show_ok a n w h0 h1 ht hk
  exact h.mono fun e w' h => ⟨(showP_size h.1).1, h.2⟩
theorem rshow_str (a n : Int) (w : World) (h0 : 0 ≤ a) (h1 : a < 4294967296) :
    Calls Tryd.prog 27 #[.agg #[.int .u32 a, .int .i64 n]] w fun e w' => e = .returned (.string ⟨(showP a n).toArray⟩) ∧ Below w.heap.size w w' := by
  have h : Calls Tryd.prog 27 #[.agg #[.int .u32 a, .int .i64 n]] w fun e w' => ShowPost (showP a n) e ∧ Below w.heap.size w w' := by
    unfold showP
    rcases hk : okP a n with _ | _
    · exact rshow_no a n w h0 h1 hk
    · exact rshow_ok a n w h0 h1 hk
  exact h.mono fun e w' h => ⟨(showP_size h.1).1, h.2⟩
theorem dot_str (a : Int) (w : World) (h0 : 0 ≤ a) (h1 : a < 4294967296) (ht : Tab w) :
    Calls Tryd.prog 26 #[.int .u32 a] w fun e w' => e = .returned (.string ⟨(dotL (putL a 4) 3).toArray⟩) ∧ Below w.heap.size w w' :=
  (dotted_any a w h0 h1 ht).mono fun e w' ⟨⟨S, he, hs, _⟩, hb⟩ => ⟨by rw [he, str_eq (a := (dotL (putL a 4) 3).toArray) (S := S) (by simpa using hs)], hb⟩
theorem rdot_str (a : Int) (w : World) (h0 : 0 ≤ a) (h1 : a < 4294967296) :
    Calls Tryd.prog 28 #[.int .u32 a] w fun e w' => e = .returned (.string ⟨(dotL (putL a 4) 3).toArray⟩) ∧ Below w.heap.size w w' :=
  (rdotted_any a w h0 h1).mono fun e w' ⟨⟨S, he, hs, _⟩, hb⟩ => ⟨by rw [he, str_eq (a := (dotL (putL a 4) 3).toArray) (S := S) (by simpa using hs)], hb⟩
theorem size_max {S : ByteArray} {k : Nat} (h : S.data.toList.length ≤ k) (hk : k ≤ 100) : S.size ≤ 9223372036854775807 := by
  rw [data_len] at h; omega
theorem dot_len {l : List Int} (hl : l.length = 4) (hx : InByte l) : (dotL l 3).length ≤ 15 := by
  obtain ⟨x0, x1, x2, x3, rfl⟩ := list_four hl
  have h0 : 0 ≤ x0 ∧ x0 ≤ 255 := hx 0 (by simp)
  have h1 : 0 ≤ x1 ∧ x1 ≤ 255 := hx 1 (by simp)
  have h2 : 0 ≤ x2 ∧ x2 ≤ 255 := hx 2 (by simp)
  have h3 : 0 ≤ x3 ∧ x3 ≤ 255 := hx 3 (by simp)
  obtain ⟨n0, rfl⟩ := Int.eq_ofNat_of_zero_le h0.1
  obtain ⟨n1, rfl⟩ := Int.eq_ofNat_of_zero_le h1.1
  obtain ⟨n2, rfl⟩ := Int.eq_ofNat_of_zero_le h2.1
  obtain ⟨n3, rfl⟩ := Int.eq_ofNat_of_zero_le h3.1
  rw [dot_shape]
  have := itoa_len n0 (by omega)
  have := itoa_len n1 (by omega)
  have := itoa_len n2 (by omega)
  have := itoa_len n3 (by omega)
  simp only [List.length_append, List.length_cons]
  omega
theorem show_len {a n : Int} : (showP a n).length ≤ 20 := by
  unfold showP
  split
  · rename_i hk
    obtain ⟨n0, n1⟩ := okP_len hk
    obtain ⟨N, rfl⟩ := Int.eq_ofNat_of_zero_le n0
    have h1 := dot_len (putL_len a 4) (putL_byte a 4)
    have h2 := itoa_len N (by omega)
    unfold showL
    simp only [List.length_append, List.length_cons]
    omega
  · decide
theorem addr_back (a : Int) (w : World) (h0 : 0 ≤ a) (h1 : a < 4294967296) :
    Calls Tryd.prog 25 #[.string ⟨(dotL (putL a 4) 3).toArray⟩] w fun e w' => e = .returned (.tuple #[.int .u32 a, .int .i64 0]) ∧ Below w.heap.size w w' := by
  refine (address_any ⟨(dotL (putL a 4) 3).toArray⟩ w (size_max (k := 15) (by simpa using dot_len (putL_len a 4) (putL_byte a 4)) (by omega))).mono fun e w' ⟨he, hb⟩ => ⟨?_, hb⟩
  rw [show (⟨(dotL (putL a 4) 3).toArray⟩ : ByteArray).data.toList = dotL (putL a 4) 3 from by simp, addr_dot (putL_len a 4) (putL_byte a 4)] at he
  unfold AddrOut at he
  dsimp only at he
  rw [he, putL_back (by omega) (by omega) (fits4 h0 h1)]
theorem parse_back (a n : Int) (w : World) (h0 : 0 ≤ a) (h1 : a < 4294967296) :
    Calls Tryd.prog 23 #[.string ⟨(showP a n).toArray⟩] w fun e w' => ParsePost (if okP a n then some (a, n) else none) e ∧ Below w.heap.size w w' := by
  refine (parse_any ⟨(showP a n).toArray⟩ w (size_max (k := 20) (by simpa using show_len) (by omega))).mono fun e w' ⟨he, hb⟩ => ⟨?_, hb⟩
  rw [show (⟨(showP a n).toArray⟩ : ByteArray).data.toList = showP a n from by simp] at he
  unfold showP at he
  rcases hk : okP a n with _ | _
  · rw [hk, if_neg (by decide)] at he
    rw [parse_sign] at he
    exact he
  · rw [hk, if_pos rfl, parse_show h0 h1 hk] at he
    exact he
end Go.Proofs.YtoflpkpgbbnngaaDoor
