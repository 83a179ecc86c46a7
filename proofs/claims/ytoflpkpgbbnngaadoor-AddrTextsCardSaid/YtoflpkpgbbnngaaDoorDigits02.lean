/- The document's own Digits, Dotted, Show. -/
import Derived.Test.YtoflpkpgbbnngaaDoorTexts02
namespace Go.Proofs.YtoflpkpgbbnngaaDoor
open Go.RowKit

/-- The digits still to come, ahead of those that stand. -/
def lead (m : Nat) : List UInt8 := if m = 0 then [] else Lib.itoa m
def DigRel (n : Nat) (m s : Value) : Prop :=
  ∃ (k : Nat) (S : ByteArray), k ≤ 255 ∧ m = .int .i64 k ∧ s = .string S ∧ S.size ≤ 3 ∧ (S.data.toList = [] ∧ k = n ∨ S.data.toList ≠ [] ∧ Lib.itoa n = lead k ++ S.data.toList)
def strSize : Value → Nat
  | .string S => S.size
  | _ => 0

theorem digit_cut : ∀ d : Nat, d < 10 → (ByteArray.extract ⟨#[48, 49, 50, 51, 52, 53, 54, 55, 56, 57]⟩ d (d + 1)).data.toList = [(48 + d).toUInt8] := by decide +kernel
theorem lead_next (m : Nat) (h0 : 0 < m) (h : m < 256) : Lib.itoa m = lead (m / 10) ++ [(48 + (m % 10)).toUInt8] := by
  unfold lead
  by_cases hm : m < 10
  · rw [if_pos (by omega)]; exact itoa_last m hm
  · rw [if_neg (by omega)]; exact itoa_next m h (by omega)

theorem digits_any (n : Nat) (w : World) (hn : n ≤ 255) :
    Calls Tryd.prog 42 #[.int .i64 n] w fun e w' => e = .returned (.string ⟨(Lib.itoa n).toArray⟩) ∧ w = w' := by
  go_enter Tryd.func42, Tryd.ntmps42
  go_wp2_with fail
  go_loop [0, 3] (fun m s => DigRel n m s) (fun m s => 2 * (intOf m).toNat + (if strSize s = 0 then 1 else 0))
  case atStart => exact ⟨n, ⟨#[]⟩, hn, rfl, rfl, by decide, .inl ⟨rfl, rfl⟩⟩
  case round =>
    obtain ⟨k, S, hk, rfl, rfl, hsz, hrel⟩ := hrel
    by_cases hend : k = 0 ∧ S.data.toList ≠ []
    · obtain ⟨rfl, hne⟩ := hend
      have hfin : S = ⟨(Lib.itoa n).toArray⟩ := str_eq (by
        rcases hrel with ⟨h, _⟩ | ⟨_, h⟩
        · exact absurd h hne
        · rw [h]; simp [lead])
      have hl : S.toList.isEmpty = false := by
        rw [ByteArray.toList_eq]
        rcases hh : S.data.toList with _ | ⟨c, r⟩
        · exact absurd hh hne
        · rfl
      have HF := Lib.hid hfin
      clear hfin hrel hne
      go_wp2_with fail
      go_ret
      exact ⟨by rw [← HF.out]; rfl, rfl⟩
    · have hgo : 0 < k ∨ S.data.toList = [] := by
        rcases Nat.eq_zero_or_pos k with h | h
        · right
          rcases hl : S.data.toList with _ | ⟨c, r⟩
          · rfl
          · exact absurd ⟨h, by rw [hl]; simp⟩ hend
        · left; exact h
      have hnew : Lib.itoa n = lead (k / 10) ++ ([(48 + (k % 10)).toUInt8] ++ S.data.toList) := by
        rcases hrel with ⟨h, rfl⟩ | ⟨h, h'⟩
        · rw [h, List.append_nil]
          rcases Nat.eq_zero_or_pos k with rfl | h0
          · decide +kernel
          · exact lead_next k h0 (by omega)
        · have h0 : 0 < k := by
            rcases hgo with h0 | h0
            · exact h0
            · exact absurd h0 h
          rw [h', ← List.append_assoc, ← lead_next k h0 (by omega)]
          unfold lead; rw [if_neg (by omega)]
      have hlen : S.size + 1 ≤ 3 := by
        have h3 := itoa_len n (by omega)
        rw [hnew] at h3
        simp only [List.length_append, List.length_cons, List.length_nil, data_len] at h3
        omega
      obtain ⟨d, hd⟩ : ∃ d, k % 10 = d := ⟨_, rfl⟩
      obtain ⟨q, hq⟩ : ∃ q, k / 10 = q := ⟨_, rfl⟩
      rw [hd, hq] at hnew
      have d10 : d < 10 := by omega
      have t1 : Int.tmod (k : Int) 10 = (d : Int) := by rw [Int.tmod_eq_emod_of_nonneg (by omega)]; omega
      have t2 : (k : Int) % 10 = (d : Int) := by omega
      have t3 : Int.tdiv (k : Int) 10 = (q : Int) := by rw [Int.tdiv_eq_ediv_of_nonneg (by omega)]; omega
      have t4 : (k : Int) / 10 = (q : Int) := by omega
      have HN := Lib.hid hnew
      have HD := Lib.hid (digit_cut d d10)
      have hsz2 := Lib.hid hlen
      have HQ := Lib.hid (And.intro hq hgo)
      have hcond : 0 < k ∨ S = ⟨#[]⟩ := hgo.imp id fun h => str_eq h
      clear hnew hlen hd hq hgo hrel hend
      rcases Nat.eq_zero_or_pos k with hk0 | hk0
      · obtain rfl : S = ⟨#[]⟩ := hcond.resolve_left (by omega)
        clear hcond
        subst hk0
        obtain rfl : d = 0 := by omega
        obtain rfl : q = 0 := by omega
        go_wp2_with fail
        go_round
        case rel =>
          refine ⟨0, _, by omega, rfl, rfl, ?_, .inr ⟨?_, ?_⟩⟩
          · decide
          · decide
          · exact HN.out
        case measure => decide
      · clear hcond
        go_wp2_with fail
        have hdat : (ByteArray.extract ⟨#[48, 49, 50, 51, 52, 53, 54, 55, 56, 57]⟩ d (d + 1) ++ S).data.toList = [(48 + d).toUInt8] ++ S.data.toList := by rw [append_data, HD.out]
        go_round
        case rel =>
          refine ⟨q, _, by omega, rfl, rfl, ?_, .inr ⟨by rw [hdat]; simp, by rw [hdat]; exact HN.out⟩⟩
          rw [← data_len, hdat]
          have := hsz2.out
          simp only [List.length_append, List.length_cons, List.length_nil, data_len]
          omega
        case measure =>
          have hne : ¬ (ByteArray.extract ⟨#[48, 49, 50, 51, 52, 53, 54, 55, 56, 57]⟩ d (d + 1) ++ S).size = 0 := by
            rw [← data_len, hdat]; simp
          have := HQ.out.1
          rw [if_neg (show ¬ strSize (Value.string (ByteArray.extract ⟨#[48, 49, 50, 51, 52, 53, 54, 55, 56, 57]⟩ d (d + 1) ++ S)) = 0 from hne)]
          simp only [intOf]
          omega

theorem rdotted_any (a : Int) (w : World) (h0 : 0 ≤ a) (h1 : a < 4294967296) :
    Calls Tryd.prog 28 #[.int .u32 a] w fun e w' => DotPost a e ∧ Below w.heap.size w w' := by
  have hp := rput_fits a 4 w (by omega) (by omega) (fits4 h0 h1)
  have hby := putL_byte a 4
  obtain ⟨x0, x1, x2, x3, hx⟩ := list_four (putL_len a 4)
  have HP := Lib.hid (hp.mono fun e w' h => (⟨h.1, h.2.1.list, h.2.2⟩ : e = .returned (.slice (some ⟨w.heap.size, 0, none⟩) 4 4) ∧ BRow w' w.heap.size (putL a 4) ∧ Below w.heap.size w w'))
  unfold DotPost
  rw [hx] at HP hby ⊢
  have b0 : 0 ≤ x0 ∧ x0 ≤ 255 := hby 0 (by simp)
  have b1 : 0 ≤ x1 ∧ x1 ≤ 255 := hby 1 (by simp)
  have b2 : 0 ≤ x2 ∧ x2 ≤ 255 := hby 2 (by simp)
  have b3 : 0 ≤ x3 ∧ x3 ≤ 255 := hby 3 (by simp)
  obtain ⟨n0, rfl⟩ := Int.eq_ofNat_of_zero_le b0.1
  obtain ⟨n1, rfl⟩ := Int.eq_ofNat_of_zero_le b1.1
  obtain ⟨n2, rfl⟩ := Int.eq_ofNat_of_zero_le b2.1
  obtain ⟨n3, rfl⟩ := Int.eq_ofNat_of_zero_le b3.1
  have D0 := Lib.hid (fun w => (digits_any n0 w (by omega)).mono fun e w' h => (⟨h.1, h.2.symm⟩ : e = .returned (.string ⟨(Lib.itoa n0).toArray⟩) ∧ w' = w))
  have hw0 : IntKind.i64.wrap (n0 : Int) = (n0 : Int) := by rw [IntKind.wrap_i64]; omega
  have D1 := Lib.hid (fun w => (digits_any n1 w (by omega)).mono fun e w' h => (⟨h.1, h.2.symm⟩ : e = .returned (.string ⟨(Lib.itoa n1).toArray⟩) ∧ w' = w))
  have hw1 : IntKind.i64.wrap (n1 : Int) = (n1 : Int) := by rw [IntKind.wrap_i64]; omega
  have D2 := Lib.hid (fun w => (digits_any n2 w (by omega)).mono fun e w' h => (⟨h.1, h.2.symm⟩ : e = .returned (.string ⟨(Lib.itoa n2).toArray⟩) ∧ w' = w))
  have hw2 : IntKind.i64.wrap (n2 : Int) = (n2 : Int) := by rw [IntKind.wrap_i64]; omega
  have D3 := Lib.hid (fun w => (digits_any n3 w (by omega)).mono fun e w' h => (⟨h.1, h.2.symm⟩ : e = .returned (.string ⟨(Lib.itoa n3).toArray⟩) ∧ w' = w))
  have hw3 : IntKind.i64.wrap (n3 : Int) = (n3 : Int) := by rw [IntKind.wrap_i64]; omega
  have s0 := itoa_size n0 b0.1 b0.2
  have s1 := itoa_size n1 b1.1 b1.2
  have s2 := itoa_size n2 b2.1 b2.2
  have s3 := itoa_size n3 b3.1 b3.2
  have HS := Lib.hid (dot_shape n0 n1 n2 n3)
  obtain ⟨S0, hS0⟩ : ∃ S : ByteArray, S = ⟨(Lib.itoa n0).toArray⟩ := ⟨_, rfl⟩
  obtain ⟨S1, hS1⟩ : ∃ S : ByteArray, S = ⟨(Lib.itoa n1).toArray⟩ := ⟨_, rfl⟩
  obtain ⟨S2, hS2⟩ : ∃ S : ByteArray, S = ⟨(Lib.itoa n2).toArray⟩ := ⟨_, rfl⟩
  obtain ⟨S3, hS3⟩ : ∃ S : ByteArray, S = ⟨(Lib.itoa n3).toArray⟩ := ⟨_, rfl⟩
  have e0 : S0.data.toList = Lib.itoa n0 := by rw [hS0]
  have e1 : S1.data.toList = Lib.itoa n1 := by rw [hS1]
  have e2 : S2.data.toList = Lib.itoa n2 := by rw [hS2]
  have e3 : S3.data.toList = Lib.itoa n3 := by rw [hS3]
  rw [← hS0] at D0 s0
  rw [← hS1] at D1 s1
  rw [← hS2] at D2 s2
  rw [← hS3] at D3 s3
  have HE := Lib.hid (And.intro e0 (And.intro e1 (And.intro e2 e3)))
  clear hS0 hS1 hS2 hS3 e0 e1 e2 e3 hp hby b0 b1 b2 b3
  go_enter Tryd.func28, Tryd.ntmps28
  go_wp2_with fail
  refine HP.out.mono ?_; rintro e w1 ⟨rfl, hr, hb⟩
  have HB := Lib.hid hb
  have c0 : w1.cell? ⟨w.heap.size, 0, none⟩ = some (.int .u8 n0) := World.rowIs.cell hr (i := 0) (by simp)
  have c1 : w1.cell? ⟨w.heap.size, 1, none⟩ = some (.int .u8 n1) := World.rowIs.cell hr (i := 1) (by simp)
  have c2 : w1.cell? ⟨w.heap.size, 2, none⟩ = some (.int .u8 n2) := World.rowIs.cell hr (i := 2) (by simp)
  have c3 : w1.cell? ⟨w.heap.size, 3, none⟩ = some (.int .u8 n3) := World.rowIs.cell hr (i := 3) (by simp)
  clear hr hb HP
  go_wp2_with fail
  go_quiet (first
    | (go_at_call 42; with_reducible exact Calls.quiet_of_same (D0.out _))
    | (go_at_call 42; with_reducible exact Calls.quiet_of_same (D1.out _))
    | (go_at_call 42; with_reducible exact Calls.quiet_of_same (D2.out _))
    | (go_at_call 42; with_reducible exact Calls.quiet_of_same (D3.out _)))
  go_wp2_with fail
  go_ret
  refine ⟨⟨_, rfl, ?_, ?_⟩, below_drewN HB.out _⟩
  · simp only [append_data, HE.out.1, HE.out.2.1, HE.out.2.2.1, HE.out.2.2.2, HS.out]
    simp
  · simp only [append_size]
    have : (ByteArray.mk #[46]).size = 1 := rfl
    omega
end Go.Proofs.YtoflpkpgbbnngaaDoor
