/- The document's own small: the walk. -/
import Derived.Test.YtpmdmkemlbpnjaaDoorPs2
namespace Go.Proofs.YtpmdmkemlbpnjaaDoor
open Go.RowKit

theorem digA_bad {n : Int} {c : UInt8} {r : List UInt8} (h : (c.toNat : Int) < 48 ∨ 57 < (c.toNat : Int)) : digA n (c :: r) = none := by
  unfold digA; rw [if_pos (h.imp (u8_lt c).1.2 (u8_lt c).2.2)]
theorem digA_next {n : Int} {c : UInt8} {r : List UInt8} (h1 : 48 ≤ (c.toNat : Int)) (h2 : (c.toNat : Int) ≤ 57) : digA n (c :: r) = digA (10 * n + ((c.toNat : Int) - 48)) r := by
  rw [digA, if_neg (by rw [(u8_lt c).1, (u8_lt c).2]; omega)]
theorem small_empty (s : ByteArray) (most : Int) (w : World) (h : s.size < 1) :
    Calls Tryd.prog 22 #[.string s, .int .i64 most] w fun e w' => e = .returned (.int .i64 (-1)) ∧ w = w' := by
  have t0 : decide ((s.size : Int) < 1) = true := by simp; omega
  go_enter Tryd.func22, Tryd.ntmps22
  go_wp2_with fail
  go_ret
  exact ⟨rfl, rfl⟩
theorem small_long (s : ByteArray) (most : Int) (w : World) (h : 3 < s.size) :
    Calls Tryd.prog 22 #[.string s, .int .i64 most] w fun e w' => e = .returned (.int .i64 (-1)) ∧ w = w' := by
  have t0 : decide ((s.size : Int) < 1) = false := by simp; omega
  have t1 : decide ((3 : Int) < (s.size : Int)) = true := by simp; omega
  go_enter Tryd.func22, Tryd.ntmps22
  go_wp2_with fail
  go_ret
  exact ⟨rfl, rfl⟩
theorem small_zero (s : ByteArray) (most : Int) (w : World) (h : 1 < s.size) (h3 : s.size ≤ 3) (h0 : (s[0].toNat : Int) = 48) :
    Calls Tryd.prog 22 #[.string s, .int .i64 most] w fun e w' => e = .returned (.int .i64 (-1)) ∧ w = w' := by
  have t0 : decide ((s.size : Int) < 1) = false := by simp; omega
  have t1 : decide ((3 : Int) < (s.size : Int)) = false := by simp; omega
  have hp : (0 : Int) < s.size := by omega
  have h1 : decide ((1 : Int) < (s.size : Int)) = true := by simp; omega
  go_enter Tryd.func22, Tryd.ntmps22
  go_wp2_with fail
  go_ret
  exact ⟨rfl, rfl⟩
set_option maxHeartbeats 2000000 in
theorem small_loop (s : ByteArray) (most : Int) (w : World) (h : 0 < s.size) (h3 : s.size ≤ 3) (hB : ((s[0].toNat : Int) == 48) = false ∨ s.size ≤ 1) :
    Calls Tryd.prog 22 #[.string s, .int .i64 most] w fun e w' => e = .returned (.int .i64 (((digA 0 s.data.toList).bind (fun v => if most < v then none else some v)).getD (-1))) ∧ w = w' := by
  have t0 : decide ((s.size : Int) < 1) = false := by simp; omega
  have t1 : decide ((3 : Int) < (s.size : Int)) = false := by simp; omega
  have hp : (0 : Int) < s.size := by omega
  have hB' : ((s[0].toNat : Int) == 48) = false ∨ (((s[0].toNat : Int) == 48) = true ∧ decide ((1 : Int) < (s.size : Int)) = false) := by
    rcases hB with hB | hB
    · exact .inl hB
    · rcases hb : ((s[0].toNat : Int) == 48) with _ | _
      · exact .inl rfl
      · exact .inr ⟨rfl, by simp; omega⟩
  obtain ⟨R, hR⟩ : ∃ R, digA 0 s.data.toList = R := ⟨_, rfl⟩
  rw [hR]
  have HR := Lib.hid hR
  clear hB hR
  rcases hB' with hB | ⟨hB, hB2⟩
  all_goals
    go_enter Tryd.func22, Tryd.ntmps22
    go_wp2_with fail
    go_loop [5, 6] (fun n i => ∃ (k : Nat) (N : Int), k ≤ s.size ∧ i = .int .i64 k ∧ n = .int .i64 N ∧ 0 ≤ N ∧ N < 10 ^ k ∧ digA N (s.data.toList.drop k) = R) (fun _ i => s.size - (intOf i).toNat)
    case atStart => exact ⟨0, 0, Nat.zero_le _, rfl, rfl, by omega, by decide, HR.out⟩
    case round =>
      obtain ⟨k, N, hk, rfl, rfl, hN0, hN1, hd⟩ := hrel
      have hk4 : (10 : Int) ^ k ≤ 1000 := by
        have : k = 0 ∨ k = 1 ∨ k = 2 ∨ k = 3 := by omega
        rcases this with rfl | rfl | rfl | rfl <;> decide
      have HN1 := Lib.hid hN1
      have hNN : N < 1000 := by omega
      clear hN1 hk4
      by_cases hlt : k < s.size
      · rw [data_drop s k hlt] at hd
        have hc0 : (0 : Int) ≤ (s[k].toNat : Int) := by omega
        have hc1 : (s[k].toNat : Int) ≤ 255 := by have := s[k].toNat_lt; omega
        by_cases hb1 : (s[k].toNat : Int) < 48
        · rw [digA_bad (.inl hb1)] at hd
          have HD := Lib.hid hd
          clear hd
          go_wp2_with fail
          go_ret
          exact ⟨by rw [← HD.out]; rfl, rfl⟩
        · by_cases hb2 : 57 < (s[k].toNat : Int)
          · rw [digA_bad (.inr hb2)] at hd
            have HD := Lib.hid hd
            clear hd
            go_wp2_with fail
            go_ret
            exact ⟨by rw [← HD.out]; rfl, rfl⟩
          · rw [digA_next (by omega) (by omega)] at hd
            have HD := Lib.hid hd
            have wu : IntKind.u8.wrap ((s[k].toNat : Int) - 48) = (s[k].toNat : Int) - 48 := by rw [show IntKind.u8.wrap ((s[k].toNat : Int) - 48) = ((s[k].toNat : Int) - 48) % 256 from by first | rfl | exact IntKind.wrap_u8 _ | exact IntKind.wrap_u8' _]; omega
            clear hd
            go_wp2_with fail
            go_round
            case rel => exact ⟨k + 1, _, by omega, by go_num, rfl, by omega, by have := HN1.out; rw [Int.pow_succ]; omega, HD.out⟩
            case measure => simp [intOf]; omega
      · have e : k = s.size := by omega
        rw [List.drop_eq_nil_of_le (by rw [data_len]; omega)] at hd
        have HD := Lib.hid (show some N = R from hd)
        clear hd
        subst e
        by_cases hm : most < N
        · go_wp2_with fail
          go_ret
          exact ⟨by rw [← HD.out, Option.bind_some, if_pos hm]; rfl, rfl⟩
        · have tm : decide (most < N) = false := decide_eq_false hm
          go_wp2_with fail
          go_ret
          exact ⟨by rw [← HD.out, Option.bind_some, if_neg (by omega)]; rfl, rfl⟩
theorem small_any (s : ByteArray) (most : Int) (w : World) (hm : most < 1000) (h9 : 9 ≤ most) :
    Calls Tryd.prog 22 #[.string s, .int .i64 most] w fun e w' => e = .returned (.int .i64 (smallV most s.data.toList)) ∧ w = w' := by
  unfold smallV
  by_cases h1 : s.size < 1
  · have e : s.data.toList = [] := List.eq_nil_of_length_eq_zero (by rw [data_len]; omega)
    rw [e]
    exact small_empty s most w h1
  by_cases h3 : 3 < s.size
  · rw [numOf_long hm h9 (by rw [data_len]; exact h3)]
    exact small_long s most w h3
  have h : 0 < s.size := by omega
  have hd := data_drop s 0 h
  rw [List.drop_zero] at hd
  have hr : (s.data.toList.drop (0 + 1)).length = s.size - 1 := by rw [List.length_drop, data_len]
  have hc : (s[0] = 48) ↔ (s[0].toNat : Int) = 48 := by
    constructor
    · intro e; rw [e]; rfl
    · intro e; exact UInt8.toNat_inj.1 (by rw [show (48 : UInt8).toNat = 48 from rfl]; omega)
  by_cases h0 : (s[0].toNat : Int) = 48 ∧ 1 < s.size
  · have e : numOf most s.data.toList = none := by
      rw [hd]; unfold numOf; dsimp only
      rw [if_pos ⟨hc.2 h0.1, fun e => by rw [e] at hr; simp at hr; omega⟩]
    rw [e]
    exact small_zero s most w h0.2 (by omega) h0.1
  · have e : numOf most s.data.toList = digs most 0 s.data.toList := by
      rw [hd]; unfold numOf; dsimp only
      rw [if_neg (by
        rintro ⟨e1, e2⟩
        refine h0 ⟨hc.1 e1, ?_⟩
        rcases Nat.lt_or_ge 1 s.size with hh | hh
        · exact hh
        · exact absurd (List.eq_nil_of_length_eq_zero (by rw [hr]; omega)) e2)]
    rw [e, digs_all (by omega) (by omega)]
    refine small_loop s most w h (by omega) ?_
    by_cases h2 : s.size ≤ 1
    · exact .inr h2
    · left
      simp only [beq_eq_false_iff_ne, ne_eq]
      exact fun e => h0 ⟨e, by omega⟩
end Go.Proofs.YtpmdmkemlbpnjaaDoor
