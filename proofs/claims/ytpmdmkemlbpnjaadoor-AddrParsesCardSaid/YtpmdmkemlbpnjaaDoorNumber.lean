/- The contract of addr's number: digits without a 0 ahead, up to most. -/
import Derived.Test.YtpmdmkemlbpnjaaDoorApart
namespace Go.Proofs.YtpmdmkemlbpnjaaDoor
open Go.RowKit

/-- Digits, one behind the other. -/
def digs (most : Int) : Int → List UInt8 → Option Int
  | n, [] => some n
  | n, c :: r => if c < 48 ∨ 57 < c then none else if most < 10 * n + ((c.toNat : Int) - 48) then none else digs most (10 * n + ((c.toNat : Int) - 48)) r
def numOf (most : Int) (l : List UInt8) : Option Int := match l with
  | [] => none
  | c :: r => if c = 48 ∧ r ≠ [] then none else digs most 0 (c :: r)

def NumberPost (o : Option Int) (e : Ending) : Prop := e = .returned (.tuple #[.int .i64 (o.getD 0), .bool o.isSome])

theorem number_empty (s : ByteArray) (most : Int) (w : World) (h : s.size = 0) :
    Calls Tryd.prog 20 #[.string s, .int .i64 most] w fun e w' => NumberPost none e ∧ w = w' := by
  have hl : s.toList.isEmpty = true := by
    rw [ByteArray.toList_eq]
    have : s.data.toList.length = 0 := by simpa using h
    rw [List.isEmpty_iff]; exact List.eq_nil_of_length_eq_zero this
  go_enter Tryd.func20, Tryd.ntmps20
  go_wp2_with fail
  go_ret2
  exact ⟨rfl, rfl⟩

theorem data_len (s : ByteArray) : s.data.toList.length = s.size := by simp
theorem data_drop (s : ByteArray) (k : Nat) (h : k < s.size) : s.data.toList.drop k = s[k] :: s.data.toList.drop (k + 1) := by
  rw [List.drop_eq_getElem_cons (by rw [data_len]; exact h)]
  rfl
theorem u8_lt (c : UInt8) : (c < 48 ↔ (c.toNat : Int) < 48) ∧ (57 < c ↔ 57 < (c.toNat : Int)) := by
  constructor
  · rw [UInt8.lt_iff_toNat_lt]; exact Int.ofNat_lt.symm
  · rw [UInt8.lt_iff_toNat_lt]; exact Int.ofNat_lt.symm
theorem digs_bad {most n : Int} {c : UInt8} {r : List UInt8} (h : (c.toNat : Int) < 48 ∨ 57 < (c.toNat : Int)) : digs most n (c :: r) = none := by
  unfold digs; rw [if_pos (h.imp (u8_lt c).1.2 (u8_lt c).2.2)]
theorem digs_big {most n : Int} {c : UInt8} {r : List UInt8} (h1 : 48 ≤ (c.toNat : Int)) (h2 : (c.toNat : Int) ≤ 57) (h : most < 10 * n + ((c.toNat : Int) - 48)) : digs most n (c :: r) = none := by
  unfold digs; rw [if_neg (by rw [(u8_lt c).1, (u8_lt c).2]; omega), if_pos h]
theorem digs_next {most n : Int} {c : UInt8} {r : List UInt8} (h1 : 48 ≤ (c.toNat : Int)) (h2 : (c.toNat : Int) ≤ 57) (h : ¬ most < 10 * n + ((c.toNat : Int) - 48)) : digs most n (c :: r) = digs most (10 * n + ((c.toNat : Int) - 48)) r := by
  rw [digs, if_neg (by rw [(u8_lt c).1, (u8_lt c).2]; omega), if_neg h]

theorem number_zero (s : ByteArray) (most : Int) (w : World) (h : 1 < s.size) (h0 : (s[0].toNat : Int) = 48) :
    Calls Tryd.prog 20 #[.string s, .int .i64 most] w fun e w' => NumberPost none e ∧ w = w' := by
  have hl : s.toList.isEmpty = false := by
    rw [ByteArray.toList_eq]
    have : s.data.toList.length = s.size := by simp
    rcases hh : s.data.toList with _ | ⟨c, r⟩
    · rw [hh] at this; simp at this; omega
    · rfl
  have hp : (0 : Int) < s.size := by omega
  go_enter Tryd.func20, Tryd.ntmps20
  go_wp2_with fail
  go_ret2
  exact ⟨rfl, rfl⟩

theorem number_loop (s : ByteArray) (most : Int) (w : World) (h : 0 < s.size) (hs : s.size ≤ 9223372036854775807) (hm : 0 ≤ most) (hm' : most ≤ 1000000)
    (hB : ((s[0].toNat : Int) == 48) = false ∨ s.size ≤ 1) :
    Calls Tryd.prog 20 #[.string s, .int .i64 most] w fun e w' => NumberPost (digs most 0 s.data.toList) e ∧ w = w' := by
  have hl : s.toList.isEmpty = false := by
    rw [ByteArray.toList_eq]
    have : s.data.toList.length = s.size := by simp
    rcases hh : s.data.toList with _ | ⟨c, r⟩
    · rw [hh] at this; simp at this; omega
    · rfl
  have hB' : ((s[0].toNat : Int) == 48) = false ∨ (((s[0].toNat : Int) == 48) = true ∧ s.size ≤ 1) := by
    rcases hB with hB | hB
    · exact .inl hB
    · rcases hb : ((s[0].toNat : Int) == 48) with _ | _
      · exact .inl rfl
      · exact .inr ⟨rfl, hB⟩
  have hp : (0 : Int) < s.size := by omega
  clear hB
  rcases hB' with hB | ⟨hB, hB2⟩
  all_goals
    go_enter Tryd.func20, Tryd.ntmps20
    go_wp2_with fail
    go_loop [6, 7] (fun n i => ∃ (k : Nat) (N : Int), k ≤ s.size ∧ i = .int .i64 k ∧ n = .int .i64 N ∧ 0 ≤ N ∧ N ≤ most ∧ digs most N (s.data.toList.drop k) = digs most 0 s.data.toList) (fun _ i => s.size - (intOf i).toNat)
    case atStart => exact ⟨0, 0, Nat.zero_le _, rfl, rfl, by omega, hm, rfl⟩
    case round =>
      obtain ⟨k, N, hk, rfl, rfl, hN0, hN1, hd⟩ := hrel
      by_cases hlt : k < s.size
      · rw [data_drop s k hlt] at hd
        have hc0 : (0 : Int) ≤ (s[k].toNat : Int) := by omega
        have hc1 : (s[k].toNat : Int) ≤ 255 := by have := s[k].toNat_lt; omega
        by_cases hb1 : (s[k].toNat : Int) < 48
        · rw [digs_bad (.inl hb1)] at hd
          have HD := Lib.hid hd
          clear hd
          go_wp2_with fail
          go_ret2
          exact ⟨by rw [← HD.out]; rfl, rfl⟩
        · by_cases hb2 : 57 < (s[k].toNat : Int)
          · rw [digs_bad (.inr hb2)] at hd
            have HD := Lib.hid hd
            clear hd
            go_wp2_with fail
            go_ret2
            exact ⟨by rw [← HD.out]; rfl, rfl⟩
          · by_cases hb3 : most < 10 * N + ((s[k].toNat : Int) - 48)
            · rw [digs_big (by omega) (by omega) hb3] at hd
              have HD := Lib.hid hd
              clear hd
              go_wp2_with fail
              go_ret2
              exact ⟨by rw [← HD.out]; rfl, rfl⟩
            · rw [digs_next (by omega) (by omega) hb3] at hd
              have HD := Lib.hid hd
              clear hd
              go_wp2_with fail
              go_round
              case rel => exact ⟨k + 1, _, by omega, by go_num, rfl, by omega, by omega, HD.out⟩
              case measure => simp [intOf]; omega
      · have e : k = s.size := by omega
        rw [List.drop_eq_nil_of_le (by rw [data_len]; omega)] at hd
        have HD := Lib.hid hd
        clear hd
        subst e
        go_wp2_with fail
        go_ret2
        exact ⟨by rw [← HD.out]; rfl, rfl⟩

theorem number_any (s : ByteArray) (most : Int) (w : World) (hs : s.size ≤ 9223372036854775807) (hm : 0 ≤ most) (hm' : most ≤ 1000000) :
    Calls Tryd.prog 20 #[.string s, .int .i64 most] w fun e w' => NumberPost (numOf most s.data.toList) e ∧ w = w' := by
  rcases Nat.eq_zero_or_pos s.size with h | h
  · have e : s.data.toList = [] := List.eq_nil_of_length_eq_zero (by rw [data_len]; exact h)
    rw [e]
    exact number_empty s most w h
  · have hd := data_drop s 0 h
    rw [List.drop_zero] at hd
    have hr : (s.data.toList.drop (0 + 1)).length = s.size - 1 := by rw [List.length_drop, data_len]
    have hc : (s[0] = 48) ↔ (s[0].toNat : Int) = 48 := by
      constructor
      · intro e; rw [e]; rfl
      · intro e; exact UInt8.toNat_inj.1 (by rw [show (48 : UInt8).toNat = 48 from rfl]; omega)
    by_cases h0 : (s[0].toNat : Int) = 48 ∧ 1 < s.size
    · have e : numOf most s.data.toList = none := by
        rw [hd]; unfold numOf; dsimp only
        rw [if_pos ⟨hc.2 h0.1, fun e => by rw [e] at hr; simp at hr; omega⟩]
      rw [e]
      exact number_zero s most w h0.2 h0.1
    · have e : numOf most s.data.toList = digs most 0 s.data.toList := by
        rw [hd]; unfold numOf; dsimp only
        rw [if_neg]
        rintro ⟨h1, h2⟩
        refine h0 ⟨hc.1 h1, ?_⟩
        rcases Nat.lt_or_ge 1 s.size with h3 | h3
        · exact h3
        · exact absurd (List.eq_nil_of_length_eq_zero (by rw [hr]; omega)) h2
      rw [e]
      refine number_loop s most w h hs hm hm' ?_
      by_cases h1 : (s[0].toNat : Int) = 48
      · right; omega
      · left; simpa using h1
end Go.Proofs.YtpmdmkemlbpnjaaDoor
