/- The document's own Least, Check and Same of messages. -/
import Derived.Test.YtondoljehdhocaaDoorF7
namespace Go.Proofs.YtondoljehdhocaaDoor
open Go.RowKit

def rleast (k : Int) : Int := if k = 1 then 29 else if k = 2 then 23 else if k = 3 then 21 else if k = 4 then 19 else 0
theorem rleast_any (k : Int) (w : World) :
    Calls Tryd.prog 22 #[.int .i64 k] w fun e w' => e = .returned (.int .i64 (rleast k)) ∧ w = w' := by
  by_cases h1 : k = 1
  · subst h1
    go_enter Tryd.func22, Tryd.ntmps22
    go_wp2
    go_ret
    exact ⟨rfl, rfl⟩
  by_cases h2 : k = 2
  · subst h2
    go_enter Tryd.func22, Tryd.ntmps22
    go_wp2
    go_ret
    exact ⟨rfl, rfl⟩
  by_cases h3 : k = 3
  · subst h3
    go_enter Tryd.func22, Tryd.ntmps22
    go_wp2
    go_ret
    exact ⟨rfl, rfl⟩
  by_cases h4 : k = 4
  · subst h4
    go_enter Tryd.func22, Tryd.ntmps22
    go_wp2
    go_ret
    exact ⟨rfl, rfl⟩
  have e : rleast k = 0 := by unfold rleast; rw [if_neg h1, if_neg h2, if_neg h3, if_neg h4]
  have t1 : (k == 1) = false := by simpa using h1
  have t2 : (k == 2) = false := by simpa using h2
  have t3 : (k == 3) = false := by simpa using h3
  have t4 : (k == 4) = false := by simpa using h4
  have E := Lib.hid e
  clear e h1 h2 h3 h4
  go_enter Tryd.func22, Tryd.ntmps22
  go_wp2
  go_ret
  exact ⟨by rw [E.out]; rfl, rfl⟩

theorem okM_eq (k : Int) (n : Nat) : (decide (0 < rleast k) && decide (rleast k ≤ (n : Int) + 19) && decide ((n : Int) + 19 ≤ 4096) && (k != 4 || (n : Int) + 19 == 19)) = okM k n := by
  unfold okM knownB fitsM rleast leastL
  by_cases h1 : k = 1
  · subst h1; rw [Bool.eq_iff_iff]; simp; omega
  by_cases h2 : k = 2
  · subst h2; rw [Bool.eq_iff_iff]; simp; omega
  by_cases h3 : k = 3
  · subst h3; rw [Bool.eq_iff_iff]; simp; omega
  by_cases h4 : k = 4
  · subst h4; rw [Bool.eq_iff_iff]; simp; omega
  · rw [Bool.eq_iff_iff]; simp [h1, h2, h3, h4]; omega

set_option maxRecDepth 100000 in
set_option maxHeartbeats 1000000 in
theorem rcheckM_in (k : Int) (q : Option Addr) (n c : Nat) (w : World) (hn : n ≤ 9223372036854775788) :
    Calls Tryd.prog 10 #[.agg #[.int .i64 k, .slice q n c]] w fun e w' => e = .returned (.bool (okM k n)) ∧ Below w.heap.size w w' := by
  have HE := Lib.hid (okM_eq k n)
  have HB := Lib.hid ((Below.refl w.heap.size w).alloc (Nat.le_refl _) (.cells #[.int .i64 k, .slice q n c] 24))
  generalize hr : rleast k = r at *
  have HR := Lib.hid (fun w => hr ▸ rleast_any k w)
  clear hr
  rw [← HE.out]
  clear HE
  by_cases h1 : 0 < r
  · by_cases h2 : r ≤ (n : Int) + 19
    · by_cases h3 : (n : Int) + 19 ≤ 4096
      · rcases h4 : (k != 4) with _ | _
        · go_enter Tryd.func10, Tryd.ntmps10
          go_wp2_with (go_at_call 22; refine (HR.out _).mono ?_; rintro e w' ⟨rfl, rfl⟩)
          go_ret
          exact ⟨ret_bool (by rw [decide_eq_true h1, decide_eq_true h2, decide_eq_true h3]; simp), HB.out⟩
        · go_enter Tryd.func10, Tryd.ntmps10
          go_wp2_with (go_at_call 22; refine (HR.out _).mono ?_; rintro e w' ⟨rfl, rfl⟩)
          go_ret
          exact ⟨ret_bool (by rw [decide_eq_true h1, decide_eq_true h2, decide_eq_true h3]; simp), HB.out⟩
      · have t3 : decide ((n : Int) + 19 ≤ 4096) = false := decide_eq_false h3
        go_enter Tryd.func10, Tryd.ntmps10
        go_wp2_with (go_at_call 22; refine (HR.out _).mono ?_; rintro e w' ⟨rfl, rfl⟩)
        go_ret
        exact ⟨ret_bool (by rw [decide_eq_true h1, decide_eq_true h2, decide_eq_false (show ¬ (n : Int) + 19 ≤ 4096 by omega)]; rfl), HB.out⟩
    · have t2 : decide (r ≤ (n : Int) + 19) = false := decide_eq_false h2
      go_enter Tryd.func10, Tryd.ntmps10
      go_wp2_with (go_at_call 22; refine (HR.out _).mono ?_; rintro e w' ⟨rfl, rfl⟩)
      go_ret
      exact ⟨ret_bool (by rw [decide_eq_true h1, decide_eq_false (show ¬ r ≤ (n : Int) + 19 by omega)]; rfl), HB.out⟩
  · have t1 : decide (0 < r) = false := decide_eq_false h1
    go_enter Tryd.func10, Tryd.ntmps10
    go_wp2_with (go_at_call 22; refine (HR.out _).mono ?_; rintro e w' ⟨rfl, rfl⟩)
    go_ret
    exact ⟨ret_bool (by rw [decide_eq_false (show ¬ 0 < r by omega)]; rfl), HB.out⟩

theorem rleast_nn (k : Int) : 0 ≤ rleast k := by unfold rleast; split <;> (try split) <;> (try split) <;> (try split) <;> omega
set_option maxHeartbeats 1000000 in
/-- Beyond what an int holds the sum turns round. -/
theorem rcheckM_out (k : Int) (q : Option Addr) (n c : Nat) (w : World) (h0 : 9223372036854775788 < n) (h1 : n ≤ 9223372036854775807) :
    Calls Tryd.prog 10 #[.agg #[.int .i64 k, .slice q n c]] w fun e w' => e = .returned (.bool false) ∧ Below w.heap.size w w' := by
  have HB := Lib.hid ((Below.refl w.heap.size w).alloc (Nat.le_refl _) (.cells #[.int .i64 k, .slice q n c] 24))
  have h0r := rleast_nn k
  generalize hr : rleast k = r at *
  have HR := Lib.hid (fun w => hr ▸ rleast_any k w)
  clear hr
  have hw : wrap64 ((n : Int) + 19) = (n : Int) + 19 - 18446744073709551616 := by unfold wrap64; omega
  obtain ⟨m, hm⟩ : ∃ m, (n : Int) + 19 - 18446744073709551616 = m := ⟨_, rfl⟩
  rw [hm] at hw
  have hm0 : m < 0 := by omega
  clear hm h0 h1
  by_cases h1 : 0 < r
  · have t2 : decide (r ≤ m) = false := by simp; omega
    go_enter Tryd.func10, Tryd.ntmps10
    go_wp2_with (go_at_call 22; refine (HR.out _).mono ?_; rintro e w' ⟨rfl, rfl⟩)
    go_ret
    exact ⟨rfl, HB.out⟩
  · have t1 : decide (0 < r) = false := decide_eq_false h1
    go_enter Tryd.func10, Tryd.ntmps10
    go_wp2_with (go_at_call 22; refine (HR.out _).mono ?_; rintro e w' ⟨rfl, rfl⟩)
    go_ret
    exact ⟨rfl, HB.out⟩
theorem rcheckM_any (k : Int) (q : Option Addr) (n c : Nat) (w : World) (hn : n ≤ 9223372036854775807) :
    Calls Tryd.prog 10 #[.agg #[.int .i64 k, .slice q n c]] w fun e w' => e = .returned (.bool (okM k n)) ∧ Below w.heap.size w w' := by
  rcases Nat.lt_or_ge 9223372036854775788 n with h | h
  · have e : okM k n = false := by
      rcases ho : okM k n with _ | _
      · rfl
      · have := okM_parts ho; omega
    rw [e]
    exact rcheckM_out k q n c w h hn
  · exact rcheckM_in k q n c w h

/-- Two messages are the same. -/
theorem rsame_yes (k : Int) (p : Option Addr) (xs : List Int) (n c : Nat) (q : Option Addr) (c' : Nat) (w : World) (hp : BytesAt w p xs) (hq : BytesAt w q xs) (hn : xs.length = n) :
    Calls Tryd.prog 19 #[.agg #[.int .i64 k, .slice p n c], .agg #[.int .i64 k, .slice q n c']] w fun e w' => e = .returned (.bool true) ∧ Below w.heap.size w w' := by
  have b1 := two_below w (.cells #[.int .i64 k, .slice p n c] 24) (.cells #[.int .i64 k, .slice q n c'] 24)
  have C1 := run_text (hp.below b1) c
  have C2 := run_text (hq.below b1) c'
  rw [hn] at C1 C2
  have HB := Lib.hid b1
  clear hp hq hn b1
  go_enter Tryd.func19, Tryd.ntmps19
  go_wp2
  go_ret
  exact ⟨rfl, HB.out⟩
end Go.Proofs.YtondoljehdhocaaDoor
