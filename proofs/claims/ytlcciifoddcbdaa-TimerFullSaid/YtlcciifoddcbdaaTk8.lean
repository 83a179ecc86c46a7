/- slices.SortFunc at one element or none, whatever the function. -/
import Derived.Test.YtlcciifoddcbdaaTk7
namespace Go.Proofs.Ytlcciifoddcbdaa
open Go.RowKit Go.Maps

set_option maxRecDepth 100000 in
theorem len64_1 (w : World) (n : Nat) (hn : n ≤ 1) :
    Calls Try.prog 41 #[.int .u64 n] w fun e w' => (∃ l, e = .returned (.int .i64 l)) ∧ w = w' := by
  have hn2 : n = 0 ∨ n = 1 := by omega
  rcases hn2 with rfl | rfl
  · go_enter Try.func41, Try.ntmps41
    go_wp2
    go_ret
    exact ⟨⟨_, rfl⟩, rfl⟩
  · go_enter Try.func41, Try.ntmps41
    go_wp2
    go_ret
    exact ⟨⟨_, rfl⟩, rfl⟩
theorem blen_1 (w : World) (n : Nat) (hn : n ≤ 1) :
    Calls Try.prog 28 #[.int .u64 n] w fun e w' => (∃ l, e = .returned (.int .i64 l)) ∧ w = w' := by
  have H := Lib.hid (len64_1 w n hn)
  have hn2 : n = 0 ∨ n = 1 := by omega
  rcases hn2 with rfl | rfl <;>
  · go_enter Try.func28, Try.ntmps28
    go_wp2_with (go_at_call 41; refine H.out.mono ?_; rintro e w' ⟨⟨l, rfl⟩, rfl⟩)
    go_ret
    exact ⟨⟨_, rfl⟩, rfl⟩
theorem insort_1 (p : Option Addr) (n cap : Nat) (fv : Value) (w : World) (hn : n ≤ 1) :
    Calls Try.prog 32 #[.slice p n cap, .int .i64 0, .int .i64 n, fv] w fun e w' => e = .returned (.tuple #[]) ∧ w = w' := by
  have t0 : decide ((1 : Int) < (n : Int)) = false := by simp; omega
  go_enter Try.func32, Try.ntmps32
  go_wp2
  refine wp_loop_rounds 1 ?_
  rw [rounds_succ]
  go_wp2
  go_end0
  exact ⟨rfl, rfl⟩
set_option maxRecDepth 100000 in
theorem pdq_1 (p : Option Addr) (n cap : Nat) (lim : Int) (fv : Value) (w : World) (hn : n ≤ 1) :
    Calls Try.prog 27 #[.slice p n cap, .int .i64 0, .int .i64 n, .int .i64 lim, fv] w fun e w' => e = .returned (.tuple #[]) ∧ w = w' := by
  have H := fun W => Lib.hid (insort_1 p n cap fv W hn)
  have hn2 : n = 0 ∨ n = 1 := by omega
  rcases hn2 with rfl | rfl <;>
  · go_enter Try.func27, Try.ntmps27
    go_wp2
    refine wp_loop_rounds 1 ?_
    rw [rounds_succ]
    go_wp2_with (go_at_call 32; refine (H _).out.mono ?_; rintro e w' ⟨rfl, rfl⟩)
    (try simp only [Exit.inBlock, Exit.then]); refine bodyPost_ret (results_none rfl _ _ _) rfl ?_
    exact ⟨rfl, rfl⟩
theorem sort_1 (p : Option Addr) (n cap : Nat) (fv : Value) (w : World) (hn : n ≤ 1) :
    Calls Try.prog 24 #[.slice p n cap, fv] w fun e w' => e = .returned (.tuple #[]) ∧ w = w' := by
  have H := fun W => Lib.hid (blen_1 W n hn)
  have H2 := fun W lim => Lib.hid (pdq_1 p n cap lim fv W hn)
  go_enter Try.func24, Try.ntmps24
  go_wp2_with (first | (go_at_call 28; refine (H _).out.mono ?_; rintro e w' ⟨⟨l, rfl⟩, rfl⟩) | (go_at_call 27; refine (H2 _ _).out.mono ?_; rintro e w' ⟨rfl, rfl⟩))
  go_end0
  exact ⟨rfl, rfl⟩
end Go.Proofs.Ytlcciifoddcbdaa
