/- The document's own Within, Compare, Bit. -/
import Derived.Test.YtjimnlpmmhcdjaaRefC02
namespace Go.Proofs.Ytjimnlpmmhcdjaa
open Go.RowKit

theorem within_no1 {a n b m : Int} (h0 : 0 ≤ b) (h1 : b < 4294967296) (h : okP a n = false) : withinP a n b m = false := by
  unfold withinP; rw [holds_no h0 h1 h]; simp
/-- What stands of two prefixes' boxes. -/
def Two (w W : World) (a n b m : Int) : Prop := Box W w.heap.size (.int .u32 a) (.int .i64 n) ∧ Box W (w.heap.size + 1) (.int .u32 b) (.int .i64 m) ∧ Below w.heap.size w W
theorem Two.below {w W W' : World} {a n b m : Int} (h : Two w W a n b m) (hb : Below W.heap.size W W') : Two w W' a n b m := ⟨h.1.below hb, h.2.1.below hb, h.2.2.trans (hb.mono h.2.2.size)⟩
theorem two_new (w : World) (a n b m : Int) : Two w ((w.alloc (.cells #[.int .u32 a, .int .i64 n] 32)).alloc (.cells #[.int .u32 b, .int .i64 m] 32)) a n b m :=
  ⟨(Box.two w _ _ _ _).1, (Box.two w _ _ _ _).2, below_two w _ _⟩

theorem rcompare_any (a n b m : Int) (w : World) :
    Calls Try.prog 31 #[.agg #[.int .u32 a, .int .i64 n], .agg #[.int .u32 b, .int .i64 m]] w fun e w' => e = .returned (.int .i64 (cmpP a n b m)) ∧ Below w.heap.size w w' := by
  have HW := Lib.hid (below_two w (.cells #[.int .u32 a, .int .i64 n] 32) (.cells #[.int .u32 b, .int .i64 m] 32))
  have hg := pfx_eqGuard
  have hq := pfx_eql a n b m
  by_cases h1 : a < b
  · have HK := Lib.hid (show cmpP a n b m = -1 by unfold cmpP; rw [if_neg (by omega), if_pos (Or.inl h1)])
    go_enter Try.func31, Try.ntmps31
    go_wp2_with fail
    go_ret
    exact ⟨by rw [HK.out]; rfl, HW.out⟩
  · by_cases h2 : a = b
    · subst h2
      by_cases h3 : n < m
      · have HK := Lib.hid (show cmpP a n a m = -1 by unfold cmpP; rw [if_neg (by omega), if_pos (Or.inr ⟨rfl, h3⟩)])
        go_enter Try.func31, Try.ntmps31
        go_wp2_with fail
        go_ret
        exact ⟨by rw [HK.out]; rfl, HW.out⟩
      · by_cases h4 : n = m
        · subst h4
          have HK := Lib.hid (show cmpP a n a n = 0 by unfold cmpP; rw [if_pos ⟨rfl, rfl⟩])
          rw [show (a == a && n == n) = true by simp] at hq
          go_enter Try.func31, Try.ntmps31
          go_wp2_with fail
          go_ret
          exact ⟨by rw [HK.out]; rfl, HW.out⟩
        · have HK := Lib.hid (show cmpP a n a m = 1 by unfold cmpP; rw [if_neg (by omega), if_neg (by omega)])
          rw [show (a == a && n == m) = false by simp [h4]] at hq
          go_enter Try.func31, Try.ntmps31
          go_wp2_with fail
          go_ret
          exact ⟨by rw [HK.out]; rfl, HW.out⟩
    · have HK := Lib.hid (show cmpP a n b m = 1 by unfold cmpP; rw [if_neg (by omega), if_neg (by omega)])
      rw [show (a == b && n == m) = false by simp [h2]] at hq
      have h2' : (a == b) = false := by simpa using h2
      clear h2
      go_enter Try.func31, Try.ntmps31
      go_wp2_with fail
      go_ret
      exact ⟨by rw [HK.out]; rfl, HW.out⟩
end Go.Proofs.Ytjimnlpmmhcdjaa
