/- The document's own Within, Compare, Bit. -/
import Derived.Test.YtipecocalmmmbaaRefC02
namespace Go.Proofs.Ytipecocalmmmbaa
open Go.RowKit

theorem within_no1 {a n b m : Int} (h0 : 0 ≤ b) (h1 : b < 4294967296) (h : okP a n = false) : withinP a n b m = false := by
  unfold withinP; rw [holds_no h0 h1 h]; simp
/-- What stands of two prefixes' boxes. -/
def Two (w W : World) (a n b m : Int) : Prop := Box W w.heap.size (.int .u32 a) (.int .i64 n) ∧ Box W (w.heap.size + 1) (.int .u32 b) (.int .i64 m) ∧ Below w.heap.size w W
theorem Two.below {w W W' : World} {a n b m : Int} (h : Two w W a n b m) (hb : Below W.heap.size W W') : Two w W' a n b m := ⟨h.1.below hb, h.2.1.below hb, h.2.2.trans (hb.mono h.2.2.size)⟩
theorem two_new (w : World) (a n b m : Int) : Two w ((w.alloc (.cells #[.int .u32 a, .int .i64 n] 32)).alloc (.cells #[.int .u32 b, .int .i64 m] 32)) a n b m :=
  ⟨(Box.two w _ _ _ _).1, (Box.two w _ _ _ _).2, below_two w _ _⟩

theorem rwithin_any (a n b m : Int) (w : World) (a0 : 0 ≤ a) (a1 : a < 4294967296) (b0 : 0 ≤ b) (b1 : b < 4294967296) :
    Calls Try.prog 26 #[.agg #[.int .u32 a, .int .i64 n], .agg #[.int .u32 b, .int .i64 m]] w fun e w' => e = .returned (.bool (withinP a n b m)) ∧ Below w.heap.size w w' := by
  have T0 := Lib.hid (two_new w a n b m)
  have HCA := Lib.hid (fun w => rcheck_any a n w a0 a1)
  have HCB := Lib.hid (fun w => rcheck_any b m w b0 b1)
  have HH := Lib.hid (fun w => rholds_any a n b w a0 a1 b0 b1)
  rcases hk : okP a n with _ | _
  · have HK := Lib.hid (within_no1 (m := m) b0 b1 hk)
    rw [hk] at HCA
    clear hk
    go_enter Try.func26, Try.ntmps26
    go_wp2_with fail
    refine (HCA.out _).mono ?_; rintro e w1 ⟨rfl, hb⟩
    have T1 := Lib.hid (T0.out.below hb)
    clear hb
    go_wp2_with fail
    go_ret
    exact ⟨by rw [HK.out]; rfl, T1.out.2.2⟩
  rw [hk] at HCA
  clear hk
  rcases hk : okP b m with _ | _
  · have HK := Lib.hid (show withinP a n b m = false by unfold withinP; rw [hk]; rfl)
    rw [hk] at HCB
    clear hk
    go_enter Try.func26, Try.ntmps26
    go_wp2_with fail
    refine (HCA.out _).mono ?_; rintro e w1 ⟨rfl, hb⟩
    have T1 := Lib.hid (T0.out.below hb)
    have d0 := T1.out.2.1.c0
    have d1 := T1.out.2.1.c1
    clear hb
    go_wp2_with fail
    refine (HCB.out _).mono ?_; rintro e w2 ⟨rfl, hb⟩
    have T2 := Lib.hid (T1.out.below hb)
    clear hb d0 d1
    go_wp2_with fail
    go_ret
    exact ⟨by rw [HK.out]; rfl, T2.out.2.2⟩
  rw [hk] at HCB
  by_cases hnm : n ≤ m
  · have HK := Lib.hid (show withinP a n b m = holdsP a n b by unfold withinP; rw [hk, decide_eq_true hnm]; rfl)
    clear hk
    go_enter Try.func26, Try.ntmps26
    go_wp2_with fail
    refine (HCA.out _).mono ?_; rintro e w1 ⟨rfl, hb⟩
    have T1 := Lib.hid (T0.out.below hb)
    have d0 := T1.out.2.1.c0
    have d1 := T1.out.2.1.c1
    clear hb
    go_wp2_with fail
    refine (HCB.out _).mono ?_; rintro e w2 ⟨rfl, hb⟩
    have T2 := Lib.hid (T1.out.below hb)
    clear hb d0 d1
    have c0 := T2.out.1.c0
    have c1 := T2.out.1.c1
    have d0 := T2.out.2.1.c0
    have d1 := T2.out.2.1.c1
    go_wp2_with fail
    refine (HH.out _).mono ?_; rintro e w3 ⟨rfl, hb⟩
    have T3 := Lib.hid (T2.out.below hb)
    clear hb d0 d1 c0 c1
    go_wp2_with fail
    go_ret
    exact ⟨by rw [HK.out]; rfl, T3.out.2.2⟩
  · have HK := Lib.hid (show withinP a n b m = false by unfold withinP; rw [decide_eq_false hnm]; simp)
    clear hk
    go_enter Try.func26, Try.ntmps26
    go_wp2_with fail
    refine (HCA.out _).mono ?_; rintro e w1 ⟨rfl, hb⟩
    have T1 := Lib.hid (T0.out.below hb)
    have d0 := T1.out.2.1.c0
    have d1 := T1.out.2.1.c1
    clear hb
    go_wp2_with fail
    refine (HCB.out _).mono ?_; rintro e w2 ⟨rfl, hb⟩
    have T2 := Lib.hid (T1.out.below hb)
    clear hb d0 d1
    have c0 := T2.out.1.c0
    have c1 := T2.out.1.c1
    have d0 := T2.out.2.1.c0
    have d1 := T2.out.2.1.c1
    go_wp2_with fail
    go_ret
    exact ⟨by rw [HK.out]; rfl, T2.out.2.2⟩

theorem rcompare_any (a n b m : Int) (w : World) :
    Calls Try.prog 57 #[.agg #[.int .u32 a, .int .i64 n], .agg #[.int .u32 b, .int .i64 m]] w fun e w' => e = .returned (.int .i64 (cmpP a n b m)) ∧ Below w.heap.size w w' := by
  have HW := Lib.hid (below_two w (.cells #[.int .u32 a, .int .i64 n] 32) (.cells #[.int .u32 b, .int .i64 m] 32))
  have hg := pfx_eqGuard
  have hq := pfx_eql a n b m
  by_cases h1 : a < b
  · have HK := Lib.hid (show cmpP a n b m = -1 by unfold cmpP; rw [if_neg (by omega), if_pos (Or.inl h1)])
    go_enter Try.func57, Try.ntmps57
    go_wp2_with fail
    go_ret
    exact ⟨by rw [HK.out]; rfl, HW.out⟩
  · by_cases h2 : a = b
    · subst h2
      by_cases h3 : n < m
      · have HK := Lib.hid (show cmpP a n a m = -1 by unfold cmpP; rw [if_neg (by omega), if_pos (Or.inr ⟨rfl, h3⟩)])
        go_enter Try.func57, Try.ntmps57
        go_wp2_with fail
        go_ret
        exact ⟨by rw [HK.out]; rfl, HW.out⟩
      · by_cases h4 : n = m
        · subst h4
          have HK := Lib.hid (show cmpP a n a n = 0 by unfold cmpP; rw [if_pos ⟨rfl, rfl⟩])
          rw [show (a == a && n == n) = true by simp] at hq
          go_enter Try.func57, Try.ntmps57
          go_wp2_with fail
          go_ret
          exact ⟨by rw [HK.out]; rfl, HW.out⟩
        · have HK := Lib.hid (show cmpP a n a m = 1 by unfold cmpP; rw [if_neg (by omega), if_neg (by omega)])
          rw [show (a == a && n == m) = false by simp [h4]] at hq
          go_enter Try.func57, Try.ntmps57
          go_wp2_with fail
          go_ret
          exact ⟨by rw [HK.out]; rfl, HW.out⟩
    · have HK := Lib.hid (show cmpP a n b m = 1 by unfold cmpP; rw [if_neg (by omega), if_neg (by omega)])
      rw [show (a == b && n == m) = false by simp [h2]] at hq
      have h2' : (a == b) = false := by simpa using h2
      clear h2
      go_enter Try.func57, Try.ntmps57
      go_wp2_with fail
      go_ret
      exact ⟨by rw [HK.out]; rfl, HW.out⟩
end Go.Proofs.Ytipecocalmmmbaa
