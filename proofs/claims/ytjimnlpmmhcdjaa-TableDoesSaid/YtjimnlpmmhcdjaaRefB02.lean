/- The document's own Check, Holds, Within, Compare, Bit. -/
import Derived.Test.YtjimnlpmmhcdjaaRef02
import Derived.Deep.QuietTactic
import Derived.BigQuiet
namespace Go.Proofs.Ytjimnlpmmhcdjaa
open Go.RowKit

theorem okP_beq' (a n : Int) : (mk a n == a && cl n == n) = okP a n := by
  unfold okP
  rw [Bool.eq_iff_iff]
  simp only [Bool.and_eq_true, beq_iff_eq, decide_eq_true_eq]
  exact ⟨fun h => ⟨h.1.symm, h.2.symm⟩, fun h => ⟨h.1.symm, h.2.symm⟩⟩
theorem okP_out {a n : Int} (h : n < 0 ∨ 32 < n) : okP a n = false := by
  rcases hk : okP a n with _ | _
  · rfl
  · have := okP_len hk; omega

theorem rcheck_any (a n : Int) (w : World) (h0 : 0 ≤ a) (h1 : a < 4294967296) :
    Calls Try.prog 26 #[.agg #[.int .u32 a, .int .i64 n]] w fun e w' => e = .returned (.bool (okP a n)) ∧ Below w.heap.size w w' := by
  have hbx := box_cells w (.int .u32 a) (.int .i64 n)
  have HX := Lib.hid hbx
  obtain ⟨C0, C1⟩ := hbx
  have hq := pfx_eql (mk a n) (cl n) a n
  rw [okP_beq'] at hq
  have hg := pfx_eqGuard
  have HZ := Lib.hid (show w.heap.size ≤ (w.alloc (.cells #[Value.int .u32 a, Value.int .i64 n] 32)).drew.heap.size from by simp)
  have HA := Lib.hid (And.intro h0 h1)
  have HB1 := Lib.hid ((Below.refl w.heap.size w).alloc (Nat.le_refl _) (.cells #[.int .u32 a, .int .i64 n] 32))
  have HB0 := Lib.hid (((Below.refl w.heap.size w).alloc (Nat.le_refl _) (.cells #[.int .u32 a, .int .i64 n] 32)).drew)
  rcases Int.lt_or_le n 0 with hn | hn
  · have HK := Lib.hid (okP_out (a := a) (.inl hn))
    have d1 : decide (0 ≤ n) = false := by simp; omega
    go_enter Try.func26, Try.ntmps26
    go_wp2_with fail
    go_quiet (fail)
    go_wp2_with fail
    go_ret
    exact ⟨by rw [HK.out]; rfl, below_drewN HB1.out _⟩
  · have d1 : decide (0 ≤ n) = true := by simp; omega
    rcases Int.lt_or_le 32 n with hm | hm
    · have HK := Lib.hid (okP_out (a := a) (.inr hm))
      have d2 : decide (n ≤ 32) = false := by simp; omega
      go_enter Try.func26, Try.ntmps26
      go_wp2_with fail
      go_quiet (fail)
      go_wp2_with fail
      go_ret
      exact ⟨by rw [HK.out]; rfl, below_drewN HB1.out _⟩
    · have d2 : decide (n ≤ 32) = true := by simp; omega
      go_enter Try.func26, Try.ntmps26
      go_wp2_with fail
      go_region_held (fun w' => w'.cell? ⟨w.heap.size, 0, none⟩ = some (.int .u32 a) ∧ w'.cell? ⟨w.heap.size, 1, none⟩ = some (.int .i64 n)) (refine ⟨?_, ?_⟩ <;> assumption) (first | (go_at_call 32; refine (rmake_any a n _ HA.out.1 HA.out.2).mono ?_; rintro e w2 ⟨rfl, hb2⟩; have k0 := keep hb2 HX.out.1; have k1 := keep hb2 HX.out.2; have HB2 := Lib.hid hb2; clear hb2))
      have HB := Lib.hid (HB0.out.trans (HB2.out.mono HZ.out))
      clear HB2
      go_wp2_with fail
      go_ret
      exact ⟨rfl, HB.out⟩
end Go.Proofs.Ytjimnlpmmhcdjaa
