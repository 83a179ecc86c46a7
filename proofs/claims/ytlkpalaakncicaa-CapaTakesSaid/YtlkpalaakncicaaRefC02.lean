/- The document's own Holds, Within, Compare, Bit. -/
import Derived.Test.YtlkpalaakncicaaRefB02
import Derived.Deep.RegionWith
namespace Go.Proofs.Ytlkpalaakncicaa
open Go.RowKit

theorem holds_ok {a n x : Int} (h0 : 0 ≤ x) (h1 : x < 4294967296) (h : holdsP a n x = true) : okP a n = true := by
  obtain ⟨ea, ec, n0, n1⟩ := holds_parts h
  have e1 : a = mk a n := by rw [ea, mk_mk x n n h0 h1 n0 (Int.le_refl _) n1]
  unfold okP
  rw [decide_eq_true e1, decide_eq_true ec]; rfl
theorem holds_no {a n x : Int} (h0 : 0 ≤ x) (h1 : x < 4294967296) (h : okP a n = false) : holdsP a n x = false := by
  rcases hk : holdsP a n x with _ | _
  · rfl
  · rw [holds_ok h0 h1 hk] at h; cases h
theorem holdsP_beq (a n x : Int) : (mk x n == a && cl n == n) = holdsP a n x := by
  unfold holdsP
  rw [Bool.eq_iff_iff]
  simp only [Bool.and_eq_true, beq_iff_eq]
  exact ⟨fun h => ⟨h.1.symm, h.2.symm⟩, fun h => ⟨h.1.symm, h.2.symm⟩⟩

/-- What stands of one prefix's box while a test that calls runs. -/
def One (w W : World) (a n : Int) : Prop := Box W w.heap.size (.int .u32 a) (.int .i64 n) ∧ Below w.heap.size w W
theorem One.below {w W W' : World} {a n : Int} (h : One w W a n) (hb : Below W.heap.size W W') : One w W' a n := ⟨h.1.below hb, h.2.trans (hb.mono h.2.size)⟩
theorem one_new (w : World) (a n : Int) : One w (w.alloc (.cells #[.int .u32 a, .int .i64 n] 32)).drew a n :=
  ⟨Box.new w _ _, ((Below.refl w.heap.size w).alloc (Nat.le_refl _) _).drew⟩
theorem one_next {w W W' : World} {a n : Int} (h : W.cell? ⟨w.heap.size, 0, none⟩ = some (.int .u32 a) ∧ W.cell? ⟨w.heap.size, 1, none⟩ = some (.int .i64 n) ∧ One w W a n) (hb : Below W.heap.size W W') :
    W'.cell? ⟨w.heap.size, 0, none⟩ = some (.int .u32 a) ∧ W'.cell? ⟨w.heap.size, 1, none⟩ = some (.int .i64 n) ∧ One w W' a n :=
  have h' := h.2.2.below hb
  ⟨h'.1.c0, h'.1.c1, h'⟩

set_option maxHeartbeats 1000000 in
theorem rholds_no (a n x : Int) (w : World) (a0 : 0 ≤ a) (a1 : a < 4294967296) (h0 : 0 ≤ x) (h1 : x < 4294967296) (hk : okP a n = false) :
    Calls Try.prog 39 #[.agg #[.int .u32 a, .int .i64 n], .int .u32 x] w fun e w' => e = .returned (.bool (holdsP a n x)) ∧ Below w.heap.size w w' := by
  have h1n := one_new w a n
  have hS := And.intro h1n.1.c0 (And.intro h1n.1.c1 h1n)
  clear h1n
  have HK := Lib.hid (holds_no h0 h1 hk)
  have HC := Lib.hid (fun w => show Calls Try.prog 36 #[.agg #[.int .u32 a, .int .i64 n]] w fun e w' => e = .returned (.bool false) ∧ Below w.heap.size w w' from by have := rcheck_any a n w a0 a1; rwa [hk] at this)
  clear hk
  go_enter Try.func39, Try.ntmps39
  go_wp2_with fail
  have c0 := hS.1
  have c1 := hS.2.1
  have HS := Lib.hid hS.2.2
  clear hS
  first | (go_region_with (go_at_call 36; refine (HC.out _).mono ?_; rintro e w2 ⟨rfl, hb2⟩; have HK2 := Lib.hid (HS.out.below hb2); clear hb2)) | fail
  all_goals (go_wp2_with fail)
  all_goals go_ret
  all_goals exact ⟨by rw [HK.out]; rfl, HK2.out.2⟩

theorem rholds_yes (a n x : Int) (w : World) (a0 : 0 ≤ a) (a1 : a < 4294967296) (h0 : 0 ≤ x) (h1 : x < 4294967296) (hk : okP a n = true) :
    Calls Try.prog 39 #[.agg #[.int .u32 a, .int .i64 n], .int .u32 x] w fun e w' => e = .returned (.bool (holdsP a n x)) ∧ Below w.heap.size w w' := by
  have h1n := one_new w a n
  have hS := And.intro h1n.1.c0 (And.intro h1n.1.c1 h1n)
  have HR := Lib.hid (And.intro h0 h1)
  have hq := pfx_eql (mk x n) (cl n) a n
  rw [holdsP_beq] at hq
  have hg := pfx_eqGuard
  have HC := Lib.hid (fun w => show Calls Try.prog 36 #[.agg #[.int .u32 a, .int .i64 n]] w fun e w' => e = .returned (.bool true) ∧ Below w.heap.size w w' from by have := rcheck_any a n w a0 a1; rwa [hk] at this)
  clear hk h1n
  go_enter Try.func39, Try.ntmps39
  go_wp2_with fail
  go_region_held (fun w' => w'.cell? ⟨w.heap.size, 0, none⟩ = some (.int .u32 a) ∧ w'.cell? ⟨w.heap.size, 1, none⟩ = some (.int .i64 n) ∧ One w w' a n) (assumption) (first | (go_at_call 36; refine (HC.out _).mono ?_; rintro e w2 ⟨rfl, hb2⟩; have hk := one_next (by assumption) hb2; clear hb2) | (go_at_call 57; refine (rmake_any x n _ HR.out.1 HR.out.2).mono ?_; rintro e w3 ⟨rfl, hb2⟩; have hk3 := one_next (by assumption) hb2; clear hb2))
  go_wp2_with fail
  go_ret
  exact ⟨rfl, hk3.2.2.2⟩
theorem rholds_any (a n x : Int) (w : World) (a0 : 0 ≤ a) (a1 : a < 4294967296) (h0 : 0 ≤ x) (h1 : x < 4294967296) :
    Calls Try.prog 39 #[.agg #[.int .u32 a, .int .i64 n], .int .u32 x] w fun e w' => e = .returned (.bool (holdsP a n x)) ∧ Below w.heap.size w w' := by
  rcases hk : okP a n with _ | _
  · exact rholds_no a n x w a0 a1 h0 h1 hk
  · exact rholds_yes a n x w a0 a1 h0 h1 hk
end Go.Proofs.Ytlkpalaakncicaa
