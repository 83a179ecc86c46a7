/- The document's own Holds, Within, Compare, Bit. -/
import Derived.Test.YtjimnlpmmhcdjaaRefB02
import Derived.Deep.RegionWith
namespace Go.Proofs.Ytjimnlpmmhcdjaa
open Go.RowKit

theorem holds_ok {a n x : Int} (h0 : 0 ≤ x) (h1 : x < 4294967296) (h : holdsP a n x = true) : okP a n = true := by
  obtain ⟨ea, ec, n0, n1⟩ := holds_parts h
  have e1 : a = mk a n := by rw [ea, mk_mk x n n h0 h1 n0 (Int.le_refl _) n1]
  unfold okP
  rw [decide_eq_true e1, decide_eq_true ec]; rfl
theorem holds_no {a n x : Int} (h0 : 0 ≤ x) (h1 : x < 4294967296) (h : okP a n = false) : holdsP a n x = false := by
  rcases hk : holdsP a n x with _ | _
  · rfl
  · rw [holds_ok h0 h1 hk] at h; cases h
theorem holdsP_beq (a n x : Int) : (mk x n == a && cl n == n) = holdsP a n x := by
  unfold holdsP
  rw [Bool.eq_iff_iff]
  simp only [Bool.and_eq_true, beq_iff_eq]
  exact ⟨fun h => ⟨h.1.symm, h.2.symm⟩, fun h => ⟨h.1.symm, h.2.symm⟩⟩

/-- What stands of one prefix's box while a test that calls runs. -/
def One (w W : World) (a n : Int) : Prop := Box W w.heap.size (.int .u32 a) (.int .i64 n) ∧ Below w.heap.size w W
theorem One.below {w W W' : World} {a n : Int} (h : One w W a n) (hb : Below W.heap.size W W') : One w W' a n := ⟨h.1.below hb, h.2.trans (hb.mono h.2.size)⟩
theorem one_new (w : World) (a n : Int) : One w (w.alloc (.cells #[.int .u32 a, .int .i64 n] 32)).drew a n :=
  ⟨Box.new w _ _, ((Below.refl w.heap.size w).alloc (Nat.le_refl _) _).drew⟩
theorem one_next {w W W' : World} {a n : Int} (h : W.cell? ⟨w.heap.size, 0, none⟩ = some (.int .u32 a) ∧ W.cell? ⟨w.heap.size, 1, none⟩ = some (.int .i64 n) ∧ One w W a n) (hb : Below W.heap.size W W') :
    W'.cell? ⟨w.heap.size, 0, none⟩ = some (.int .u32 a) ∧ W'.cell? ⟨w.heap.size, 1, none⟩ = some (.int .i64 n) ∧ One w W' a n :=
  have h' := h.2.2.below hb
  ⟨h'.1.c0, h'.1.c1, h'⟩
end Go.Proofs.Ytjimnlpmmhcdjaa
