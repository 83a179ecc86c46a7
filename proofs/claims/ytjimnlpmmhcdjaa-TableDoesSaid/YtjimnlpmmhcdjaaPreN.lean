/- addr's small facts, for a seat without addr's texts of texts. -/
import Derived.Test.YtjimnlpmmhcdjaaPfx
namespace Go.Proofs.Ytjimnlpmmhcdjaa
open Go.RowKit
theorem okP_len {a n : Int} (h : okP a n = true) : 0 ≤ n ∧ n ≤ 32 := by
  unfold okP at h
  rw [Bool.and_eq_true, decide_eq_true_eq, decide_eq_true_eq] at h
  have := bitsOf_le n
  have h2 := h.2
  unfold cl at h2
  omega
theorem str_eq {S : ByteArray} {a : Array UInt8} (h : S.data.toList = a.toList) : S = ⟨a⟩ := by
  cases S
  exact congrArg _ (Array.toList_inj.1 h)
theorem data_len (s : ByteArray) : s.data.toList.length = s.size := by simp
theorem Box.f {w : World} {g : Nat} {v0 v1 : Value} (h : Box w g v0 v1) (j : Nat) : w.frozen? ⟨g, j, none⟩ = false := World.rowIs.frozen h j
theorem Box.drewN {w : World} {g : Nat} {v0 v1 : Value} (h : Box w g v0 v1) (n : Nat) : Box (w.drewN n) g v0 v1 := h

theorem Box.stored {w : World} {g : Nat} {v0 v1 : Value} (h : Box w g v0 v1) (u0 u1 : Value) : Box ((w.setCell ⟨g, 0, none⟩ u0).setCell ⟨g, 1, none⟩ u1) g u0 u1 :=
  ((World.rowIs.set h 0 u0).set 1 u1).congr fun i hi => by
    have : i = 0 ∨ i = 1 := by omega
    rcases this with rfl | rfl <;> rfl
end Go.Proofs.Ytjimnlpmmhcdjaa
