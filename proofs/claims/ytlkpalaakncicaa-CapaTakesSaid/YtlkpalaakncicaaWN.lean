/- hop: pieces of a list of interfaces. -/
import Derived.Test.YtlkpalaakncicaaWB
namespace Go.Proofs.Ytlkpalaakncicaa
open Go.RowKit
set_option linter.unusedVariables false
set_option linter.unusedSimpArgs false
set_option maxRecDepth 100000

theorem ifsl_elem : Try.prog.underlying 22 = some (.slice (Try.prog.elem 22)) := by kernel_rfl
theorem ifsl_size (w : World) : (Go.sizeOf (Try.prog.elem 22)).run Try.prog w = .ok 5 w := by kernel_rfl
theorem IfsAt.take {w : World} {p : Option Addr} {l : List Ifc} (h : IfsAt w p l) (k : Nat) : IfsAt w p (l.take k) := by
  refine ⟨fun x hx => h.ok x (List.mem_of_mem_take hx), ?_⟩
  rcases h.cells with rfl | ⟨b, off, rfl, hc⟩
  · left; simp
  · refine .inr ⟨b, off, rfl, fun i hi => ?_⟩
    rw [List.length_take] at hi
    have := hc i (by omega)
    rw [show (l.take k).getD i Ifc.zero = l.getD i Ifc.zero by simp [List.getD, List.getElem?_take_of_lt (show i < k by omega)]]
    exact this
theorem IfsAt.drop {w : World} {b off : Nat} {l : List Ifc} (h : IfsAt w (some ⟨b, off, none⟩) l) (k : Nat) : IfsAt w (some ⟨b, off + k * 5, none⟩) (l.drop k) := by
  refine ⟨fun x hx => h.ok x (List.mem_of_mem_drop hx), ?_⟩
  rcases h.cells with rfl | ⟨b', off', e, hc⟩
  · left; simp
  · simp only [Option.some.injEq, Addr.mk.injEq, and_true] at e
    obtain ⟨rfl, rfl⟩ := e
    refine .inr ⟨b, off + k * 5, rfl, fun i hi => ?_⟩
    rw [List.length_drop] at hi
    have hx := hc (k + i) (by omega)
    rw [show (l.drop k).getD i Ifc.zero = l.getD (k + i) Ifc.zero by simp [List.getD, List.getElem?_drop]]
    rw [show off + k * 5 + i * 5 = off + (k + i) * 5 by omega, show off + k * 5 + (i * 5 + 1) = off + ((k + i) * 5 + 1) by omega, show off + k * 5 + (i * 5 + 2) = off + ((k + i) * 5 + 2) by omega, show off + k * 5 + (i * 5 + 3) = off + ((k + i) * 5 + 3) by omega, show off + k * 5 + (i * 5 + 4) = off + ((k + i) * 5 + 4) by omega]
    exact hx
theorem cutI_l (w : World) (p : Option Addr) (l : List Ifc) (n c k : Nat) (h : IfsAt w p l) (hn : l.length = n) (hk : k ≤ n) (hc : n ≤ c) :
    ∃ Q : Option Addr, (∀ u, (Instr.slice 22 (.slice p n c) (some (.int .i64 k)) none none).run Try.prog u = .ok (.slice Q (n - k) (c - k)) u) ∧ IfsAt w Q (l.drop k) := by
  refine ⟨if c = k then p else p.map (·.add (k * 5)), fun u => ?_, ?_⟩
  · rw [run_slice_l (ht := ifsl_elem) (h0 := by omega) (h1 := by omega), ifsl_size]
    simp [Result.andThen, sliced]
  · by_cases e : c = k
    · rw [List.drop_eq_nil_of_le (by omega)]; exact IfsAt.nil _ _
    · rw [if_neg e]
      rcases h.cells with rfl | ⟨b, off, rfl, _⟩
      · simp; exact IfsAt.nil _ _
      · rw [Option.map_some, show (⟨b, off, none⟩ : Addr).add (k * 5) = ⟨b, off + k * 5, none⟩ from by unfold Addr.add; split <;> simp_all]
        exact h.drop k
theorem cutI_h (w : World) (p : Option Addr) (l : List Ifc) (n c k : Nat) (h : IfsAt w p l) (hn : l.length = n) (hk : k ≤ n) (hc : n ≤ c) :
    ∃ Q : Option Addr, (∀ u, (Instr.slice 22 (.slice p n c) none (some (.int .i64 k)) none).run Try.prog u = .ok (.slice Q k c) u) ∧ IfsAt w Q (l.take k) := by
  refine ⟨if c = 0 then p else p.map (·.add (0 * 5)), fun u => ?_, ?_⟩
  · rw [run_slice_h (ht := ifsl_elem) (h0 := by omega) (h2 := by omega), ifsl_size]
    simp [Result.andThen, sliced]
  · by_cases e : c = 0
    · rw [if_pos e]; exact h.take k
    · rw [if_neg e]
      rcases h.cells with rfl | ⟨b, off, rfl, _⟩
      · simp; exact IfsAt.nil _ _
      · rw [Option.map_some, show (⟨b, off, none⟩ : Addr).add (0 * 5) = ⟨b, off, none⟩ from by unfold Addr.add; split <;> simp_all]
        exact h.take k
end Go.Proofs.Ytlkpalaakncicaa
