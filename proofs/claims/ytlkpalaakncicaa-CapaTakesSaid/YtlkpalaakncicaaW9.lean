/- hop: interfaces by their numbers. -/
import Derived.Test.YtlkpalaakncicaaW8
import Derived.Sort.Grow
import Derived.Deep.Draws
namespace Go.Proofs.Ytlkpalaakncicaa
open Go.RowKit Go.Sort
set_option linter.unusedVariables false
set_option linter.unusedSimpArgs false

/-- Nothing but draws and new blocks. -/
def Gr (w w' : World) : Prop := ∃ q os, w' = grow (w.drewN q) os
theorem drewN_drew (w : World) (q : Nat) : w.drew.drewN q = w.drewN (q + 1) := by
  unfold World.drew World.drewN
  simp; omega
theorem drewN_zero (w : World) : w.drewN 0 = w := rfl
theorem Gr.refl (w : World) : Gr w w := ⟨0, #[], by simp [drewN_zero]⟩
theorem Gr.trans {a b c : World} (h : Gr a b) (k : Gr b c) : Gr a c := by
  obtain ⟨q, os, rfl⟩ := h
  obtain ⟨q', os', rfl⟩ := k
  refine ⟨q + q', os ++ os', ?_⟩
  rw [← grow_grow]
  unfold grow World.drewN
  simp [Nat.add_assoc]
theorem Gr.ofAlloc (w : World) (o : Obj) : Gr w (w.alloc o) := ⟨0, #[o], by rw [drewN_zero, alloc_eq_grow]⟩
theorem Gr.ofDrew (w : World) : Gr w w.drew := ⟨1, #[], by rw [grow_empty]; rfl⟩
theorem Gr.alloc {w w' : World} (h : Gr w w') (o : Obj) : Gr w (w'.alloc o) := h.trans (Gr.ofAlloc _ _)
theorem Gr.drew {w w' : World} (h : Gr w w') : Gr w w'.drew := h.trans (Gr.ofDrew _)
theorem Gr.two (w : World) (o1 o2 : Obj) : Gr w ((w.alloc o1).alloc o2) := (Gr.ofAlloc _ _).alloc _
theorem Gr.below {w w' : World} (h : Gr w w') : Below w.heap.size w w' := by
  obtain ⟨q, os, rfl⟩ := h
  refine ⟨rfl, rfl, rfl, by simp [World.drewN], fun k hk => ?_⟩
  show (w.heap ++ os)[k]? = w.heap[k]?
  rw [Array.getElem?_append_left hk]

def cmpI (i j : Int) : Int := if i < j then -1 else if j < i then 1 else 0
theorem nan_any (x : Int) (w : World) : Calls Try.prog 63 #[.int .i64 x] w fun e w' => e = .returned (.bool false) ∧ w = w' := by
  have t0 : (x != x) = false := by simp
  go_enter Try.func63, Try.ntmps63
  go_wp2
  go_ret
  exact ⟨by first | rfl | (rw [t0]), rfl⟩
theorem cmpI_any (i j : Int) (w : World) : Calls Try.prog 44 #[.int .i64 i, .int .i64 j] w fun e w' => e = .returned (.int .i64 (cmpI i j)) ∧ w = w' := by
  have H := fun x => Lib.hid (nan_any x w)
  by_cases h1 : i < j
  · have t1 : decide (i < j) = true := by simpa using h1
    rw [show cmpI i j = -1 from if_pos h1]
    go_enter Try.func44, Try.ntmps44
    go_wp2_with (go_at_call 63; refine (H _).out.mono ?_; rintro e w' ⟨rfl, rfl⟩)
    go_ret
    exact ⟨rfl, rfl⟩
  · have t1 : decide (i < j) = false := by simpa using h1
    by_cases h2 : j < i
    · have t2 : decide (j < i) = true := by simpa using h2
      rw [show cmpI i j = 1 from (if_neg h1).trans (if_pos h2)]
      go_enter Try.func44, Try.ntmps44
      go_wp2_with (go_at_call 63; refine (H _).out.mono ?_; rintro e w' ⟨rfl, rfl⟩)
      go_ret
      exact ⟨rfl, rfl⟩
    · have t2 : decide (j < i) = false := by simpa using h2
      rw [show cmpI i j = 0 from (if_neg h1).trans (if_neg h2)]
      go_enter Try.func44, Try.ntmps44
      go_wp2_with (go_at_call 63; refine (H _).out.mono ?_; rintro e w' ⟨rfl, rfl⟩)
      go_ret
      exact ⟨rfl, rfl⟩

theorem allcmp_gr (x0 x1 x2 x3 x4 y0 y1 y2 y3 y4 : Int) (w : World) :
    Calls Try.prog 43 #[.agg #[.int .i64 x0, .int .i64 x1, .int .u32 x2, .int .i64 x3, .int .i64 x4], .agg #[.int .i64 y0, .int .i64 y1, .int .u32 y2, .int .i64 y3, .int .i64 y4]] w fun e w' => e = .returned (.int .i64 (cmpI x0 y0)) ∧ Gr w w' := by
  have HG := Lib.hid (Gr.two w (.cells #[.int .i64 x0, .int .i64 x1, .int .u32 x2, .int .i64 x3, .int .i64 x4] 34) (.cells #[.int .i64 y0, .int .i64 y1, .int .u32 y2, .int .i64 y3, .int .i64 y4] 34))
  have HI := Lib.hid (fun u => cmpI_any x0 y0 u)
  obtain ⟨c, hc⟩ : ∃ c, cmpI x0 y0 = c := ⟨_, rfl⟩
  rw [hc] at HI ⊢
  clear hc
  go_enter Try.func43, Try.ntmps43
  go_wp2_with (go_at_call 44; refine (HI.out _).mono ?_; rintro e w' ⟨rfl, rfl⟩)
  trace_state
  go_ret
  exact ⟨rfl, HG.out⟩
end Go.Proofs.Ytlkpalaakncicaa
