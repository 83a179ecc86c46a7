/- The orders again: nothing but draws and new blocks. -/
import Derived.Test.YtgididkpgncdjaaZ4
import Derived.Sort.Grow
import Derived.Deep.Draws
namespace Go.Proofs.Ytgididkpgncdjaa
open Go.RowKit Go.Sort

/-- Nothing but draws and new blocks. -/
def Gr (w w' : World) : Prop := ∃ q os, w' = grow (w.drewN q) os
theorem drewN_drew (w : World) (q : Nat) : w.drew.drewN q = w.drewN (q + 1) := by
  unfold World.drew World.drewN
  simp; omega
theorem drewN_zero (w : World) : w.drewN 0 = w := rfl
theorem Gr.refl (w : World) : Gr w w := ⟨0, #[], by simp [drewN_zero]⟩
theorem Gr.trans {a b c : World} (h : Gr a b) (k : Gr b c) : Gr a c := by
  obtain ⟨q, os, rfl⟩ := h
  obtain ⟨q', os', rfl⟩ := k
  refine ⟨q + q', os ++ os', ?_⟩
  rw [← grow_grow]
  unfold grow World.drewN
  simp [Nat.add_assoc]
theorem Gr.ofAlloc (w : World) (o : Obj) : Gr w (w.alloc o) := ⟨0, #[o], by rw [drewN_zero, alloc_eq_grow]⟩
theorem Gr.ofDrew (w : World) : Gr w w.drew := ⟨1, #[], by rw [grow_empty]; rfl⟩
theorem Gr.alloc {w w' : World} (h : Gr w w') (o : Obj) : Gr w (w'.alloc o) := h.trans (Gr.ofAlloc _ _)
theorem Gr.drew {w w' : World} (h : Gr w w') : Gr w w'.drew := h.trans (Gr.ofDrew _)
theorem Gr.two (w : World) (o1 o2 : Obj) : Gr w ((w.alloc o1).alloc o2) := (Gr.ofAlloc _ _).alloc _
theorem Gr.below {w w' : World} (h : Gr w w') : Below w.heap.size w w' := by
  obtain ⟨q, os, rfl⟩ := h
  refine ⟨rfl, rfl, rfl, by simp [World.drewN], fun k hk => ?_⟩
  show (w.heap ++ os)[k]? = w.heap[k]?
  rw [Array.getElem?_append_left hk]

theorem compare_gr (a n b m : Int) (w : World) :
    Calls Try.prog 41 #[.agg #[.int .u32 a, .int .i64 n], .agg #[.int .u32 b, .int .i64 m]] w fun e w' => e = .returned (.int .i64 (cmpP a n b m)) ∧ Gr w w' := by
  have HW := Lib.hid (Gr.two w (.cells #[.int .u32 a, .int .i64 n] 25) (.cells #[.int .u32 b, .int .i64 m] 25))
  have hg := pfx_eqGuard
  have hq := pfx_eql a n b m
  by_cases h : a = b ∧ n = m
  · have HK := Lib.hid (show cmpP a n b m = 0 by unfold cmpP; rw [if_pos h])
    rw [show (a == b && n == m) = true by simp [h]] at hq
    clear h
    go_enter Try.func41, Try.ntmps41
    go_wp2_with fail
    go_ret
    exact ⟨by rw [HK.out]; rfl, HW.out⟩
  · rw [show (a == b && n == m) = false by
      rw [Bool.and_eq_false_iff]
      by_cases h1 : a = b
      · right; simp; omega
      · left; simpa using h1] at hq
    by_cases h1 : a < b
    · have HK := Lib.hid (show cmpP a n b m = -1 by unfold cmpP; rw [if_neg h, if_pos (Or.inl h1)])
      clear h
      go_enter Try.func41, Try.ntmps41
      go_wp2_with fail
      go_ret
      exact ⟨by rw [HK.out]; rfl, HW.out⟩
    · by_cases h2 : a = b
      · subst h2
        by_cases h3 : n < m
        · have HK := Lib.hid (show cmpP a n a m = -1 by unfold cmpP; rw [if_neg h, if_pos (Or.inr ⟨rfl, h3⟩)])
          clear h
          go_enter Try.func41, Try.ntmps41
          go_wp2_with fail
          go_ret
          exact ⟨by rw [HK.out]; rfl, HW.out⟩
        · have HK := Lib.hid (show cmpP a n a m = 1 by unfold cmpP; rw [if_neg h, if_neg (by omega)])
          clear h
          go_enter Try.func41, Try.ntmps41
          go_wp2_with fail
          go_ret
          exact ⟨by rw [HK.out]; rfl, HW.out⟩
      · have HK := Lib.hid (show cmpP a n b m = 1 by unfold cmpP; rw [if_neg h, if_neg (by omega)])
        have h2' : (a == b) = false := by simpa using h2
        clear h h2
        go_enter Try.func41, Try.ntmps41
        go_wp2_with fail
        go_ret
        exact ⟨by rw [HK.out]; rfl, HW.out⟩

end Go.Proofs.Ytgididkpgncdjaa
