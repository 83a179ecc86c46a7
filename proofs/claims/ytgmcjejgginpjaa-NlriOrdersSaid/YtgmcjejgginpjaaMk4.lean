/- The orders again: nothing but draws and new blocks. -/
import Derived.Test.YtgmcjejgginpjaaMk3
import Derived.Sort.Grow
import Derived.Deep.Draws
namespace Go.Proofs.Ytgmcjejgginpjaa
open Go.RowKit Go.Sort

/-- Nothing but draws and new blocks. -/
def Gr (w w' : World) : Prop := ∃ q os, w' = grow (w.drewN q) os
theorem drewN_drew (w : World) (q : Nat) : w.drew.drewN q = w.drewN (q + 1) := by
  unfold World.drew World.drewN
  simp; omega
theorem drewN_zero (w : World) : w.drewN 0 = w := rfl
theorem Gr.refl (w : World) : Gr w w := ⟨0, #[], by simp [drewN_zero]⟩
theorem Gr.trans {a b c : World} (h : Gr a b) (k : Gr b c) : Gr a c := by
  obtain ⟨q, os, rfl⟩ := h
  obtain ⟨q', os', rfl⟩ := k
  refine ⟨q + q', os ++ os', ?_⟩
  rw [← grow_grow]
  unfold grow World.drewN
  simp [Nat.add_assoc]
theorem Gr.ofAlloc (w : World) (o : Obj) : Gr w (w.alloc o) := ⟨0, #[o], by rw [drewN_zero, alloc_eq_grow]⟩
theorem Gr.ofDrew (w : World) : Gr w w.drew := ⟨1, #[], by rw [grow_empty]; rfl⟩
theorem Gr.alloc {w w' : World} (h : Gr w w') (o : Obj) : Gr w (w'.alloc o) := h.trans (Gr.ofAlloc _ _)
theorem Gr.drew {w w' : World} (h : Gr w w') : Gr w w'.drew := h.trans (Gr.ofDrew _)
theorem Gr.two (w : World) (o1 o2 : Obj) : Gr w ((w.alloc o1).alloc o2) := (Gr.ofAlloc _ _).alloc _
theorem Gr.below {w w' : World} (h : Gr w w') : Below w.heap.size w w' := by
  obtain ⟨q, os, rfl⟩ := h
  refine ⟨rfl, rfl, rfl, by simp [World.drewN], fun k hk => ?_⟩
  show (w.heap ++ os)[k]? = w.heap[k]?
  rw [Array.getElem?_append_left hk]

theorem compare_gr (a n b m : Int) (w : World) :
    Calls Try.prog 35 #[.agg #[.int .u32 a, .int .i64 n], .agg #[.int .u32 b, .int .i64 m]] w fun e w' => e = .returned (.int .i64 (cmpP a n b m)) ∧ Gr w w' := by
  have HW := Lib.hid (Gr.two w (.cells #[.int .u32 a, .int .i64 n] 39) (.cells #[.int .u32 b, .int .i64 m] 39))
  have hg := pfx_eqGuard
  have hq := pfx_eql a n b m
  by_cases h : a = b ∧ n = m
  · have HK := Lib.hid (show cmpP a n b m = 0 by unfold cmpP; rw [if_pos h])
    rw [show (a == b && n == m) = true by simp [h]] at hq
    clear h
    go_enter Try.func35, Try.ntmps35
    go_wp2_with fail
    go_ret
    exact ⟨by rw [HK.out]; rfl, HW.out⟩
  · rw [show (a == b && n == m) = false by
      rw [Bool.and_eq_false_iff]
      by_cases h1 : a = b
      · right; simp; omega
      · left; simpa using h1] at hq
    by_cases h1 : a < b
    · have HK := Lib.hid (show cmpP a n b m = -1 by unfold cmpP; rw [if_neg h, if_pos (Or.inl h1)])
      clear h
      go_enter Try.func35, Try.ntmps35
      go_wp2_with fail
      go_ret
      exact ⟨by rw [HK.out]; rfl, HW.out⟩
    · by_cases h2 : a = b
      · subst h2
        by_cases h3 : n < m
        · have HK := Lib.hid (show cmpP a n a m = -1 by unfold cmpP; rw [if_neg h, if_pos (Or.inr ⟨rfl, h3⟩)])
          clear h
          go_enter Try.func35, Try.ntmps35
          go_wp2_with fail
          go_ret
          exact ⟨by rw [HK.out]; rfl, HW.out⟩
        · have HK := Lib.hid (show cmpP a n a m = 1 by unfold cmpP; rw [if_neg h, if_neg (by omega)])
          clear h
          go_enter Try.func35, Try.ntmps35
          go_wp2_with fail
          go_ret
          exact ⟨by rw [HK.out]; rfl, HW.out⟩
      · have HK := Lib.hid (show cmpP a n b m = 1 by unfold cmpP; rw [if_neg h, if_neg (by omega)])
        have h2' : (a == b) = false := by simpa using h2
        clear h h2
        go_enter Try.func35, Try.ntmps35
        go_wp2_with fail
        go_ret
        exact ⟨by rw [HK.out]; rfl, HW.out⟩

set_option maxHeartbeats 2000000 in
theorem compareNl_gr (i a n j b m : Int) (w : World) :
    Calls Try.prog 18 #[.agg #[.int .i64 i, .int .u32 a, .int .i64 n], .agg #[.int .i64 j, .int .u32 b, .int .i64 m]] w fun e w' => e = .returned (.int .i64 (cmpN ⟨i, a, n⟩ ⟨j, b, m⟩)) ∧ Gr w w' := by
  obtain ⟨V, hV⟩ : ∃ V, (w.alloc (.cells #[.int .i64 i, .int .u32 a, .int .i64 n] 41)).alloc (.cells #[.int .i64 j, .int .u32 b, .int .i64 m] 41) = V := ⟨_, rfl⟩
  have hbV : Gr w V := by rw [← hV]; exact Gr.two _ _ _
  have hK1 : Blk V w.heap.size 41 [.int .i64 i, .int .u32 a, .int .i64 n] := by rw [← hV]; exact (Blk.new w 41 [.int .i64 i, .int .u32 a, .int .i64 n]).alloc _
  have hK2 : Blk V (w.heap.size + 1) 41 [.int .i64 j, .int .u32 b, .int .i64 m] := by
    rw [← hV, ← sz_alloc w (.cells #[.int .i64 i, .int .u32 a, .int .i64 n] 41)]
    exact Blk.new _ 41 [.int .i64 j, .int .u32 b, .int .i64 m]
  have hT : TwoN w.heap.size i a n j b m V := ⟨hK1.cell 0 (by simp), hK1.cell 1 (by simp), hK1.cell 2 (by simp), hK2.cell 0 (by simp), hK2.cell 1 (by simp), hK2.cell 2 (by simp)⟩
  have hbd : Below V.heap.size V V.drew := (Below.refl _ _).drew
  have HC := Lib.hid (compare_gr a n b m V.drew)
  have HI := fun u => Lib.hid (cmpI_any i j u)
  have hN := cmpN_or i a n j b m
  obtain ⟨N, hN2⟩ : ∃ N, cmpN ⟨i, a, n⟩ ⟨j, b, m⟩ = N := ⟨_, rfl⟩
  obtain ⟨C, hC⟩ : ∃ C, cmpP a n b m = C := ⟨_, rfl⟩
  obtain ⟨D, hD⟩ : ∃ D, cmpI i j = D := ⟨_, rfl⟩
  rw [hC] at HC
  rw [hN2, hC, hD] at hN
  simp only [hD] at HI
  rw [hN2]
  have HN := Lib.hid hN
  have HV := Lib.hid hV
  have HB := Lib.hid hbV
  have HT := Lib.hid (hT.below hbd)
  obtain ⟨c0, c1, c2, d0, d1, d2⟩ := hT.below hbd
  clear hV hbV hK1 hK2 hN hN2 hC hD hT hbd
  go_enter Try.func18, Try.ntmps18
  go_wp2_with fail
  rw [HV.out]
  have hS := And.intro c0 (And.intro c1 (And.intro c2 (And.intro d0 (And.intro d1 d2))))
  clear c0 c1 c2 d0 d1 d2
  go_region_held_law (fun w' => w'.cell? ⟨w.heap.size, 0, none⟩ = some (.int .i64 i) ∧ w'.cell? ⟨w.heap.size, 1, none⟩ = some (.int .u32 a) ∧ w'.cell? ⟨w.heap.size, 2, none⟩ = some (.int .i64 n) ∧ w'.cell? ⟨w.heap.size + 1, 0, none⟩ = some (.int .i64 j) ∧ w'.cell? ⟨w.heap.size + 1, 1, none⟩ = some (.int .u32 b) ∧ w'.cell? ⟨w.heap.size + 1, 2, none⟩ = some (.int .i64 m)) (first | with_reducible assumption | exact TwoN.below (by with_reducible assumption) (newB _ _)) (first
    | (go_at_call 35; (with_reducible refine HC.out.mono ?_); rintro e w2 ⟨rfl, hb2⟩; have hS2 := HT.out.below hb2.below; have HB2 := Lib.hid (HB.out.drew.trans hb2); have hO2 := (or2_any C D w2.heap.size (w2.alloc (.cells #[.int .i64 C, .int .i64 D] 3)) ((Blk.new w2 3 [.int .i64 C, .int .i64 D]).cell 0 (by simp)) ((Blk.new w2 3 [.int .i64 C, .int .i64 D]).cell 1 (by simp))); rw [← HN.out] at hO2; have HO2 := Lib.hid hO2; clear hO2; have hS3 := hS2.below (newB w2 (.cells #[.int .i64 C, .int .i64 D] 3)); unfold TwoN at hS2 hS3; clear hb2)
    | (go_at_call 36; (with_reducible refine (HI _).out.mono ?_); rintro e w' ⟨rfl, rfl⟩)
    | (go_at_call 34; (with_reducible refine HO2.out.mono ?_); rintro e w' ⟨rfl, rfl⟩))
  all_goals
    go_wp2_with fail
    go_ret
    exact ⟨rfl, HB2.out.alloc _⟩
end Go.Proofs.Ytgmcjejgginpjaa
