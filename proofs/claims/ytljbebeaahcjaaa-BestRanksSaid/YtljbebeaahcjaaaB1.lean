/- best: numbers held against each other: cmp.Compare, cmp.Or, slices.Compare at three, looks.compare. -/
import Derived.Test.YtljbebeaahcjaaaJN
import Derived.Sort.Grow
import Derived.Deep.Draws
namespace Go.Proofs.Ytljbebeaahcjaaa
open Go.RowKit Go.Maps Go.Sort
set_option linter.unusedVariables false
set_option linter.unusedSimpArgs false
set_option maxRecDepth 100000

/-- Nothing but draws and new blocks. -/
def Gr (w w' : World) : Prop := ∃ q os, w' = grow (w.drewN q) os
theorem drewN_drew (w : World) (q : Nat) : w.drew.drewN q = w.drewN (q + 1) := by
  unfold World.drew World.drewN
  simp; omega
theorem drewN_zero (w : World) : w.drewN 0 = w := rfl
theorem Gr.refl (w : World) : Gr w w := ⟨0, #[], by simp [drewN_zero]⟩
theorem Gr.trans {a b c : World} (h : Gr a b) (k : Gr b c) : Gr a c := by
  obtain ⟨q, os, rfl⟩ := h
  obtain ⟨q', os', rfl⟩ := k
  refine ⟨q + q', os ++ os', ?_⟩
  rw [← grow_grow]
  unfold grow World.drewN
  simp [Nat.add_assoc]
theorem Gr.ofAlloc (w : World) (o : Obj) : Gr w (w.alloc o) := ⟨0, #[o], by rw [drewN_zero, alloc_eq_grow]⟩
theorem Gr.ofDrew (w : World) : Gr w w.drew := ⟨1, #[], by rw [grow_empty]; rfl⟩
theorem Gr.alloc {w w' : World} (h : Gr w w') (o : Obj) : Gr w (w'.alloc o) := h.trans (Gr.ofAlloc _ _)
theorem Gr.drew {w w' : World} (h : Gr w w') : Gr w w'.drew := h.trans (Gr.ofDrew _)
theorem Gr.two (w : World) (o1 o2 : Obj) : Gr w ((w.alloc o1).alloc o2) := (Gr.ofAlloc _ _).alloc _
theorem Gr.below {w w' : World} (h : Gr w w') : Below w.heap.size w w' := by
  obtain ⟨q, os, rfl⟩ := h
  refine ⟨rfl, rfl, rfl, by simp [World.drewN], fun k hk => ?_⟩
  show (w.heap ++ os)[k]? = w.heap[k]?
  rw [Array.getElem?_append_left hk]

def cmpI (i j : Int) : Int := if i < j then -1 else if j < i then 1 else 0
theorem nan_any (x : Int) (w : World) : Calls Try.prog 60 #[.int .i64 x] w fun e w' => e = .returned (.bool false) ∧ w = w' := by
  have t0 : (x != x) = false := by simp
  go_enter Try.func60, Try.ntmps60
  go_wp2
  go_ret
  exact ⟨by first | rfl | (rw [t0]), rfl⟩
theorem cmpI_any (i j : Int) (w : World) : Calls Try.prog 40 #[.int .i64 i, .int .i64 j] w fun e w' => e = .returned (.int .i64 (cmpI i j)) ∧ w = w' := by
  have H := fun x => Lib.hid (nan_any x w)
  by_cases h1 : i < j
  · have t1 : decide (i < j) = true := by simpa using h1
    rw [show cmpI i j = -1 from if_pos h1]
    go_enter Try.func40, Try.ntmps40
    go_wp2_with (go_at_call 60; refine (H _).out.mono ?_; rintro e w' ⟨rfl, rfl⟩)
    go_ret
    exact ⟨rfl, rfl⟩
  · have t1 : decide (i < j) = false := by simpa using h1
    by_cases h2 : j < i
    · have t2 : decide (j < i) = true := by simpa using h2
      rw [show cmpI i j = 1 from (if_neg h1).trans (if_pos h2)]
      go_enter Try.func40, Try.ntmps40
      go_wp2_with (go_at_call 60; refine (H _).out.mono ?_; rintro e w' ⟨rfl, rfl⟩)
      go_ret
      exact ⟨rfl, rfl⟩
    · have t2 : decide (j < i) = false := by simpa using h2
      rw [show cmpI i j = 0 from (if_neg h1).trans (if_neg h2)]
      go_enter Try.func40, Try.ntmps40
      go_wp2_with (go_at_call 60; refine (H _).out.mono ?_; rintro e w' ⟨rfl, rfl⟩)
      go_ret
      exact ⟨rfl, rfl⟩
/-- The first that is not 0. -/
def orV : List Int → Int
  | [] => 0
  | x :: t => if x ≠ 0 then x else orV t
theorem orV_drop : ∀ {l : List Int} {k : Nat}, (∀ x ∈ l.take k, x = 0) → orV l = orV (l.drop k)
  | [], k, _ => by simp
  | x :: t, 0, _ => rfl
  | x :: t, k + 1, h => by
    rw [List.take_succ_cons] at h
    have h1 := h x List.mem_cons_self
    subst h1
    show orV t = _
    rw [List.drop_succ_cons]
    exact orV_drop fun y hy => h y (List.mem_cons_of_mem _ hy)
theorem or_any (l : List Int) (n c g : Nat) (w : World) (hn : l.length = n) (hs : n ≤ 1000) (hc : ∀ i, i < n → w.cell? ⟨g, i, none⟩ = some (.int .i64 (l.getD i 0))) :
    Calls Try.prog 38 #[.slice (some ⟨g, 0, none⟩) n c] w fun e w' => e = .returned (.int .i64 (orV l)) ∧ w = w' := by
  obtain ⟨E, hE⟩ : ∃ E, orV l = E := ⟨_, rfl⟩
  rw [hE]
  have HE := Lib.hid hE
  have HN := Lib.hid hn
  have HC := Lib.hid hc
  clear hE hn hc
  go_enter Try.func38, Try.ntmps38
  go_wp2_with fail
  go_loopw [8] (fun v wr => ∃ k : Nat, k ≤ n ∧ v = .int .i64 k ∧ Hid (wr = w) ∧ Hid (∀ x ∈ l.take k, x = 0)) (fun v _ => n - (intOf v).toNat)
  case atStart => exact ⟨0, Nat.zero_le _, rfl, Lib.hid rfl, Lib.hid (fun x hx => by simp at hx)⟩
  case round =>
    obtain ⟨k, hk, rfl, hwr, hz⟩ := hrel
    have hwr := hwr.out
    by_cases hlt : k < n
    · have hltI : (k : Int) < (n : Int) := by omega
      have c0 := HC.out k hlt
      rw [← hwr] at c0
      obtain ⟨x, hx⟩ : ∃ x, l.getD k 0 = x := ⟨_, rfl⟩
      have hkl : k < l.length := by rw [HN.out]; exact hlt
      have HD := Lib.hid (show l.drop k = x :: l.drop (k + 1) from by rw [List.drop_eq_getElem_cons hkl, ← hx]; simp [List.getD, hkl])
      have HT := Lib.hid (show l.take (k + 1) = l.take k ++ [x] from by rw [List.take_add_one, ← hx]; simp [List.getD, hkl])
      rw [hx] at c0
      have HW := Lib.hid hwr
      clear hx hwr
      by_cases h : x = 0
      · have t0 : (x != 0) = false := by simpa using h
        have HX := Lib.hid h
        clear h
        go_wp2_with fail
        go_roundw
        case rel => exact ⟨k + 1, by omega, by go_num, HW, Lib.hid (fun y hy => by
          rw [HT.out] at hy
          rcases List.mem_append.1 hy with hy | hy
          · exact hz.out y hy
          · rw [List.mem_singleton] at hy; rw [hy]; exact HX.out)⟩
        case measure => simp [intOf]; omega
      · have t0 : (x != 0) = true := by simpa using h
        have HX := Lib.hid (show E = x from by rw [← HE.out, orV_drop hz.out, HD.out]; exact if_pos h)
        clear h
        go_wp2_with fail
        go_ret
        exact ⟨by rw [HX.out]; rfl, HW.out.symm⟩
    · obtain rfl : k = n := by omega
      have HX := Lib.hid (show E = 0 from by rw [← HE.out, orV_drop hz.out, List.drop_of_length_le (by rw [HN.out]; exact Nat.le_refl _)]; rfl)
      have HW := Lib.hid hwr
      clear hwr
      go_wp2_with fail
      go_ret
      exact ⟨by rw [HX.out]; rfl, HW.out.symm⟩
/-- Three numbers held against three. -/
def cmp3 (a b : Int × Int × Int) : Int := orV [cmpI a.1 b.1, cmpI a.2.1 b.2.1, cmpI a.2.2 b.2.2]
set_option maxHeartbeats 4000000 in
theorem scmp_any (a0 a1 a2 b0 b1 b2 : Int) (P Q : Nat) (w : World) (ha0 : w.cell? ⟨P, 0, none⟩ = some (.int .i64 a0)) (ha1 : w.cell? ⟨P, 1, none⟩ = some (.int .i64 a1)) (ha2 : w.cell? ⟨P, 2, none⟩ = some (.int .i64 a2)) (hb0 : w.cell? ⟨Q, 0, none⟩ = some (.int .i64 b0)) (hb1 : w.cell? ⟨Q, 1, none⟩ = some (.int .i64 b1)) (hb2 : w.cell? ⟨Q, 2, none⟩ = some (.int .i64 b2)) :
    Calls Try.prog 59 #[.slice (some ⟨P, 0, none⟩) 3 3, .slice (some ⟨Q, 0, none⟩) 3 3] w fun e w' => e = .returned (.int .i64 (cmp3 (a0, a1, a2) (b0, b1, b2))) ∧ w = w' := by
  obtain ⟨E, hE⟩ : ∃ E, cmp3 (a0, a1, a2) (b0, b1, b2) = E := ⟨_, rfl⟩
  rw [hE]
  unfold cmp3 at hE
  dsimp only at hE
  obtain ⟨c0, hc0⟩ : ∃ c, cmpI a0 b0 = c := ⟨_, rfl⟩
  obtain ⟨c1, hc1⟩ : ∃ c, cmpI a1 b1 = c := ⟨_, rfl⟩
  obtain ⟨c2, hc2⟩ : ∃ c, cmpI a2 b2 = c := ⟨_, rfl⟩
  rw [hc0, hc1, hc2] at hE
  have HE := Lib.hid hE
  have H0 := Lib.hid (cmpI_any a0 b0 w)
  have H1 := Lib.hid (cmpI_any a1 b1 w)
  have H2 := Lib.hid (cmpI_any a2 b2 w)
  rw [hc0] at H0
  rw [hc1] at H1
  rw [hc2] at H2
  clear hE hc0 hc1 hc2
  go_enter Try.func59, Try.ntmps59
  go_wp2_with fail
  go_loop [11] (fun v => v = .int .i64 0 ∨ (v = .int .i64 1 ∧ Hid (c0 = 0)) ∨ (v = .int .i64 2 ∧ Hid (c0 = 0 ∧ c1 = 0)) ∨ (v = .int .i64 3 ∧ Hid (c0 = 0 ∧ c1 = 0 ∧ c2 = 0))) (fun v => 3 - (intOf v).toNat)
  case atStart => exact .inl rfl
  case round =>
    rcases hrel with rfl | ⟨rfl, hC⟩ | ⟨rfl, hC⟩ | ⟨rfl, hC⟩
    · by_cases h : c0 = 0
      · have t0 : (c0 != 0) = false := by simpa using h
        have HX := Lib.hid h
        clear h
        go_wp2_with (go_at_call 40; refine H0.out.mono ?_; rintro e w' ⟨rfl, rfl⟩)
        go_round
        case rel => exact .inr (.inl ⟨by first | rfl | go_num, HX⟩)
        case measure => simp [intOf]
      · have t0 : (c0 != 0) = true := by simpa using h
        have HEE := Lib.hid (show E = c0 by rw [← HE.out]; exact if_pos h)
        clear h
        go_wp2_with (go_at_call 40; refine H0.out.mono ?_; rintro e w' ⟨rfl, rfl⟩)
        go_ret
        exact ⟨by rw [HEE.out] <;> rfl, rfl⟩
    · by_cases h : c1 = 0
      · have t0 : (c1 != 0) = false := by simpa using h
        have HX := Lib.hid h
        clear h
        go_wp2_with (go_at_call 40; refine H1.out.mono ?_; rintro e w' ⟨rfl, rfl⟩)
        go_round
        case rel => exact .inr (.inr (.inl ⟨by first | rfl | go_num, Lib.hid ⟨hC.out, HX.out⟩⟩))
        case measure => simp [intOf]
      · have t0 : (c1 != 0) = true := by simpa using h
        have HEE := Lib.hid (show E = c1 by rw [← HE.out, hC.out]; exact if_pos h)
        clear h
        go_wp2_with (go_at_call 40; refine H1.out.mono ?_; rintro e w' ⟨rfl, rfl⟩)
        go_ret
        exact ⟨by rw [HEE.out] <;> rfl, rfl⟩
    · by_cases h : c2 = 0
      · have t0 : (c2 != 0) = false := by simpa using h
        have HX := Lib.hid h
        clear h
        go_wp2_with (go_at_call 40; refine H2.out.mono ?_; rintro e w' ⟨rfl, rfl⟩)
        go_round
        case rel => exact .inr (.inr (.inr ⟨by first | rfl | go_num, Lib.hid ⟨hC.out.1, hC.out.2, HX.out⟩⟩))
        case measure => simp [intOf]
      · have t0 : (c2 != 0) = true := by simpa using h
        have HEE := Lib.hid (show E = c2 by rw [← HE.out, hC.out.1, hC.out.2]; exact if_pos h)
        clear h
        go_wp2_with (go_at_call 40; refine H2.out.mono ?_; rintro e w' ⟨rfl, rfl⟩)
        go_ret
        exact ⟨by rw [HEE.out] <;> rfl, rfl⟩
    · have HEE := Lib.hid (show E = 0 by rw [← HE.out, hC.out.1, hC.out.2.1, hC.out.2.2]; rfl)
      go_wp2_with fail
      go_ret
      exact ⟨by rw [HEE.out] <;> rfl, rfl⟩
set_option maxHeartbeats 4000000 in
theorem lcmp_gr (a0 a1 a2 b0 b1 b2 : Int) (w : World) :
    Calls Try.prog 39 #[.agg #[.int .i64 a0, .int .i64 a1, .int .i64 a2], .agg #[.int .i64 b0, .int .i64 b1, .int .i64 b2]] w fun e w' => e = .returned (.int .i64 (cmp3 (a0, a1, a2) (b0, b1, b2))) ∧ Gr w w' := by
  have hb := newB (w.alloc (.cells #[.int .i64 a0, .int .i64 a1, .int .i64 a2] 55)) (.cells #[.int .i64 b0, .int .i64 b1, .int .i64 b2] 55)
  have hX := (Blk.new w 55 [.int .i64 a0, .int .i64 a1, .int .i64 a2]).next hb
  have hY := Blk.new (w.alloc (.cells #[.int .i64 a0, .int .i64 a1, .int .i64 a2] 55)) 55 [.int .i64 b0, .int .i64 b1, .int .i64 b2]
  rw [sz_alloc] at hY
  have HG := Lib.hid ((Gr.two w (.cells #[.int .i64 a0, .int .i64 a1, .int .i64 a2] 55) (.cells #[.int .i64 b0, .int .i64 b1, .int .i64 b2] 55)).drew)
  obtain ⟨P, hP⟩ : ∃ P, w.heap.size = P := ⟨_, rfl⟩
  obtain ⟨V, hV⟩ : ∃ V, (w.alloc (.cells #[.int .i64 a0, .int .i64 a1, .int .i64 a2] 55)).alloc (.cells #[.int .i64 b0, .int .i64 b1, .int .i64 b2] 55) = V := ⟨_, rfl⟩
  have hX : Blk V P 55 [.int .i64 a0, .int .i64 a1, .int .i64 a2] := by rw [← hV, ← hP]; exact hX
  have hY : Blk V (P + 1) 55 [.int .i64 b0, .int .i64 b1, .int .i64 b2] := by rw [← hV, ← hP]; exact hY
  rw [hV] at HG
  have HVE := Lib.hid hV
  have HPE := Lib.hid hP
  have HC := Lib.hid (scmp_any a0 a1 a2 b0 b1 b2 P (P + 1) V.drew (hX.cell 0 (by simp)) (hX.cell 1 (by simp)) (hX.cell 2 (by simp)) (hY.cell 0 (by simp)) (hY.cell 1 (by simp)) (hY.cell 2 (by simp)))
  have hS : True := trivial
  clear hX hY hV hP hb
  go_enter Try.func39, Try.ntmps39
  go_wp2_with fail
  rw [HVE.out, HPE.out]
  go_region_held_law (fun W => True) (trivial) (first | (go_at_call 59; refine HC.out.mono ?_; rintro e w' ⟨rfl, rfl⟩))
  all_goals
    go_wp2_with fail
    go_ret
    exact ⟨rfl, HG.out⟩
end Go.Proofs.Ytljbebeaahcjaaa
