/- trie: a nil one, at int. -/
import Derived.Test.YtipecocalmmmbaaTE
namespace Go.Proofs.Ytipecocalmmmbaa
open Go.RowKit Go.Shelf
set_option linter.unusedVariables false
set_option linter.unusedSimpArgs false

attribute [local go_sem] Oper.semAt_some
attribute [local go_sem, local simp] wide_fn
attribute [local go_sem] encPN encMT

/-- No node at all. -/
def noN : Int → Nat → Option Nat := fun _ _ => none
theorem PN.no {a : Int} (x : PN noN a) : False := by cases x.2.2
theorem along_nil (w : World) (a n : Int) :
    Calls Try.prog 43 #[.pointer none, .agg #[.int .u32 a, .int .i64 n]] w fun e w' => e = .returned (.func (.func 58) #[] #[.pointer (some ⟨w.heap.size, 0, none⟩), .pointer (some ⟨w.heap.size + 1, 0, none⟩)]) ∧ w' = (w.alloc (.cells #[.pointer none] 24)).alloc (.cells #[.int .u32 a, .int .i64 n] 32) := by
  go_enter Try.func43, Try.ntmps43
  go_wp2
  go_ret
  exact ⟨by simp, rfl⟩
set_option maxRecDepth 100000 in
set_option maxHeartbeats 4000000 in
theorem along1_nil (n : Nat) (w : World) (a : Int) (Bt Bp : Nat) (S : Nat → Prop) (M : Nat) (h : w.cell? ⟨Bt, 0, none⟩ = some (.pointer none)) :
    SeqStopsK Fence.wide n Try.prog 58 #[.pointer (some ⟨Bt, 0, none⟩), .pointer (some ⟨Bp, 0, none⟩)] (encPN (N := noN) (a := a)) (KpX S M) (fun xs => xs = []) (fun _ => False) 33 w := fun l J Jx W hW hJ hJx hY h0 => by
  have bt : W.cell? ⟨Bt, 0, none⟩ = some (.pointer none) := kept hW h
  have HTop := Lib.hid (top_nil_int W)
  have hdd : ∀ k : Nat, (Fence.wide.depth.isSome = true → 1 ≤ k) := fun k h => by cases h
  have HJ := Lib.hid h0
  clear h hW hJ hJx hY h0
  refine callsIn_of_wp Try.func58 rfl trivial ?_ rfl
  simp only [Try.ntmps58, List.size_toArray, List.length_cons, List.length_nil, Nat.reduceAdd, Nat.reduceSub, Array.replicate_succ, Array.replicate_zero, List.push_toArray, List.append_toArray, List.nil_append, List.cons_append]
  gi_wp2_with ((try refine ⟨hdd _, ?_⟩); gi_at_call 36; refine (callsIn_wide.2 HTop.out).mono ?_; rintro e w1 ⟨rfl, rfl⟩)
  gi_loopw [4, 5] (fun v4 v5 wr => v4 = .pointer none ∧ v5 = .int .i64 0 ∧ wr = W) (fun _ _ _ => 0)
  case atStart => exact ⟨rfl, rfl, rfl⟩
  case round =>
    obtain ⟨rfl, rfl, rfl⟩ := hrel
    gi_wp2
    first | go_end0 | (refine ⟨fun _ h => (by cases h), ?_⟩; gi_wp2; go_end0)
    exact ⟨⟨_, rfl⟩, .inl ⟨[], rfl, HJ.out⟩⟩
set_option maxRecDepth 100000 in
set_option maxHeartbeats 8000000 in
theorem at_yes_nil (w : World) (a : Int) (m : Nat) (a0 : 0 ≤ a) (a1 : a < 4294967296) (hok : okP a m = true) :
    Calls Try.prog 45 #[.pointer none, .agg #[.int .u32 a, .int .i64 m]] w fun e w' => e = .returned (.pointer none) ∧ Below w.heap.size w w' := by
  refine (callsIn_wide (n := 6)).1 ?_
  have hdd : ∀ k : Nat, (Fence.wide.depth.isSome = true → 1 ≤ k) := fun k h => by cases h
  have HC := Lib.hid (fun (U : World) => check_any a m U)
  unfold errP at HC
  rw [if_pos hok] at HC
  have HOK := Lib.hid hok
  have hm : m ≤ 32 := by have := (okP_parts hok).2; omega
  -- the world where Check is called
  obtain ⟨P, hP⟩ : ∃ P, w.heap.size = P := ⟨_, rfl⟩
  obtain ⟨V, hV⟩ : ∃ V, (w.alloc (.cells #[.int .u32 a, .int .i64 m] 32)).alloc (.cells #[.pointer none] 57) = V := ⟨_, rfl⟩
  have hB : Below w.heap.size w V := by rw [← hV]; exact two_below _ _ _
  have hp : Blk V P 32 [.int .u32 a, .int .i64 m] := by rw [← hV, ← hP]; exact (Blk.new w 32 [.int .u32 a, .int .i64 m]).alloc _
  have hr : Blk V (P + 1) 57 [.pointer none] := by
    have := Blk.new (w.alloc (.cells #[.int .u32 a, .int .i64 m] 32)) 57 [.pointer none]
    rw [sz_alloc, hP] at this
    rw [← hV]; exact this
  have p0 : V.cell? ⟨P, 0, none⟩ = some (.int .u32 a) := hp.cell 0 (by simp)
  have p1 : V.cell? ⟨P, 1, none⟩ = some (.int .i64 m) := hp.cell 1 (by simp)
  have HV := Lib.hid hV
  have HP := Lib.hid hP
  have HALL := Lib.hid (show Below w.heap.size w V ∧ Blk V P 32 [.int .u32 a, .int .i64 m] ∧ Blk V (P + 1) 57 [.pointer none] from ⟨hB, hp, hr⟩)
  clear hV hP hB hp hr hok
  refine callsIn_of_wp_marks Try.func45 rfl trivial ?_ rfl
  simp only [Try.ntmps45, List.size_toArray, List.length_cons, List.length_nil, Nat.reduceAdd, Nat.reduceSub, Array.replicate_succ, Array.replicate_zero, List.push_toArray, List.append_toArray, List.nil_append, List.cons_append]
  gi_wp2_with fail
  rw [HV.out, HP.out]
  refine (callsIn_wide.2 (HC.out V)).mono ?_
  rintro e w1 ⟨rfl, hb⟩
  have HAL1 := Lib.hid (show Below w.heap.size w w1 ∧ Blk w1 P 32 [.int .u32 a, .int .i64 m] ∧ Blk w1 (P + 1) 57 [.pointer none] from
    ⟨HALL.out.1.trans (hb.mono HALL.out.1.size), HALL.out.2.1.next hb, HALL.out.2.2.next hb⟩)
  have q0 : w1.cell? ⟨P, 0, none⟩ = some (.int .u32 a) := HAL1.out.2.1.cell 0 (by simp)
  have q1 : w1.cell? ⟨P, 1, none⟩ = some (.int .i64 m) := HAL1.out.2.1.cell 1 (by simp)
  clear hb p0 p1
  gi_wp2_with fail
  refine (callsIn_wide.2 (along_nil w1 a m)).mono ?_
  obtain ⟨Bt, hBt⟩ : ∃ X, w1.heap.size = X := ⟨_, rfl⟩
  obtain ⟨Bp, hBp⟩ : ∃ X, X = Bt + 1 := ⟨_, rfl⟩
  obtain ⟨V2, hV2⟩ : ∃ V, (w1.alloc (.cells #[.pointer none] 24)).alloc (.cells #[.int .u32 a, .int .i64 m] 32) = V := ⟨_, rfl⟩
  have hB2 : Below w1.heap.size w1 V2 := by rw [← hV2]; exact two_below _ _ _
  have hbt : Blk V2 Bt 24 [.pointer none] := by rw [← hV2, ← hBt]; exact (Blk.new w1 24 [.pointer none]).alloc _
  have hbp : Blk V2 Bp 32 [.int .u32 a, .int .i64 m] := by
    have := Blk.new (w1.alloc (.cells #[.pointer none] 24)) 32 [.int .u32 a, .int .i64 m]
    rw [sz_alloc, hBt, ← hBp] at this
    rw [← hV2]; exact this
  have hsz : V2.heap.size = Bp + 1 := by rw [← hV2, sz_alloc, sz_alloc, hBt, hBp]
  have HAL2 := Lib.hid (show Below w.heap.size w V2 ∧ Blk V2 P 32 [.int .u32 a, .int .i64 m] ∧ Blk V2 (P + 1) 57 [.pointer none] from
    ⟨HAL1.out.1.trans (hB2.mono HAL1.out.1.size), HAL1.out.2.1.next hB2, HAL1.out.2.2.next hB2⟩)
  have HBT := Lib.hid (show V2.cell? ⟨Bt, 0, none⟩ = some (.pointer none) from hbt.cell 0 (by simp))
  have hsn : ∀ k, k ≤ Bp → k < V2.heap.size := fun k hk => by omega
  rintro e w2 ⟨rfl, rfl⟩
  rw [hV2, hBt, ← hBp]
  have HSZ := Lib.hid hsz
  clear hB2 hbt hbp hsz q0 q1 hV2 hBt hsn
  have HBP := Lib.hid hBp
  clear hBp
  gi_wp2_with fail
  refine wpIn_rangeFunc_ownF rfl (by omega) (gf := 58) (lb := #[.pointer (some ⟨Bt, 0, none⟩), .pointer (some ⟨Bp, 0, none⟩)]) rfl trivial (enters_of Try.func58 (by kernel_rfl) rfl)
    (along1_nil _ V2 a Bt Bp (fun k => k = (P + 1)) (Bp + 1) HBT.out) kpX_t (kpX_b (by rw [HSZ.out]; exact Nat.le_refl _)) (Below.refl _ _) (fun _ => rfl)
    (fun pre W => Blk W (P + 1) 57 [.pointer none] ∧ Below w.heap.size w W)
    (fun _ _ _ => False)
    ?hI ?hIx ?h0 ?a₁ ?assign ?body ?done ?stop
  case hI =>
    intro s A C row hs hg hr
    exact ⟨hs.1.own hg (fun r e => (hr r e).2), hs.2.grown hg hs.2.size (fun k e => Nat.le_trans HAL2.out.1.size (hr k e).1)⟩
  case hIx => intro c s A C row hs; exact hs.elim
  case h0 => exact ⟨HAL2.out.2.2, HAL2.out.1⟩
  case assign =>
    intro l x W K hK
    gi_wp2
    exact hK
  case body =>
    intro l pre x W
    exact (PN.no x).elim
  case done =>
    rintro D ys W hD hS ⟨hr, hB⟩ hK
    have r0 : W.cell? ⟨P + 1, 0, none⟩ = some (.pointer none) := hr.cell 0 (by simp)
    have f0 : W.frozen? ⟨P + 1, 0, none⟩ = false := hr.f 0
    have HAL := Lib.hid (show Blk W (P + 1) 57 [.pointer none] ∧ Below w.heap.size w W from ⟨hr, hB⟩)
    have HRB := Lib.hid (show w.heap.size ≤ P + 1 by have := HP.out; omega)
    clear hr hB hS
    gi_wp2
    have hK2 := (KeepsOthers.setCell W ⟨P + 1, 0, none⟩ (.pointer none)).same D _ hK rfl
    have hc : ((W.setCell ⟨P + 1, 0, none⟩ (.pointer none)).putObj D (.deferred none)).cell? ⟨P + 1, 0, none⟩ = some (.pointer none) := cell_kept ((HAL.out.1.set 0 (.pointer none)).cell 0 (by simp)) (grownBy_putObj' _ D (.deferred none)) (fun r e => by cases e; exact ⟨_, hK2, rfl⟩)
    refine ⟨by simp, .inl ⟨_, _, rfl, run_takeDeferred hK2, ?_⟩⟩
    refine ⟨.pointer none, by simp [results, Try.results45, go_sem, hc], rfl, ?_⟩
    exact (HAL.out.2.setCell HRB.out _).trans (belowK_b (w := w) (Nat.le_refl _) _ D _ _ (Nat.le_trans HAL2.out.1.size hD) hK2 rfl rfl)
  case stop =>
    rintro D c pre W hD h _ _
    exact h.elim
theorem at_nil (w : World) (a n : Int) (a0 : 0 ≤ a) (a1 : a < 4294967296) :
    Calls Try.prog 45 #[.pointer none, .agg #[.int .u32 a, .int .i64 n]] w fun e w' => e = .returned (.pointer none) ∧ Below w.heap.size w w' := by
  rcases hk : okP a n with _ | _
  · exact at_no_int w _ a n hk
  · obtain ⟨_, n0, n1⟩ := okP_parts hk
    obtain ⟨m, rfl⟩ := Int.eq_ofNat_of_zero_le n0
    exact at_yes_nil w a m a0 a1 hk
set_option maxRecDepth 100000 in
set_option maxHeartbeats 4000000 in
theorem get_nil (w : World) (a n : Int) (a0 : 0 ≤ a) (a1 : a < 4294967296) :
    Calls Try.prog 21 #[.pointer none, .agg #[.int .u32 a, .int .i64 n]] w fun e w' => e = .returned (.tuple #[.int .i64 0, .bool false]) ∧ Below w.heap.size w w' := by
  have HA := Lib.hid (newB w (.cells #[.int .u32 a, .int .i64 n] 32))
  have hX := Blk.new w 32 [.int .u32 a, .int .i64 n]
  obtain ⟨V, hV⟩ : ∃ V, w.alloc (.cells #[.int .u32 a, .int .i64 n] 32) = V := ⟨_, rfl⟩
  have hX : Blk V w.heap.size 32 [.int .u32 a, .int .i64 n] := hV ▸ hX
  rw [hV] at HA
  have p0 : V.cell? ⟨w.heap.size, 0, none⟩ = some (.int .u32 a) := hX.cell 0 (by simp)
  have p1 : V.cell? ⟨w.heap.size, 1, none⟩ = some (.int .i64 n) := hX.cell 1 (by simp)
  have HV := Lib.hid hV
  clear hX hV
  go_enter Try.func21, Try.ntmps21
  go_wp2_with fail
  rw [HV.out]
  refine (at_nil V a n a0 a1).mono ?_
  rintro e w1 ⟨rfl, hb⟩
  have HB := Lib.hid (HA.out.trans (hb.mono HA.out.size))
  clear hb p0 p1
  go_wp2_with fail
  go_ret2
  exact ⟨rfl, HB.out⟩
set_option maxRecDepth 100000 in
set_option maxHeartbeats 4000000 in
theorem delete_nil (w : World) (a n : Int) (a0 : 0 ≤ a) (a1 : a < 4294967296) :
    Calls Try.prog 12 #[.pointer none, .agg #[.int .u32 a, .int .i64 n]] w fun e w' => e = .returned (.bool false) ∧ Below w.heap.size w w' := by
  have HA := Lib.hid (newB w (.cells #[.int .u32 a, .int .i64 n] 32))
  have hX := Blk.new w 32 [.int .u32 a, .int .i64 n]
  obtain ⟨V, hV⟩ : ∃ V, w.alloc (.cells #[.int .u32 a, .int .i64 n] 32) = V := ⟨_, rfl⟩
  have hX : Blk V w.heap.size 32 [.int .u32 a, .int .i64 n] := hV ▸ hX
  rw [hV] at HA
  have p0 : V.cell? ⟨w.heap.size, 0, none⟩ = some (.int .u32 a) := hX.cell 0 (by simp)
  have p1 : V.cell? ⟨w.heap.size, 1, none⟩ = some (.int .i64 n) := hX.cell 1 (by simp)
  have HV := Lib.hid hV
  clear hX hV
  go_enter Try.func12, Try.ntmps12
  go_wp2_with fail
  rw [HV.out]
  refine (get_nil V a n a0 a1).mono ?_
  rintro e w1 ⟨rfl, hb⟩
  have HB := Lib.hid (HA.out.trans (hb.mono HA.out.size))
  clear hb p0 p1
  go_wp2_with fail
  go_ret
  exact ⟨rfl, HB.out⟩
theorem set_nil (w : World) (a n x : Int) :
    Calls Try.prog 10 #[.pointer none, .agg #[.int .u32 a, .int .i64 n], .int .i64 x] w fun e w' => e = .returned (.int .i64 6) ∧ Below w.heap.size w w' := by
  have HA := Lib.hid (newB w (.cells #[.int .u32 a, .int .i64 n] 32))
  have HT := Lib.hid (fun U => top_nil_int U)
  go_enter Try.func10, Try.ntmps10
  go_wp2_with fail
  refine (HT.out _).mono ?_
  rintro e w1 ⟨rfl, rfl⟩
  go_wp2_with fail
  go_ret
  exact ⟨rfl, HA.out⟩
theorem len_nil (w : World) :
    Calls Try.prog 19 #[.pointer none] w fun e w' => e = .returned (.int .i64 0) ∧ w = w' := by
  go_enter Try.func19, Try.ntmps19
  go_wp2
  go_ret
  exact ⟨rfl, rfl⟩
end Go.Proofs.Ytipecocalmmmbaa
