/- trie: Within, Prefixes, Longest of a nil one, at int. -/
import Derived.Test.YtipecocalmmmbaaTN
namespace Go.Proofs.Ytipecocalmmmbaa
open Go.RowKit Go.Shelf
set_option linter.unusedVariables false
set_option linter.unusedSimpArgs false

attribute [local go_sem] Oper.semAt_some
attribute [local go_sem, local simp] wide_fn
attribute [local go_sem] encPN encMT

set_option maxRecDepth 100000 in
set_option maxHeartbeats 4000000 in
theorem things1_nil (n : Nat) (w : World) (S : Nat → Prop) (M : Nat) (Bn : Nat) (hB : w.cell? ⟨Bn, 0, none⟩ = some (.pointer none)) :
    SeqStopsK Fence.wide n Try.prog 60 #[.pointer (some ⟨Bn, 0, none⟩)] (encMT (L := [])) (KpX S M) (fun ys => ys = []) (fun _ => False) 0 w := fun l J Jx W hW hJ hJx hY h0 => by
  have hc : W.cell? ⟨Bn, 0, none⟩ = some (.pointer none) := kept hW hB
  have HE := Lib.hid (each_nil_int (n - 1) (.func (.yield l) #[] #[]) W)
  have hdd : ∀ k : Nat, (Fence.wide.depth.isSome = true → 1 ≤ k) := fun k h => by cases h
  have HJ := Lib.hid h0
  clear hB hW hJ hJx hY h0
  refine callsIn_of_wp Try.func60 rfl trivial ?_ rfl
  simp only [Try.ntmps60, List.size_toArray, List.length_cons, List.length_nil, Nat.reduceAdd, Nat.reduceSub, Array.replicate_succ, Array.replicate_zero, List.push_toArray, List.append_toArray, List.nil_append, List.cons_append]
  gi_wp2_with ((try refine ⟨hdd _, ?_⟩); gi_at_call 61; refine HE.out.mono ?_; clear HE; rintro e W1 ⟨rfl, rfl⟩)
  go_end0
  exact ⟨⟨_, rfl⟩, .inl ⟨[], rfl, HJ.out⟩⟩
set_option maxRecDepth 100000 in
set_option maxHeartbeats 8000000 in
theorem within_nil (w : World) (a n : Int) (a0 : 0 ≤ a) (a1 : a < 4294967296) :
    Calls Try.prog 22 #[.pointer none, .agg #[.int .u32 a, .int .i64 n]] w fun e w' => e = .returned (.slice none 0 0) ∧ Below w.heap.size w w' := by
  refine (callsIn_wide (n := 6)).1 ?_
  have hdd : ∀ k : Nat, (Fence.wide.depth.isSome = true → 1 ≤ k) := fun k h => by cases h
  have HAT := Lib.hid (fun (U : World) => at_nil U a n a0 a1)
  obtain ⟨P, hP⟩ : ∃ P, w.heap.size = P := ⟨_, rfl⟩
  obtain ⟨V, hV⟩ : ∃ V, (w.alloc (.cells #[.int .u32 a, .int .i64 n] 32)).alloc (.cells #[.slice none 0 0] 41) = V := ⟨_, rfl⟩
  have hB : Below w.heap.size w V := by rw [← hV]; exact two_below _ _ _
  have hp : Blk V P 32 [.int .u32 a, .int .i64 n] := by rw [← hV, ← hP]; exact (Blk.new w 32 [.int .u32 a, .int .i64 n]).alloc _
  have hr : Blk V (P + 1) 41 [.slice none 0 0] := by
    have := Blk.new (w.alloc (.cells #[.int .u32 a, .int .i64 n] 32)) 41 [.slice none 0 0]
    rw [sz_alloc, hP] at this
    rw [← hV]; exact this
  have p0 : V.cell? ⟨P, 0, none⟩ = some (.int .u32 a) := hp.cell 0 (by simp)
  have p1 : V.cell? ⟨P, 1, none⟩ = some (.int .i64 n) := hp.cell 1 (by simp)
  have HV := Lib.hid hV
  have HP := Lib.hid hP
  have HALL := Lib.hid (show Below w.heap.size w V ∧ Blk V (P + 1) 41 [.slice none 0 0] from ⟨hB, hr⟩)
  clear hV hP hB hp hr
  refine callsIn_of_wp_marks Try.func22 rfl trivial ?_ rfl
  simp only [Try.ntmps22, List.size_toArray, List.length_cons, List.length_nil, Nat.reduceAdd, Nat.reduceSub, Array.replicate_succ, Array.replicate_zero, List.push_toArray, List.append_toArray, List.nil_append, List.cons_append]
  gi_wp2_with fail
  rw [HV.out, HP.out]
  refine (callsIn_wide.2 (HAT.out V)).mono ?_
  rintro e w1 ⟨rfl, hb⟩
  have HAL1 := Lib.hid (show Below w.heap.size w w1 ∧ Blk w1 (P + 1) 41 [.slice none 0 0] from ⟨HALL.out.1.trans (hb.mono HALL.out.1.size), HALL.out.2.next hb⟩)
  clear hb p0 p1
  gi_wp2_with fail
  refine (callsIn_wide.2 (things_int w1 none)).mono ?_
  obtain ⟨Bn, hBn⟩ : ∃ X, w1.heap.size = X := ⟨_, rfl⟩
  obtain ⟨V2, hV2⟩ : ∃ V, w1.alloc (.cells #[.pointer none] 57) = V := ⟨_, rfl⟩
  have hB2 : Below w1.heap.size w1 V2 := by rw [← hV2]; exact newB _ _
  have hbn : Blk V2 Bn 57 [.pointer none] := by rw [← hV2, ← hBn]; exact Blk.new w1 57 [.pointer none]
  have hbc : V2.cell? ⟨Bn, 0, none⟩ = some (.pointer none) := hbn.cell 0 (by simp)
  have HAL2 := Lib.hid (show Below w.heap.size w V2 ∧ Blk V2 (P + 1) 41 [.slice none 0 0] from ⟨HAL1.out.1.trans (hB2.mono HAL1.out.1.size), HAL1.out.2.next hB2⟩)
  rintro e w2 ⟨rfl, rfl⟩
  rw [hV2, hBn]
  clear hB2 hbn hV2 hBn
  have HBC := Lib.hid hbc
  clear hbc
  gi_wp2_with fail
  refine wpIn_rangeFunc_ownF rfl (by omega) (gf := 60) (lb := #[.pointer (some ⟨Bn, 0, none⟩)]) rfl trivial (enters_of Try.func60 (by kernel_rfl) rfl)
    (things1_nil _ V2 (fun _ => False) w.heap.size Bn HBC.out) kpX_t (kpX_b HAL2.out.1.size) (Below.refl _ _) (fun _ => rfl)
    (fun pre W => Blk W (P + 1) 41 [.slice none 0 0] ∧ Below w.heap.size w W)
    (fun _ _ _ => False)
    ?hI ?hIx ?h0 ?a₁ ?assign ?body ?done ?stop
  case hI =>
    intro s A C row hs hg hr
    exact ⟨hs.1.own hg (fun r e => (hr r e).2), hs.2.grown hg hs.2.size (fun k e => Nat.le_trans HAL2.out.1.size (hr k e).1)⟩
  case hIx => intro c s A C row hs; exact hs.elim
  case h0 => exact ⟨HAL2.out.2, HAL2.out.1⟩
  case assign =>
    intro l x W K hK
    gi_wp2
    exact hK
  case body =>
    intro l pre x W
    cases x.2
  case done =>
    rintro D ys W hD hS ⟨hr, hB⟩ hK
    have r0 : W.cell? ⟨P + 1, 0, none⟩ = some (.slice none 0 0) := hr.cell 0 (by simp)
    have HF := Lib.hid hB
    clear hr hB hS
    gi_wp2
    refine ⟨by simp, .inl ⟨_, _, rfl, run_takeDeferred hK, ?_⟩⟩
    exact ⟨_, results_tmp rfl _ _ _, rfl, HF.out.trans (belowK_b (w := w) (Nat.le_refl _) _ D _ _ (Nat.le_trans HAL2.out.1.size hD) hK rfl rfl)⟩
  case stop =>
    rintro D c pre W hD h _ _
    exact h.elim
set_option maxRecDepth 100000 in
set_option maxHeartbeats 8000000 in
theorem longest_nil (w : World) (a : Int) (a0 : 0 ≤ a) (a1 : a < 4294967296) :
    Calls Try.prog 18 #[.pointer none, .int .u32 a] w fun e w' => e = .returned (.tuple #[.agg #[.int .u32 0, .int .i64 0], .int .i64 0, .bool false]) ∧ Below w.heap.size w w' := by
  refine (callsIn_wide (n := 6)).1 ?_
  have hdd : ∀ k : Nat, (Fence.wide.depth.isSome = true → 1 ≤ k) := fun k h => by cases h
  obtain ⟨P, hP⟩ : ∃ P, w.heap.size = P := ⟨_, rfl⟩
  obtain ⟨V, hV⟩ : ∃ V, ((w.alloc (.cells #[.int .u32 0, .int .i64 0] 32)).alloc (.cells #[.int .i64 0] 3)).alloc (.cells #[.bool false] 4) = V := ⟨_, rfl⟩
  have hB : Below w.heap.size w V := by rw [← hV]; exact (two_below w _ _).alloc (by simp; omega) _
  have hL0 : LnS V P 3 (.int .i64 0) none := by
    rw [← hV, ← hP]
    refine ⟨((Blk.new w 32 [.int .u32 0, .int .i64 0]).alloc _).alloc _, ?_, ?_⟩
    · have := (Blk.new (w.alloc (.cells #[.int .u32 0, .int .i64 0] 32)) 3 [.int .i64 0]).alloc (.cells #[.bool false] 4)
      rw [sz_alloc] at this; exact this
    · have := Blk.new ((w.alloc (.cells #[.int .u32 0, .int .i64 0] 32)).alloc (.cells #[.int .i64 0] 3)) 4 [.bool false]
      rw [sz_alloc, sz_alloc] at this; exact this
  have HV := Lib.hid hV
  have HP := Lib.hid hP
  have HALL := Lib.hid (show Below w.heap.size w V ∧ LnS V P 3 (.int .i64 0) none from ⟨hB, hL0⟩)
  have HMK := Lib.hid (make_any a 32 V)
  rw [mk_32 a0 a1, show cl 32 = 32 from by decide] at HMK
  clear hV hP hB hL0
  refine callsIn_of_wp_marks Try.func18 rfl trivial ?_ rfl
  simp only [Try.ntmps18, List.size_toArray, List.length_cons, List.length_nil, Nat.reduceAdd, Nat.reduceSub, Array.replicate_succ, Array.replicate_zero, List.push_toArray, List.append_toArray, List.nil_append, List.cons_append]
  gi_wp2_with fail
  rw [HV.out, HP.out]
  refine (callsIn_wide.2 HMK.out).mono ?_
  rintro e w1 ⟨rfl, hb⟩
  have HAL1 := Lib.hid (show Below w.heap.size w w1 ∧ LnS w1 P 3 (.int .i64 0) none from ⟨HALL.out.1.trans (hb.mono HALL.out.1.size), HALL.out.2.below (w := w) hb⟩)
  clear hb
  gi_wp2_with fail
  refine (callsIn_wide.2 (along_nil w1 a 32)).mono ?_
  obtain ⟨Bt, hBt⟩ : ∃ X, w1.heap.size = X := ⟨_, rfl⟩
  obtain ⟨Bp, hBp⟩ : ∃ X, X = Bt + 1 := ⟨_, rfl⟩
  obtain ⟨V2, hV2⟩ : ∃ V, (w1.alloc (.cells #[.pointer none] 24)).alloc (.cells #[.int .u32 a, .int .i64 32] 32) = V := ⟨_, rfl⟩
  have hB2 : Below w1.heap.size w1 V2 := by rw [← hV2]; exact two_below _ _ _
  have hbt : Blk V2 Bt 24 [.pointer none] := by rw [← hV2, ← hBt]; exact (Blk.new w1 24 [.pointer none]).alloc _
  have hbp : Blk V2 Bp 32 [.int .u32 a, .int .i64 32] := by
    have := Blk.new (w1.alloc (.cells #[.pointer none] 24)) 32 [.int .u32 a, .int .i64 32]
    rw [sz_alloc, hBt, ← hBp] at this
    rw [← hV2]; exact this
  have hsz : V2.heap.size = Bp + 1 := by rw [← hV2, sz_alloc, sz_alloc, hBt, hBp]
  have HAL2 := Lib.hid (show Below w.heap.size w V2 ∧ LnS V2 P 3 (.int .i64 0) none from ⟨HAL1.out.1.trans (hB2.mono HAL1.out.1.size), HAL1.out.2.below (w := w) hB2⟩)
  have HBT := Lib.hid (show V2.cell? ⟨Bt, 0, none⟩ = some (.pointer none) from hbt.cell 0 (by simp))
  rintro e w2 ⟨rfl, rfl⟩
  rw [hV2, hBt, ← hBp]
  have HSZ := Lib.hid hsz
  clear hB2 hbt hbp hsz hV2 hBt
  have HBP := Lib.hid hBp
  clear hBp
  gi_wp2_with fail
  refine wpIn_rangeFunc_ownF rfl (by omega) (gf := 58) (lb := #[.pointer (some ⟨Bt, 0, none⟩), .pointer (some ⟨Bp, 0, none⟩)]) rfl trivial (enters_of Try.func58 (by kernel_rfl) rfl)
    (along1_nil _ V2 a Bt Bp (fun k => P ≤ k ∧ k ≤ P + 2) (Bp + 1) HBT.out) kpX_t (kpX_b (by rw [HSZ.out]; exact Nat.le_refl _)) (Below.refl _ _) (fun _ => rfl)
    (fun pre W => LnS W P 3 (.int .i64 0) none ∧ Below w.heap.size w W)
    (fun _ _ _ => False)
    ?hI ?hIx ?h0 ?a₁ ?assign ?body ?done ?stop
  case hI =>
    intro s A C row hs hg hr
    exact ⟨hs.1.own hg (fun r e => (hr r e).2), hs.2.grown hg hs.2.size (fun k e => Nat.le_trans HAL2.out.1.size (hr k e).1)⟩
  case hIx => intro c s A C row hs; exact hs.elim
  case h0 => exact ⟨HAL2.out.2, HAL2.out.1⟩
  case assign =>
    intro l x W K hK
    gi_wp2
    exact hK
  case body =>
    intro l pre x W
    exact (PN.no x).elim
  case done =>
    rintro D ys W hD hS ⟨hL, hB⟩ hK
    obtain ⟨u0, hu0⟩ : ∃ u : Int, u = 0 := ⟨_, rfl⟩
    obtain ⟨u1, hu1⟩ : ∃ u : Int, u = 0 := ⟨_, rfl⟩
    obtain ⟨v0, hv0⟩ : ∃ u : Int, u = 0 := ⟨_, rfl⟩
    obtain ⟨bq, hbq⟩ : ∃ u : Bool, u = false := ⟨_, rfl⟩
    have hLp := hL.p
    have hLx := hL.x
    have hLb := hL.b
    rw [show lP none = [.int .u32 u0, .int .i64 u1] by rw [hu0, hu1]; rfl] at hLp
    rw [show lV (.int .i64 0) none = .int .i64 v0 by rw [hv0]; rfl] at hLx
    rw [show (none : Option TE).isSome = bq by rw [hbq]; rfl] at hLb
    have P0 : W.cell? ⟨P, 0, none⟩ = some (.int .u32 u0) := hLp.cell 0 (by simp)
    have P1 : W.cell? ⟨P, 1, none⟩ = some (.int .i64 u1) := hLp.cell 1 (by simp)
    have X0 : W.cell? ⟨P + 1, 0, none⟩ = some (.int .i64 v0) := hLx.cell 0 (by simp)
    have B0 : W.cell? ⟨P + 1 + 1, 0, none⟩ = some (.bool bq) := hLb.cell 0 (by simp)
    have F0 := hLp.f 0
    have F1 := hLp.f 1
    have FX := hLx.f 0
    have FB : W.frozen? ⟨P + 1 + 1, 0, none⟩ = false := hLb.f 0
    have HLL := Lib.hid (show Blk W P 32 [.int .u32 u0, .int .i64 u1] ∧ Blk W (P + 1) 3 [.int .i64 v0] ∧ Blk W (P + 2) 4 [.bool bq] ∧ Below w.heap.size w W from ⟨hLp, hLx, hLb, hB⟩)
    have HQ := Lib.hid (show u0 = 0 ∧ u1 = 0 ∧ v0 = 0 ∧ bq = false from ⟨hu0, hu1, hv0, hbq⟩)
    obtain ⟨W4, hW4⟩ : ∃ W4, ((((W.setCell ⟨P, 0, none⟩ (.int .u32 u0)).setCell ⟨P, 1, none⟩ (.int .i64 u1)).setCell ⟨P + 1, 0, none⟩ (.int .i64 v0)).setCell ⟨P + 1 + 1, 0, none⟩ (.bool bq)).drew = W4 := ⟨_, rfl⟩
    have HW4 := Lib.hid hW4
    have hK2 : W4.heap[D]? = some (.deferred (some [])) := by
      rw [← hW4]
      exact (((((KeepsOthers.setCell W ⟨P, 0, none⟩ (.int .u32 u0)).trans (KeepsOthers.setCell _ ⟨P, 1, none⟩ (.int .i64 u1))).trans (KeepsOthers.setCell _ ⟨P + 1, 0, none⟩ (.int .i64 v0))).trans (KeepsOthers.setCell _ ⟨P + 1 + 1, 0, none⟩ (.bool bq))).trans (KeepsOthers.drew _)).same D _ hK rfl
    have hC : ∀ b o v, W4.cell? ⟨b, o, none⟩ = some v → (W4.putObj D (.deferred none)).cell? ⟨b, o, none⟩ = some v := fun b o v h => cell_kept h (grownBy_putObj' _ D (.deferred none)) (fun r e => by cases e; exact ⟨_, hK2, rfl⟩)
    have HPB := HP.out
    have bP : Blk W4 P 32 [.int .u32 u0, .int .i64 u1] := by rw [← hW4]; exact (((hLp.set 0 _).set 1 _).setOther (by show P ≠ P + 1; omega) _).setOther (by show P ≠ P + 1 + 1; omega) _
    have bX : Blk W4 (P + 1) 3 [.int .i64 v0] := by rw [← hW4]; exact (((hLx.setOther (by show P + 1 ≠ P; omega) _).setOther (by show P + 1 ≠ P; omega) _).set 0 _).setOther (by show P + 1 ≠ P + 1 + 1; omega) _
    have bB : Blk W4 (P + 2) 4 [.bool bq] := by rw [← hW4]; exact (((hLb.setOther (by show P + 2 ≠ P; omega) _).setOther (by show P + 2 ≠ P; omega) _).setOther (by show P + 2 ≠ P + 1; omega) _).set 0 _
    have hBW : Below w.heap.size w W4 := by rw [← hW4]; exact (((((hB.setCell (p := ⟨P, 0, none⟩) (by show w.heap.size ≤ P; omega) _).setCell (p := ⟨P, 1, none⟩) (by show w.heap.size ≤ P; omega) _).setCell (p := ⟨P + 1, 0, none⟩) (by show w.heap.size ≤ P + 1; omega) _).setCell (p := ⟨P + 1 + 1, 0, none⟩) (by show w.heap.size ≤ P + 1 + 1; omega) _).drew)
    have HFF := Lib.hid (show W4.heap[D]? = some (.deferred (some [])) ∧ (W4.putObj D (.deferred none)).cell? ⟨P, 0, none⟩ = some (.int .u32 u0) ∧ (W4.putObj D (.deferred none)).cell? ⟨P, 1, none⟩ = some (.int .i64 u1) ∧ (W4.putObj D (.deferred none)).cell? ⟨P + 1, 0, none⟩ = some (.int .i64 v0) ∧ (W4.putObj D (.deferred none)).cell? ⟨P + 1 + 1, 0, none⟩ = some (.bool bq) ∧ Below w.heap.size w (W4.putObj D (.deferred none)) from
      ⟨hK2, hC _ _ _ (bP.cell 0 (by simp)), hC _ _ _ (bP.cell 1 (by simp)), hC _ _ _ (bX.cell 0 (by simp)), hC _ _ _ (bB.cell 0 (by simp)), hBW.trans (belowK_b (w := w) (Nat.le_refl _) _ D _ _ (Nat.le_trans HAL2.out.1.size hD) hK2 rfl rfl)⟩)
    clear hL hLp hLx hLb hB hS hv0 hu0 hu1 hbq hW4 hK2 hC bP bX bB hBW HPB
    gi_wp2
    gi_region_with (fail)
    all_goals
      gi_wp2
      rw [HW4.out]
      obtain ⟨hK2, c0, c1, cx, cb, hBF⟩ := HFF.out
      refine ⟨by simp, .inl ⟨_, _, rfl, run_takeDeferred hK2, ?_⟩⟩
      refine ⟨.tuple #[.agg #[.int .u32 u0, .int .i64 u1], .int .i64 v0, .bool bq], by simp [results, Try.results18, go_sem, c0, c1, cx, cb], ?_, hBF⟩
      rw [HQ.out.1, HQ.out.2.1, HQ.out.2.2.1, HQ.out.2.2.2]
  case stop =>
    rintro D c pre W hD h _ _
    exact h.elim
theorem prefixes_nil (w : World) :
    Calls Try.prog 16 #[.pointer none] w fun e w' => e = .returned (.slice none 0 0) ∧ Below w.heap.size w w' := by
  go_enter Try.func16, Try.ntmps16
  go_wp2_with fail
  refine (within_nil w 0 0 (by omega) (by omega)).mono ?_
  rintro e w1 ⟨rfl, hb⟩
  have HB := Lib.hid hb
  clear hb
  go_wp2_with fail
  go_ret
  exact ⟨rfl, HB.out⟩
theorem within_all {L : List TE} (h : TL L) : L.filter (fun e => withinP 0 0 e.a e.n) = L := by
  rw [List.filter_eq_self]
  intro e he
  have ho := h.ok e he
  have := (okP_parts ho.ok).2.1
  unfold withinP holdsP
  rw [ho.ok, show mk e.a 0 = 0 from mk_zero e.a ho.a0 ho.a1]
  simp [this]
  decide
theorem prefixes_int (w : World) (B t r : Nat) (s : Int) (N : Int → Nat → Option Nat) (L : List TE) (h : TrAt TRi NDi THi w B t r s N L) (hl : L.length ≤ 1000000) :
    Calls Try.prog 16 #[.pointer (some ⟨t, 0, none⟩)] w fun e w' => ∃ (ps : List (Int × Int)) (q : Option Addr) (c : Nat), ps = L.map tkey ∧ e = .returned (.slice q ps.length c) ∧ w'.ownsRow w.heap.size 32 2 (.slice q ps.length c) ps.length (pcells ps) ∧ Below w.heap.size w w' := by
  have HW := Lib.hid (within_int w B t r s N L h 0 0 (by omega) (by omega) hl)
  rw [within_all h.tl] at HW
  clear h
  go_enter Try.func16, Try.ntmps16
  go_wp2_with fail
  refine HW.out.mono ?_
  rintro e w1 ⟨ps, q, c, h1, rfl, h3, h4⟩
  have HB := Lib.hid (show ps = L.map tkey ∧ _ ∧ _ from ⟨h1, h3, h4⟩)
  clear h1 h3 h4
  go_wp2_with fail
  go_ret
  exact ⟨ps, q, c, HB.out.1, rfl, HB.out.2⟩
end Go.Proofs.Ytipecocalmmmbaa
