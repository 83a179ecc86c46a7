/- trie: at and Get at int. -/
import Derived.Test.YtlkpalaakncicaaV6
namespace Go.Proofs.Ytlkpalaakncicaa
open Go.RowKit Go.Shelf
set_option linter.unusedVariables false
set_option linter.unusedSimpArgs false

attribute [local go_sem] Oper.semAt_some
attribute [local go_sem, local simp] wide_fn
attribute [local go_sem] encPN

theorem Blk.own {W W' : World} {row : Option Nat} {g : Nat} {t : TypeId} {vs : List Value} (h : Blk W g t vs) (hg : W.grownBy W' row) (hr : ∀ r, row = some r → ∃ o : Obj, W.heap[r]? = some o ∧ o.isCells = false) : Blk W' g t vs :=
  h.of_same (hg.block g h.lt (fun e => by
    obtain ⟨o, ho, hc⟩ := hr g e.symm
    obtain ⟨cs, hcs, _⟩ := h
    rw [hcs] at ho
    injection ho with ho
    subst ho
    cases hc))
set_option maxRecDepth 100000 in
set_option maxHeartbeats 4000000 in
theorem at_no_if (w : World) (q : Option Addr) (a n : Int) (hk : okP a n = false) :
    Calls Try.prog 67 #[.pointer q, .agg #[.int .u32 a, .int .i64 n]] w fun e w' => e = .returned (.pointer none) ∧ Below w.heap.size w w' := by
  refine (callsIn_wide (n := 6)).1 ?_
  have HC := Lib.hid (fun (U : World) => check_any a n U)
  unfold errP at HC
  rw [hk] at HC
  obtain ⟨P, hP⟩ : ∃ P, w.heap.size = P := ⟨_, rfl⟩
  obtain ⟨V, hV⟩ : ∃ V, (w.alloc (.cells #[.int .u32 a, .int .i64 n] 32)).alloc (.cells #[.pointer none] 107) = V := ⟨_, rfl⟩
  have hB : Below w.heap.size w V := by rw [← hV]; exact two_below _ _ _
  have hp : Blk V P 32 [.int .u32 a, .int .i64 n] := by rw [← hV, ← hP]; exact (Blk.new w 32 [.int .u32 a, .int .i64 n]).alloc _
  have hr : Blk V (P + 1) 107 [.pointer none] := by
    have := Blk.new (w.alloc (.cells #[.int .u32 a, .int .i64 n] 32)) 107 [.pointer none]
    rw [sz_alloc, hP] at this
    rw [← hV]; exact this
  have p0 : V.cell? ⟨P, 0, none⟩ = some (.int .u32 a) := hp.cell 0 (by simp)
  have p1 : V.cell? ⟨P, 1, none⟩ = some (.int .i64 n) := hp.cell 1 (by simp)
  have HV := Lib.hid hV
  have HP := Lib.hid hP
  have HALL := Lib.hid (show Below w.heap.size w V ∧ Blk V (P + 1) 107 [.pointer none] from ⟨hB, hr⟩)
  clear hV hP hB hp hr hk
  refine callsIn_of_wp_marks Try.func67 rfl trivial ?_ rfl
  simp only [Try.ntmps67, List.size_toArray, List.length_cons, List.length_nil, Nat.reduceAdd, Nat.reduceSub, Array.replicate_succ, Array.replicate_zero, List.push_toArray, List.append_toArray, List.nil_append, List.cons_append]
  gi_wp2_with fail
  rw [HV.out, HP.out]
  refine (callsIn_wide.2 (HC.out V)).mono ?_
  rintro e w1 ⟨rfl, hb⟩
  have HA1 := Lib.hid (show Below w.heap.size w w1 ∧ Blk w1 (P + 1) 107 [.pointer none] from ⟨HALL.out.1.trans (hb.mono HALL.out.1.size), HALL.out.2.next hb⟩)
  have r0 : w1.cell? ⟨P + 1, 0, none⟩ = some (.pointer none) := HA1.out.2.cell 0 (by simp)
  have f0 : w1.frozen? ⟨P + 1, 0, none⟩ = false := HA1.out.2.f 0
  have HRB := Lib.hid (show w.heap.size ≤ P + 1 by have := HP.out; omega)
  clear hb p0 p1
  gi_wp2_with fail
  have hc : (w1.setCell ⟨P + 1, 0, none⟩ (.pointer none)).cell? ⟨P + 1, 0, none⟩ = some (.pointer none) := (HA1.out.2.set 0 (.pointer none)).cell 0 (by simp)
  exact ⟨.pointer none, by simp [results, Try.results67, go_sem, hc], rfl, HA1.out.1.setCell HRB.out _⟩
set_option maxRecDepth 100000 in
set_option maxHeartbeats 8000000 in
theorem at_yes_if (w : World) (B t r : Nat) (s : Int) (N : Int → Nat → Option Nat) (L : List TE) (h : TrAt TRf NDf THf w B t r s N L) (a : Int) (m : Nat) (a0 : 0 ≤ a) (a1 : a < 4294967296) (hok : okP a m = true) :
    Calls Try.prog 67 #[.pointer (some ⟨t, 0, none⟩), .agg #[.int .u32 a, .int .i64 m]] w fun e w' => e = .returned (optP (N a m)) ∧ Below w.heap.size w w' := by
  refine (callsIn_wide (n := 6)).1 ?_
  have hdd : ∀ k : Nat, (Fence.wide.depth.isSome = true → 1 ≤ k) := fun k h => by cases h
  have HC := Lib.hid (fun (U : World) => check_any a m U)
  unfold errP at HC
  rw [if_pos hok] at HC
  have HOK := Lib.hid hok
  have hm : m ≤ 32 := by have := (okP_parts hok).2; omega
  -- the world where Check is called
  obtain ⟨P, hP⟩ : ∃ P, w.heap.size = P := ⟨_, rfl⟩
  obtain ⟨V, hV⟩ : ∃ V, (w.alloc (.cells #[.int .u32 a, .int .i64 m] 32)).alloc (.cells #[.pointer none] 107) = V := ⟨_, rfl⟩
  have hB : Below w.heap.size w V := by rw [← hV]; exact two_below _ _ _
  have hp : Blk V P 32 [.int .u32 a, .int .i64 m] := by rw [← hV, ← hP]; exact (Blk.new w 32 [.int .u32 a, .int .i64 m]).alloc _
  have hr : Blk V (P + 1) 107 [.pointer none] := by
    have := Blk.new (w.alloc (.cells #[.int .u32 a, .int .i64 m] 32)) 107 [.pointer none]
    rw [sz_alloc, hP] at this
    rw [← hV]; exact this
  have hT := h.below hB
  have p0 : V.cell? ⟨P, 0, none⟩ = some (.int .u32 a) := hp.cell 0 (by simp)
  have p1 : V.cell? ⟨P, 1, none⟩ = some (.int .i64 m) := hp.cell 1 (by simp)
  have HV := Lib.hid hV
  have HP := Lib.hid hP
  have HALL := Lib.hid (show Below w.heap.size w V ∧ Blk V P 32 [.int .u32 a, .int .i64 m] ∧ Blk V (P + 1) 107 [.pointer none] ∧ TrAt TRf NDf THf V B t r s N L from ⟨hB, hp, hr, hT⟩)
  clear hV hP hB hp hr hT h hok
  refine callsIn_of_wp_marks Try.func67 rfl trivial ?_ rfl
  simp only [Try.ntmps67, List.size_toArray, List.length_cons, List.length_nil, Nat.reduceAdd, Nat.reduceSub, Array.replicate_succ, Array.replicate_zero, List.push_toArray, List.append_toArray, List.nil_append, List.cons_append]
  gi_wp2_with fail
  rw [HV.out, HP.out]
  refine (callsIn_wide.2 (HC.out V)).mono ?_
  rintro e w1 ⟨rfl, hb⟩
  have HAL1 := Lib.hid (show Below w.heap.size w w1 ∧ Blk w1 P 32 [.int .u32 a, .int .i64 m] ∧ Blk w1 (P + 1) 107 [.pointer none] ∧ TrAt TRf NDf THf w1 B t r s N L from
    ⟨HALL.out.1.trans (hb.mono HALL.out.1.size), HALL.out.2.1.next hb, HALL.out.2.2.1.next hb, HALL.out.2.2.2.below hb⟩)
  have q0 : w1.cell? ⟨P, 0, none⟩ = some (.int .u32 a) := HAL1.out.2.1.cell 0 (by simp)
  have q1 : w1.cell? ⟨P, 1, none⟩ = some (.int .i64 m) := HAL1.out.2.1.cell 1 (by simp)
  clear hb p0 p1
  gi_wp2_with fail
  refine (callsIn_wide.2 (along_if w1 t a m)).mono ?_
  obtain ⟨Bt, hBt⟩ : ∃ X, w1.heap.size = X := ⟨_, rfl⟩
  obtain ⟨Bp, hBp⟩ : ∃ X, X = Bt + 1 := ⟨_, rfl⟩
  obtain ⟨V2, hV2⟩ : ∃ V, (w1.alloc (.cells #[.pointer (some ⟨t, 0, none⟩)] 75)).alloc (.cells #[.int .u32 a, .int .i64 m] 32) = V := ⟨_, rfl⟩
  have hB2 : Below w1.heap.size w1 V2 := by rw [← hV2]; exact two_below _ _ _
  have hbt : Blk V2 Bt 75 [.pointer (some ⟨t, 0, none⟩)] := by rw [← hV2, ← hBt]; exact (Blk.new w1 75 [.pointer (some ⟨t, 0, none⟩)]).alloc _
  have hbp : Blk V2 Bp 32 [.int .u32 a, .int .i64 m] := by
    have := Blk.new (w1.alloc (.cells #[.pointer (some ⟨t, 0, none⟩)] 75)) 32 [.int .u32 a, .int .i64 m]
    rw [sz_alloc, hBt, ← hBp] at this
    rw [← hV2]; exact this
  have hsz : V2.heap.size = Bp + 1 := by rw [← hV2, sz_alloc, sz_alloc, hBt, hBp]
  have HAL2 := Lib.hid (show Below w.heap.size w V2 ∧ Blk V2 P 32 [.int .u32 a, .int .i64 m] ∧ Blk V2 (P + 1) 107 [.pointer none] ∧ TrAt TRf NDf THf V2 B t r s N L from
    ⟨HAL1.out.1.trans (hB2.mono HAL1.out.1.size), HAL1.out.2.1.next hB2, HAL1.out.2.2.1.next hB2, HAL1.out.2.2.2.below hB2⟩)
  have HPl := Lib.hid (show P < Bt ∧ (P + 1) < Bt ∧ P ≠ (P + 1) from by rw [← hBt]; exact ⟨HAL1.out.2.1.lt, HAL1.out.2.2.1.lt, by omega⟩)
  have HAl := Lib.hid (show AlS TRf NDf THf V2 B t r s N L a m Bt Bp (fun k => k = (P + 1)) (Bp + 1) from ⟨HAL2.out.2.2.2, hbt.cell 0 (by simp), hbp, fun k hk => by
    rcases hk with hk | rfl
    · have h1 := HAL1.out.2.2.2.inLt hk
      have h2 := HAL1.out.2.2.2
      refine ⟨by omega, ?_⟩
      show ¬ k = (P + 1)
      rintro rfl
      have hr := HAL1.out.2.2.1
      rcases hk with rfl | ⟨x, d, hk⟩
      · exact absurd (hr.type h2.tb) (by decide)
      · exact absurd (hr.type (h2.node _ _ _ hk)) (by decide)
    · refine ⟨by omega, ?_⟩
      show ¬ k = (P + 1)
      have := HPl.out; omega⟩)
  have hsn : ∀ k, k ≤ Bp → k < V2.heap.size := fun k hk => by omega
  rintro e w2 ⟨rfl, rfl⟩
  rw [hV2, hBt, ← hBp]
  have HSZ := Lib.hid hsz
  clear hB2 hbt hbp hsz q0 q1 hV2 hBt hsn
  have HBP := Lib.hid hBp
  clear hBp
  gi_wp2_with fail
  refine wpIn_rangeFunc_ownF rfl (by omega) (gf := 72) (lb := #[.pointer (some ⟨Bt, 0, none⟩), .pointer (some ⟨Bp, 0, none⟩)]) rfl trivial (enters_of Try.func72 (by kernel_rfl) rfl)
    (along1_if _ V2 B t r s N L a m Bt Bp (fun k => k = (P + 1)) (Bp + 1) HAl.out hm a0 a1) kpX_t (kpX_b (by rw [HSZ.out]; exact Nat.le_refl _)) (Below.refl _ _) (fun _ => rfl)
    (fun pre W => (∀ x ∈ pre, x.1.1 ≠ m) ∧ Blk W P 32 [.int .u32 a, .int .i64 m] ∧ Blk W (P + 1) 107 [.pointer none] ∧ Below w.heap.size w W)
    (fun c _ W => c = .ret ∧ ∃ b, N a m = some b ∧ Blk W (P + 1) 107 [.pointer (some ⟨b, 0, none⟩)] ∧ Below w.heap.size w W)
    ?hI ?hIx ?h0 ?a₁ ?assign ?body ?done ?stop
  case hI =>
    intro s A C row hs hg hr
    exact ⟨hs.1, hs.2.1.own hg (fun r e => (hr r e).2), hs.2.2.1.own hg (fun r e => (hr r e).2), hs.2.2.2.grown hg hs.2.2.2.size (fun k e => Nat.le_trans HAL2.out.1.size (hr k e).1)⟩
  case hIx =>
    intro c s A C row hs hg hr
    obtain ⟨h1, b, h2, h3, h4⟩ := hs
    exact ⟨h1, b, h2, h3.own hg (fun r e => (hr r e).2), h4.grown hg h4.size (fun k e => Nat.le_trans HAL2.out.1.size (hr k e).1)⟩
  case h0 => exact ⟨(fun x hx => by cases hx), HAL2.out.2.1, HAL2.out.2.2.1, HAL2.out.1⟩
  case assign =>
    intro l x W K hK
    gi_wp2
    exact hK
  case body =>
    rintro l pre ⟨⟨d, b⟩, h32, hN⟩ W ⟨hne, hp, hr, hB⟩ _
    have p1 : W.cell? ⟨P, 1, none⟩ = some (.int .i64 m) := hp.cell 1 (by simp)
    have r0 : W.cell? ⟨(P + 1), 0, none⟩ = some (.pointer none) := hr.cell 0 (by simp)
    have f0 : W.frozen? ⟨(P + 1), 0, none⟩ = false := hr.f 0
    dsimp only at h32 hN
    have HN := Lib.hid hN
    have HAL := Lib.hid (show (∀ x ∈ pre, x.1.1 ≠ m) ∧ Blk W P 32 [.int .u32 a, .int .i64 m] ∧ Blk W (P + 1) 107 [.pointer none] ∧ Below w.heap.size w W from ⟨hne, hp, hr, hB⟩)
    have hwR := HAL1.out.1
    clear hne hp hr hB
    by_cases hd : d = m
    · subst hd
      have HX := Lib.hid (show ∃ b', N a d = some b' ∧ Blk (W.setCell ⟨(P + 1), 0, none⟩ (.pointer (some ⟨b, 0, none⟩))) (P + 1) 107 [.pointer (some ⟨b', 0, none⟩)] ∧ Below w.heap.size w (W.setCell ⟨(P + 1), 0, none⟩ (.pointer (some ⟨b, 0, none⟩))) from
        ⟨b, by have := HN.out; rw [mk_self HOK.out] at this; exact this, HAL.out.2.2.1.set 0 _, HAL.out.2.2.2.setCell (by show w.heap.size ≤ (P + 1); have := HP.out; omega) _⟩)
      clear hwR
      gi_wp2
      exact ⟨KeepsOthers.setCell _ _ _, rfl, HX.out⟩
    · have hd' : ((d : Int) == (m : Int)) = false := by simpa using fun h => hd (by omega)
      have HX := Lib.hid (show ∀ x ∈ pre ++ [(⟨(d, b), h32, HN.out⟩ : PN N a)], x.1.1 ≠ m from fun x hx => by
        rcases List.mem_append.1 hx with hx | hx
        · exact HAL.out.1 x hx
        · rw [List.mem_singleton.1 hx]; exact hd)
      clear hwR hd
      gi_wp2
      exact ⟨KeepsOthers.refl _, KpX.refl _ _ _, HX.out, HAL.out.2⟩
  case done =>
    rintro D ys W hD hS ⟨hne, hp, hr, hB⟩ hK
    have HNO := Lib.hid (show N a m = none from by
      obtain ⟨⟨h1, h2⟩, h3⟩ := hS
      have hlt : ys.length ≤ m := by
        rcases Nat.lt_or_ge m ys.length with hl | hl
        · have hmem : m ∈ ys.map (·.1.1) := by rw [h1]; exact List.mem_range.2 hl
          obtain ⟨x, hx, e⟩ := List.mem_map.1 hmem
          exact absurd e (hne x hx)
        · exact hl
      have h4 : N (mk a ys.length) ys.length = none := h3.resolve_left (by omega)
      have := HAL2.out.2.2.2.deep a0 a1 h4 m hlt hm
      rw [mk_self HOK.out] at this
      exact this)
    have r0 : W.cell? ⟨P + 1, 0, none⟩ = some (.pointer none) := hr.cell 0 (by simp)
    have f0 : W.frozen? ⟨P + 1, 0, none⟩ = false := hr.f 0
    have HAL := Lib.hid (show Blk W (P + 1) 107 [.pointer none] ∧ Below w.heap.size w W from ⟨hr, hB⟩)
    have HRB := Lib.hid (show w.heap.size ≤ P + 1 by have := HP.out; omega)
    clear hne hp hr hB hS
    gi_wp2
    have hK2 := (KeepsOthers.setCell W ⟨P + 1, 0, none⟩ (.pointer none)).same D _ hK rfl
    have hc : ((W.setCell ⟨P + 1, 0, none⟩ (.pointer none)).putObj D (.deferred none)).cell? ⟨P + 1, 0, none⟩ = some (.pointer none) := cell_kept ((HAL.out.1.set 0 (.pointer none)).cell 0 (by simp)) (grownBy_putObj' _ D (.deferred none)) (fun r e => by cases e; exact ⟨_, hK2, rfl⟩)
    refine ⟨by simp, .inl ⟨_, _, rfl, run_takeDeferred hK2, ?_⟩⟩
    refine ⟨.pointer none, by simp [results, Try.results67, go_sem, hc], by rw [HNO.out]; rfl, ?_⟩
    exact (HAL.out.2.setCell HRB.out _).trans (belowK_b (w := w) (Nat.le_refl _) _ D _ _ (Nat.le_trans HAL2.out.1.size hD) hK2 rfl rfl)
  case stop =>
    rintro D c pre W hD _ ⟨rfl, b, hN, hr, hB⟩ hK
    have HAL := Lib.hid (show Blk W (P + 1) 107 [.pointer (some ⟨b, 0, none⟩)] ∧ N a m = some b ∧ Below w.heap.size w W from ⟨hr, hN, hB⟩)
    clear hN hr hB
    gi_wp2
    have hc : (W.putObj D (.deferred none)).cell? ⟨P + 1, 0, none⟩ = some (.pointer (some ⟨b, 0, none⟩)) := cell_kept (HAL.out.1.cell 0 (by simp)) (grownBy_putObj' _ D (.deferred none)) (fun r e => by cases e; exact ⟨_, hK, rfl⟩)
    refine ⟨by simp, .inl ⟨_, _, rfl, run_takeDeferred hK, ?_⟩⟩
    refine ⟨.pointer (some ⟨b, 0, none⟩), by simp [results, Try.results67, go_sem, hc], by rw [HAL.out.2.1]; rfl, ?_⟩
    exact HAL.out.2.2.trans (belowK_b (w := w) (Nat.le_refl _) _ D _ _ (Nat.le_trans HAL2.out.1.size hD) hK rfl rfl)
end Go.Proofs.Ytlkpalaakncicaa
