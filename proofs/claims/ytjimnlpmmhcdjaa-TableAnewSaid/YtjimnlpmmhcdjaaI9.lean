/- table: the document's Same of the same, Get; Ten, one. -/
import Derived.Test.YtjimnlpmmhcdjaaI8
namespace Go.Proofs.Ytjimnlpmmhcdjaa
open Go.RowKit Go.Maps Go.Sort
set_option linter.unusedVariables false
set_option linter.unusedSimpArgs false
set_option maxRecDepth 100000

theorem ten1_any (w : World) : Calls Try.prog 22 #[.int .i64 1] w fun e w' => e = .returned (.agg #[.int .u32 167837696, .int .i64 16]) ∧ Below w.heap.size w w' := by
  have hb := newB w (.cells #[.int .u32 167837696, .int .i64 16] 32)
  have hX := Blk.new w 32 [.int .u32 167837696, .int .i64 16]
  have z0 := hX.cell 0 (by simp)
  have z1 := hX.cell 1 (by simp)
  simp only [List.getD_cons_zero, List.getD_cons_succ] at z0 z1
  go_enter Try.func22, Try.ntmps22
  go_wp2
  exact bodyPost_ret (v := .agg #[.int .u32 167837696, .int .i64 16]) (by simp [results, Try.results22, go_sem, z0, z1]; first | done | rfl | decide) rfl ⟨rfl, hb⟩
theorem ten2_any (w : World) : Calls Try.prog 22 #[.int .i64 2] w fun e w' => e = .returned (.agg #[.int .u32 167903232, .int .i64 16]) ∧ Below w.heap.size w w' := by
  have hb := newB w (.cells #[.int .u32 167903232, .int .i64 16] 32)
  have hX := Blk.new w 32 [.int .u32 167903232, .int .i64 16]
  have z0 := hX.cell 0 (by simp)
  have z1 := hX.cell 1 (by simp)
  simp only [List.getD_cons_zero, List.getD_cons_succ] at z0 z1
  go_enter Try.func22, Try.ntmps22
  go_wp2
  exact bodyPost_ret (v := .agg #[.int .u32 167903232, .int .i64 16]) (by simp [results, Try.results22, go_sem, z0, z1]; first | done | rfl | decide) rfl ⟨rfl, hb⟩
theorem ten7_any (w : World) : Calls Try.prog 22 #[.int .i64 7] w fun e w' => e = .returned (.agg #[.int .u32 168230912, .int .i64 16]) ∧ Below w.heap.size w w' := by
  have hb := newB w (.cells #[.int .u32 168230912, .int .i64 16] 32)
  have hX := Blk.new w 32 [.int .u32 168230912, .int .i64 16]
  have z0 := hX.cell 0 (by simp)
  have z1 := hX.cell 1 (by simp)
  simp only [List.getD_cons_zero, List.getD_cons_succ] at z0 z1
  go_enter Try.func22, Try.ntmps22
  go_wp2
  exact bodyPost_ret (v := .agg #[.int .u32 168230912, .int .i64 16]) (by simp [results, Try.results22, go_sem, z0, z1]; first | done | rfl | decide) rfl ⟨rfl, hb⟩
theorem one1_any (w : World) : Calls Try.prog 21 #[.int .i64 1, .int .i64 9] w fun e w' => e = .returned (.agg #[.int .i64 1, .int .u32 167837696, .int .i64 16, .int .i64 2, .int .i64 9]) ∧ Below w.heap.size w w' := by
  have hb := newB w (.cells #[.int .i64 0, .int .u32 0, .int .i64 0, .int .i64 0, .int .i64 0] 36)
  have hX := Blk.new w 36 [.int .i64 0, .int .u32 0, .int .i64 0, .int .i64 0, .int .i64 0]
  obtain ⟨P, hP⟩ : ∃ P, w.heap.size = P := ⟨_, rfl⟩
  obtain ⟨V, hV⟩ : ∃ V, w.alloc (.cells #[.int .i64 0, .int .u32 0, .int .i64 0, .int .i64 0, .int .i64 0] 36) = V := ⟨_, rfl⟩
  rw [hV] at hb hX
  rw [hP] at hX
  have HB := Lib.hid hb
  have HX := Lib.hid hX
  have HVE := Lib.hid hV
  have HPE := Lib.hid hP
  clear hb hX hV hP
  go_enter Try.func21, Try.ntmps21
  go_wp2_with fail
  rw [HVE.out, HPE.out]
  refine (ten1_any V).mono ?_
  rintro e U ⟨rfl, hb⟩
  have HB2 := Lib.hid (HB.out.trans (hb.mono HB.out.size))
  have hY := HX.out.next hb
  have HY := Lib.hid hY
  obtain ⟨d0, d1, d2, d3, d4⟩ := dt_boxes hY
  have f0 := hY.f 0
  have f1 := hY.f 1
  have f2 := hY.f 2
  have f3 := hY.f 3
  have f4 := hY.f 4
  clear hb hY
  go_wp2_with fail
  obtain ⟨r0, r1, r2, r3, r4⟩ := dt_boxes (Blk.fiveD HY.out (.int .i64 1) (.int .u32 167837696) (.int .i64 16) (.int .i64 2) (.int .i64 9))
  exact bodyPost_ret (v := .agg #[.int .i64 1, .int .u32 167837696, .int .i64 16, .int .i64 2, .int .i64 9]) (by simp [results, Try.results21, go_sem, r0, r1, r2, r3, r4]) rfl ⟨rfl, below_fiveD HB2.out (by rw [HPE.out]; omega) _ _ _ _ _⟩
theorem one2_any (w : World) : Calls Try.prog 21 #[.int .i64 2, .int .i64 5] w fun e w' => e = .returned (.agg #[.int .i64 1, .int .u32 167903232, .int .i64 16, .int .i64 2, .int .i64 5]) ∧ Below w.heap.size w w' := by
  have hb := newB w (.cells #[.int .i64 0, .int .u32 0, .int .i64 0, .int .i64 0, .int .i64 0] 36)
  have hX := Blk.new w 36 [.int .i64 0, .int .u32 0, .int .i64 0, .int .i64 0, .int .i64 0]
  obtain ⟨P, hP⟩ : ∃ P, w.heap.size = P := ⟨_, rfl⟩
  obtain ⟨V, hV⟩ : ∃ V, w.alloc (.cells #[.int .i64 0, .int .u32 0, .int .i64 0, .int .i64 0, .int .i64 0] 36) = V := ⟨_, rfl⟩
  rw [hV] at hb hX
  rw [hP] at hX
  have HB := Lib.hid hb
  have HX := Lib.hid hX
  have HVE := Lib.hid hV
  have HPE := Lib.hid hP
  clear hb hX hV hP
  go_enter Try.func21, Try.ntmps21
  go_wp2_with fail
  rw [HVE.out, HPE.out]
  refine (ten2_any V).mono ?_
  rintro e U ⟨rfl, hb⟩
  have HB2 := Lib.hid (HB.out.trans (hb.mono HB.out.size))
  have hY := HX.out.next hb
  have HY := Lib.hid hY
  obtain ⟨d0, d1, d2, d3, d4⟩ := dt_boxes hY
  have f0 := hY.f 0
  have f1 := hY.f 1
  have f2 := hY.f 2
  have f3 := hY.f 3
  have f4 := hY.f 4
  clear hb hY
  go_wp2_with fail
  obtain ⟨r0, r1, r2, r3, r4⟩ := dt_boxes (Blk.fiveD HY.out (.int .i64 1) (.int .u32 167903232) (.int .i64 16) (.int .i64 2) (.int .i64 5))
  exact bodyPost_ret (v := .agg #[.int .i64 1, .int .u32 167903232, .int .i64 16, .int .i64 2, .int .i64 5]) (by simp [results, Try.results21, go_sem, r0, r1, r2, r3, r4]) rfl ⟨rfl, below_fiveD HB2.out (by rw [HPE.out]; omega) _ _ _ _ _⟩
theorem one7_any (w : World) : Calls Try.prog 21 #[.int .i64 7, .int .i64 1] w fun e w' => e = .returned (.agg #[.int .i64 1, .int .u32 168230912, .int .i64 16, .int .i64 2, .int .i64 1]) ∧ Below w.heap.size w w' := by
  have hb := newB w (.cells #[.int .i64 0, .int .u32 0, .int .i64 0, .int .i64 0, .int .i64 0] 36)
  have hX := Blk.new w 36 [.int .i64 0, .int .u32 0, .int .i64 0, .int .i64 0, .int .i64 0]
  obtain ⟨P, hP⟩ : ∃ P, w.heap.size = P := ⟨_, rfl⟩
  obtain ⟨V, hV⟩ : ∃ V, w.alloc (.cells #[.int .i64 0, .int .u32 0, .int .i64 0, .int .i64 0, .int .i64 0] 36) = V := ⟨_, rfl⟩
  rw [hV] at hb hX
  rw [hP] at hX
  have HB := Lib.hid hb
  have HX := Lib.hid hX
  have HVE := Lib.hid hV
  have HPE := Lib.hid hP
  clear hb hX hV hP
  go_enter Try.func21, Try.ntmps21
  go_wp2_with fail
  rw [HVE.out, HPE.out]
  refine (ten7_any V).mono ?_
  rintro e U ⟨rfl, hb⟩
  have HB2 := Lib.hid (HB.out.trans (hb.mono HB.out.size))
  have hY := HX.out.next hb
  have HY := Lib.hid hY
  obtain ⟨d0, d1, d2, d3, d4⟩ := dt_boxes hY
  have f0 := hY.f 0
  have f1 := hY.f 1
  have f2 := hY.f 2
  have f3 := hY.f 3
  have f4 := hY.f 4
  clear hb hY
  go_wp2_with fail
  obtain ⟨r0, r1, r2, r3, r4⟩ := dt_boxes (Blk.fiveD HY.out (.int .i64 1) (.int .u32 168230912) (.int .i64 16) (.int .i64 2) (.int .i64 1))
  exact bodyPost_ret (v := .agg #[.int .i64 1, .int .u32 168230912, .int .i64 16, .int .i64 2, .int .i64 1]) (by simp [results, Try.results21, go_sem, r0, r1, r2, r3, r4]) rfl ⟨rfl, below_fiveD HB2.out (by rw [HPE.out]; omega) _ _ _ _ _⟩

set_option maxHeartbeats 4000000 in
theorem rsameD_yes (p q : Option Addr) (l : List Dt) (n c d : Nat) (w : World) (h1 : DtsAt w p l) (h2 : DtsAt w q l) (hn : l.length = n) (hm : n ≤ maxLen) :
    Calls Try.prog 13 #[.slice p n c, .slice q n d] w fun e w' => e = .returned (.bool true) ∧ Below w.heap.size w w' := by
  unfold maxLen at hm
  have H1 := Lib.hid h1
  have H2 := Lib.hid h2
  have HN := Lib.hid hn
  clear h1 h2 hn
  go_enter Try.func13, Try.ntmps13
  go_wp2_with fail
  go_loopw [5] (fun i wr => ∃ k : Nat, k ≤ n ∧ i = .int .i64 k ∧ Below w.heap.size w wr) (fun i _ => n - (intOf i).toNat)
  case atStart => exact ⟨0, Nat.zero_le _, rfl, Below.refl _ _⟩
  case round =>
    obtain ⟨k, hk, rfl, hB⟩ := hrel
    have HB := Lib.hid hB
    clear hB
    by_cases hlt : k < n
    · obtain ⟨b, off, rfl, c0, c1, c2, c3, c4⟩ := dt_cell (H1.out.below HB.out) HN.out hlt
      obtain ⟨b2, off2, rfl, d0, d1, d2, d3, d4⟩ := dt_cell (H2.out.below HB.out) HN.out hlt
      obtain ⟨x, hx⟩ : ∃ x, l.getD k Dt.zero = x := ⟨_, rfl⟩
      rw [hx] at c0 c1 c2 c3 c4 d0 d1 d2 d3 d4
      have hg := dt_eqGuard
      have hq := dt_neq x x
      have hz : (!eqD x x) = false := by rw [(eqD_iff x x).2 rfl]; rfl
      rw [hz] at hq
      obtain ⟨x0, ⟨x1, x2⟩, x3, x4⟩ := x
      simp only at c0 c1 c2 c3 c4 d0 d1 d2 d3 d4
      have hq : ∀ u, (binOp .neq 36 (.agg #[.int .i64 x0, .int .u32 x1, .int .i64 x2, .int .i64 x3, .int .i64 x4]) (.agg #[.int .i64 x0, .int .u32 x1, .int .i64 x2, .int .i64 x3, .int .i64 x4])).run Try.prog u = .ok (.bool false) u := hq
      have hltI : (k : Int) < (n : Int) := by omega
      clear hx hz
      have hS : wr.drew.cell? ⟨b, off + k * 5, none⟩ = some (.int .i64 x0) ∧ wr.drew.cell? ⟨b, off + k * 5 + 1, none⟩ = some (.int .u32 x1) ∧ wr.drew.cell? ⟨b, off + k * 5 + 2, none⟩ = some (.int .i64 x2) ∧ wr.drew.cell? ⟨b, off + k * 5 + 3, none⟩ = some (.int .i64 x3) ∧ wr.drew.cell? ⟨b, off + k * 5 + 4, none⟩ = some (.int .i64 x4) ∧ wr.drew.cell? ⟨b2, off2 + k * 5, none⟩ = some (.int .i64 x0) ∧ wr.drew.cell? ⟨b2, off2 + k * 5 + 1, none⟩ = some (.int .u32 x1) ∧ wr.drew.cell? ⟨b2, off2 + k * 5 + 2, none⟩ = some (.int .i64 x2) ∧ wr.drew.cell? ⟨b2, off2 + k * 5 + 3, none⟩ = some (.int .i64 x3) ∧ wr.drew.cell? ⟨b2, off2 + k * 5 + 4, none⟩ = some (.int .i64 x4) := ⟨c0, c1, c2, c3, c4, d0, d1, d2, d3, d4⟩
      go_wp2_with fail
      clear c0 c1 c2 c3 c4 d0 d1 d2 d3 d4
      go_region_held (fun W => W.cell? ⟨b, off + k * 5, none⟩ = some (.int .i64 x0) ∧ W.cell? ⟨b, off + k * 5 + 1, none⟩ = some (.int .u32 x1) ∧ W.cell? ⟨b, off + k * 5 + 2, none⟩ = some (.int .i64 x2) ∧ W.cell? ⟨b, off + k * 5 + 3, none⟩ = some (.int .i64 x3) ∧ W.cell? ⟨b, off + k * 5 + 4, none⟩ = some (.int .i64 x4) ∧ W.cell? ⟨b2, off2 + k * 5, none⟩ = some (.int .i64 x0) ∧ W.cell? ⟨b2, off2 + k * 5 + 1, none⟩ = some (.int .u32 x1) ∧ W.cell? ⟨b2, off2 + k * 5 + 2, none⟩ = some (.int .i64 x2) ∧ W.cell? ⟨b2, off2 + k * 5 + 3, none⟩ = some (.int .i64 x3) ∧ W.cell? ⟨b2, off2 + k * 5 + 4, none⟩ = some (.int .i64 x4)) (with_reducible assumption) (fail)
      go_wp2_with fail
      go_roundw
      case rel => exact ⟨k + 1, by omega, by go_num, HB.out.drew⟩
      case measure => simp [intOf]; omega
    · obtain rfl : k = n := by omega
      go_wp2
      go_ret
      exact ⟨rfl, HB.out⟩
set_option maxHeartbeats 4000000 in
theorem rgetD_any (w : World) (g : Nat) (q : Option Addr) (c : Nat) (L : List Dt) (H : RtAt w g q c L) (p : Pf) :
    Calls Try.prog 18 #[.pointer (some ⟨g, 0, none⟩), pfV p] w fun e w' => e = .returned (.tuple #[dtV ((lookD L p).getD Dt.zero), .bool (lookD L p).isSome]) ∧ Below w.heap.size w w' := by
  obtain ⟨xa, xn⟩ := p
  have hb1 := newB w (.cells #[.int .u32 xa, .int .i64 xn] 32)
  have hb2 := newB (w.alloc (.cells #[.int .u32 xa, .int .i64 xn] 32)) (.cells #[.int .i64 0, .int .u32 0, .int .i64 0, .int .i64 0, .int .i64 0] 36)
  have hX := (Blk.new w 32 [.int .u32 xa, .int .i64 xn]).next hb2
  have hY := Blk.new (w.alloc (.cells #[.int .u32 xa, .int .i64 xn] 32)) 36 [.int .i64 0, .int .u32 0, .int .i64 0, .int .i64 0, .int .i64 0]
  rw [sz_alloc] at hY
  have hb0 := hb1.trans (hb2.mono hb1.size)
  obtain ⟨P, hP⟩ : ∃ P, w.heap.size = P := ⟨_, rfl⟩
  obtain ⟨V, hV⟩ : ∃ V, (w.alloc (.cells #[.int .u32 xa, .int .i64 xn] 32)).alloc (.cells #[.int .i64 0, .int .u32 0, .int .i64 0, .int .i64 0, .int .i64 0] 36) = V := ⟨_, rfl⟩
  have hX : Blk V P 32 [.int .u32 xa, .int .i64 xn] := by rw [← hV, ← hP]; exact hX
  have hY : Blk V (P + 1) 36 [.int .i64 0, .int .u32 0, .int .i64 0, .int .i64 0, .int .i64 0] := by rw [← hV, ← hP]; exact hY
  have hb0 : Below w.heap.size w V := by rw [← hV]; exact hb0
  have HF := Lib.hid (rfindD_any V g q c L (H.next hb0) ⟨xa, xn⟩)
  have HLP := Lib.hid (fun hs => look_place H.srt ⟨xa, xn⟩ hs)
  have HH := Lib.hid (H.next hb0)
  have HY := Lib.hid hY
  have HB0 := Lib.hid hb0
  have HVE := Lib.hid hV
  have HPE := Lib.hid hP
  obtain ⟨x0, x1⟩ := pf_boxes hX
  obtain ⟨i, hi⟩ : ∃ i, placeD ⟨xa, xn⟩ L = i := ⟨_, rfl⟩
  obtain ⟨o, ho⟩ : ∃ o, (lookD L ⟨xa, xn⟩).isSome = o := ⟨_, rfl⟩
  obtain ⟨y, hy⟩ : ∃ y, (lookD L ⟨xa, xn⟩).getD Dt.zero = y := ⟨_, rfl⟩
  have HLP2 := Lib.hid (fun hs : o = true => show L.getD i Dt.zero = y ∧ i < L.length from by
    obtain ⟨h1, h2⟩ := HLP.out (ho.trans hs)
    rw [hi] at h1 h2
    rw [h1] at hy
    exact ⟨hy, h2⟩)
  have HNO := Lib.hid (fun hs : o = false => show y = Dt.zero from by
    rcases hl : lookD L ⟨xa, xn⟩ with _ | z
    · rw [hl] at hy; exact hy.symm
    · rw [hl, hs] at ho; cases ho)
  rw [hi, ho] at HF
  rw [ho, hy]
  clear hX hY hb0 hb1 hb2 hV hP hi ho hy HLP H
  go_enter Try.func18, Try.ntmps18
  go_wp2_with fail
  rw [HVE.out, HPE.out]
  go_wp2_with fail
  refine HF.out.mono ?_
  rintro e U ⟨rfl, hb⟩
  have HB2 := Lib.hid (HB0.out.trans (hb.mono HB0.out.size))
  have hY := HY.out.next hb
  have HY2 := Lib.hid hY
  have HH2 := Lib.hid (HH.out.next hb)
  obtain ⟨d0, d1, d2, d3, d4⟩ := dt_boxes hY
  have f0 := hY.f 0
  have f1 := hY.f 1
  have f2 := hY.f 2
  have f3 := hY.f 3
  have f4 := hY.f 4
  clear hb hY x0 x1
  rcases o with _ | _
  · obtain rfl := HNO.out rfl
    go_wp2_with fail
    obtain ⟨r0, r1, r2, r3, r4⟩ := dt_boxes (Blk.fiveD HY2.out (.int .i64 0) (.int .u32 0) (.int .i64 0) (.int .i64 0) (.int .i64 0))
    exact bodyPost_ret (v := .tuple #[.agg #[.int .i64 0, .int .u32 0, .int .i64 0, .int .i64 0, .int .i64 0], .bool false]) (by simp [results, Try.results18, go_sem, r0, r1, r2, r3, r4]) rfl ⟨rfl, below_fiveD HB2.out (by rw [HPE.out]; omega) _ _ _ _ _⟩
  · obtain ⟨hy, hlt⟩ := HLP2.out rfl
    obtain ⟨n, hn⟩ : ∃ n, L.length = n := ⟨_, rfl⟩
    have X0 := HH2.out.at0 hn
    have hmx := HH2.out.max
    have hle := HH2.out.le
    unfold maxLen at hmx
    rw [hn] at hle hlt
    obtain ⟨b, off, rfl, e0, e1, e2, e3, e4⟩ := dt_cell HH2.out.at_ hn hlt
    rw [hy] at e0 e1 e2 e3 e4
    have hltI : (i : Int) < (n : Int) := by omega
    clear hy hn
    obtain ⟨y0, ⟨y1, y2⟩, y3, y4⟩ := y
    dsimp only at e0 e1 e2 e3 e4
    go_wp2_with fail
    obtain ⟨r0, r1, r2, r3, r4⟩ := dt_boxes (Blk.fiveD HY2.out (.int .i64 y0) (.int .u32 y1) (.int .i64 y2) (.int .i64 y3) (.int .i64 y4))
    exact bodyPost_ret (v := .tuple #[.agg #[.int .i64 y0, .int .u32 y1, .int .i64 y2, .int .i64 y3, .int .i64 y4], .bool true]) (by simp [results, Try.results18, go_sem, r0, r1, r2, r3, r4]) rfl ⟨rfl, below_fiveD HB2.out (by rw [HPE.out]; omega) _ _ _ _ _⟩
end Go.Proofs.Ytjimnlpmmhcdjaa
