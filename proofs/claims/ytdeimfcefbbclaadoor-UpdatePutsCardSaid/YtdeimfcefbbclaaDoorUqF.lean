/- update: UpdateMany's list. / update: UpdateMany's walk. -/
import Derived.Test.YtdeimfcefbbclaaDoorUpG
import Derived.Test.YtdeimfcefbbclaaDoorAT
import Derived.Test.YtdeimfcefbbclaaDoorUqB
namespace Go.Proofs.YtdeimfcefbbclaaDoor.Ax
open Go.RowKit
set_option maxRecDepth 100000
set_option linter.unusedVariables false
set_option linter.unusedSimpArgs false

theorem ncells_app (l m : List Nl) : ncells (l ++ m) = ncells l ++ ncells m := by unfold ncells; rw [List.flatMap_append]
/-- The first i are x, the others nothing yet. -/
def fillL (x : Nl) (i m : Nat) : List Nl := List.replicate i x ++ List.replicate m Nl.none
theorem fill_set (x : Nl) (i m : Nat) : (((ncells (fillL x i (m + 1))).set (i * 3) (.int .i64 x.id)).set (i * 3 + 1) (.int .u32 x.addr)).set (i * 3 + 2) (.int .i64 x.len) = ncells (fillL x (i + 1) m) := by
  have h1 : (ncells (List.replicate i x)).length = i * 3 := by rw [ncells_len, List.length_replicate]
  have e1 : ncells (fillL x i (m + 1)) = ncells (List.replicate i x) ++ (.int .i64 0 :: .int .u32 0 :: .int .i64 0 :: ncells (List.replicate m Nl.none)) := by
    unfold fillL; rw [ncells_app, List.replicate_succ]; rfl
  have e2 : ncells (fillL x (i + 1) m) = ncells (List.replicate i x) ++ (.int .i64 x.id :: .int .u32 x.addr :: .int .i64 x.len :: ncells (List.replicate m Nl.none)) := by
    unfold fillL; rw [List.replicate_succ', List.append_assoc, ncells_app]; rfl
  rw [e1, e2]
  rw [List.set_append_right _ _ (by omega), List.set_append_right _ _ (by omega), List.set_append_right _ _ (by omega), h1]
  rw [show i * 3 - i * 3 = 0 by omega, show i * 3 + 1 - i * 3 = 1 by omega, show i * 3 + 2 - i * 3 = 2 by omega]
  rfl
theorem nls_blk {w : World} {g : Nat} {l : List Nl} (h : Blk w g 56 (ncells l)) (ha : ∀ x ∈ l, InAddr x) : NlsAt w (some ⟨g, 0, none⟩) l := by
  refine ⟨fun i hi => ?_, .inr ⟨g, 0, rfl, fun i hi => ?_⟩⟩
  · have : l.getD i Nl.none = l[i] := by simp [List.getD, hi]
    rw [this]; exact ha _ (List.getElem_mem hi)
  · obtain ⟨h0, h1, h2⟩ := ncells_get l i hi
    have hl := ncells_len l
    have k : ∀ (j : Nat) (v : Value), (ncells l)[j]? = some v → w.cell? ⟨g, j, none⟩ = some v := fun j v hv => by
      have hj := (List.getElem?_eq_some_iff.1 hv).1
      rw [h.cell j hj]
      simp [List.getD, hv]
    rw [Nat.zero_add]
    exact ⟨k _ _ h0, k _ _ h1, k _ _ h2⟩
theorem sizeN_ok {x : Nl} {paths : Bool} (h : oddNl (mostN paths) x = false) : sizeN x paths = (nlL paths x).length := by
  unfold sizeN
  rw [if_pos]
  unfold okNls
  simp [h]
end Go.Proofs.YtdeimfcefbbclaaDoor.Ax
namespace Go.Proofs.YtdeimfcefbbclaaDoor.Ax
open Go.RowKit
set_option maxRecDepth 100000
set_option linter.unusedVariables false
set_option linter.unusedSimpArgs false

theorem run_makeNl (n : Nat) (h : n ≤ 1500) (w : World) : (Instr.makeSlice 22 (.int .i64 (n : Int)) (.int .i64 (n : Int))).run Tryd.prog w = .ok (.slice (some ⟨w.heap.size, 0, none⟩) n n) (w.alloc (.cells (ncells (fillL ⟨0, 0, 0⟩ 0 n)).toArray 56)) := by
  obtain ⟨i0, hi, hz, hs, hb⟩ := info_parts infoNl
  have hr := run_make (P := Tryd.prog) w 22 56 i0 (.agg #[.int .i64 0, .int .u32 0, .int .i64 0]) Tryd.underlying22 hi hz .i64 .i64 n n (by omega) (by omega) (by rw [hb]; omega) (by omega)
  simp only [Int.toNat_natCast, hs] at hr
  refine hr.trans ?_
  have hc : madeCells #[.int .i64 0, .int .u32 0, .int .i64 0] (n * 3) = (ncells (fillL ⟨0, 0, 0⟩ 0 n)).toArray := by
    have hl : (fillL ⟨0, 0, 0⟩ 0 n).length = n := by simp [fillL]
    apply Array.ext
    · rw [size_madeCells, List.size_toArray, ncells_len, hl]
    · intro i h1 h2
      rw [size_madeCells] at h1
      obtain ⟨e0, e1, e2⟩ := ncells_get (fillL ⟨0, 0, 0⟩ 0 n) (i / 3) (by omega)
      have hi3 : i / 3 < n := by omega
      have hx : (fillL ⟨0, 0, 0⟩ 0 n).getD (i / 3) Nl.none = Nl.none := by simp [fillL, List.getD, Nl.none, hi3]
      rw [hx] at e0 e1 e2
      have hm : i % 3 = 0 ∨ i % 3 = 1 ∨ i % 3 = 2 := by omega
      conv => rhs; rw [List.getElem_toArray]
      rcases hm with hm | hm | hm
      · rw [show i / 3 * 3 = i by omega] at e0
        rw [(List.getElem?_eq_some_iff.1 e0).2]
        simp [madeCells, hm, Nl.none]
      · rw [show i / 3 * 3 + 1 = i by omega] at e1
        rw [(List.getElem?_eq_some_iff.1 e1).2]
        simp [madeCells, hm, Nl.none]
      · rw [show i / 3 * 3 + 2 = i by omega] at e2
        rw [(List.getElem?_eq_some_iff.1 e2).2]
        simp [madeCells, hm, Nl.none]
  rw [← hc]
  rfl
theorem nlL_pos2 (paths : Bool) (x : Nl) : 0 < (nlL paths x).length := by
  unfold nlL pfxL
  rw [List.length_append, List.length_cons]
  omega
theorem big_boxes {w : World} {P : Nat} {t s : TypeId} {a b c d e f g h i : Value} (h1 : Blk w P t [a, b, c]) (h2 : Blk w (P + 1) s [d, e, f, g, h, i]) :
    w.cell? ⟨P, 0, none⟩ = some a ∧ w.cell? ⟨P, 1, none⟩ = some b ∧ w.cell? ⟨P, 2, none⟩ = some c ∧ w.cell? ⟨P + 1, 0, none⟩ = some d ∧ w.cell? ⟨P + 1, 1, none⟩ = some e ∧ w.cell? ⟨P + 1, 2, none⟩ = some f ∧ w.cell? ⟨P + 1, 3, none⟩ = some g ∧ w.cell? ⟨P + 1, 4, none⟩ = some h ∧ w.cell? ⟨P + 1, 5, none⟩ = some i :=
  ⟨h1.cell 0 (by simp), h1.cell 1 (by simp), h1.cell 2 (by simp), h2.cell 0 (by simp), h2.cell 1 (by simp), h2.cell 2 (by simp), h2.cell 3 (by simp), h2.cell 4 (by simp), h2.cell 5 (by simp)⟩
set_option maxHeartbeats 16000000 in
theorem many_walk (x : Nl) (times : Int) (a : At) (l : Loc) (four paths : Bool) (w : World) (ht : Tab w) (had : InAddr x) (ha : AtAt w a l) :
    Calls Tryd.prog 5 #[.agg #[.int .i64 x.id, .int .u32 x.addr, .int .i64 x.len], .int .i64 times, .agg (atL a l).toArray, .bool four, .bool paths] w fun e w' => e = .returned (.bool true) ∧ Below w.heap.size w w' := by
  have hA := two_below w (.cells #[.int .i64 x.id, .int .u32 x.addr, .int .i64 x.len] 56) (.cells (atL a l).toArray 27)
  have hX := (Blk.new w 56 [.int .i64 x.id, .int .u32 x.addr, .int .i64 x.len]).alloc (.cells (atL a l).toArray 27)
  have hR := Blk.new (w.alloc (.cells #[.int .i64 x.id, .int .u32 x.addr, .int .i64 x.len] 56)) 27 (atL a l)
  rw [sz_alloc] at hR
  obtain ⟨V, hV⟩ : ∃ V, (w.alloc (.cells #[.int .i64 x.id, .int .u32 x.addr, .int .i64 x.len] 56)).alloc (.cells (atL a l).toArray 27) = V := ⟨_, rfl⟩
  obtain ⟨P, hP⟩ : ∃ P, w.heap.size = P := ⟨_, rfl⟩
  rw [hV] at hA hX hR
  rw [hP] at hX hR
  have HA := Lib.hid hA
  have HXB := Lib.hid hX
  have HRB := Lib.hid hR
  have HVV := Lib.hid hV
  have HPE := Lib.hid hP
  have HT := Lib.hid ht
  have HLV := Lib.hid (fun (U : World) (hU : Below w.heap.size w U) => lives_any U (ht.below hU))
  have HAD := Lib.hid had
  have HAA := Lib.hid ha
  have HLG := Lib.hid (large_any a l V (ha.below hA))
  have HON := Lib.hid (fun (U : World) => rone_nl x paths U had)
  have HCK := Lib.hid (fun (U : World) (hU : Below w.heap.size w U) => rcheck_any a l four U (ha.below hU))
  obtain ⟨lb, hlb⟩ : ∃ b, largeB a = b := ⟨_, rfl⟩
  obtain ⟨ob, hob⟩ : ∃ b, oddNl (mostN paths) x = b := ⟨_, rfl⟩
  obtain ⟨kb, hkb⟩ : ∃ b, okA a four = b := ⟨_, rfl⟩
  rw [hlb] at HLG
  rw [hob] at HON
  rw [hkb] at HCK
  have HOB := Lib.hid hob
  have HKB := Lib.hid hkb
  clear ht had ha hlb hob hkb hA hX hR hV hP
  obtain ⟨origin, path, next, med, pref, comms⟩ := a
  obtain ⟨pp, pn, pc, cp, cn, cc⟩ := l
  obtain ⟨xi, xa, xl⟩ := x
  simp only [atL] at *
  go_enter Tryd.func5, Tryd.ntmps5
  by_cases h0 : times < 0
  · have g0 : decide (times < 0) = true := decide_eq_true h0
    go_wp2_with fail
    rw [HVV.out]
    refine (HLV.out V HA.out).mono ?_
    rintro e wz ⟨rfl, hb⟩
    have HZ := Lib.hid (HA.out.trans (hb.mono HA.out.size))
    clear hb
    go_wp2_with fail
    go_ret
    exact ⟨rfl, HZ.out⟩
  have g0 : decide (times < 0) = false := decide_eq_false h0
  by_cases h1 : 1500 < times
  · have g1 : decide (1500 < times) = true := decide_eq_true h1
    go_wp2_with fail
    rw [HVV.out]
    refine (HLV.out V HA.out).mono ?_
    rintro e wz ⟨rfl, hb⟩
    have HZ := Lib.hid (HA.out.trans (hb.mono HA.out.size))
    clear hb
    go_wp2_with fail
    go_ret
    exact ⟨rfl, HZ.out⟩
  have g1 : decide (1500 < times) = false := decide_eq_false h1
  have b0 := HRB.out.cell 0 (by simp)
  have b1 := HRB.out.cell 1 (by simp)
  have b2 := HRB.out.cell 2 (by simp)
  have b3 := HRB.out.cell 3 (by simp)
  have b4 := HRB.out.cell 4 (by simp)
  have b5 := HRB.out.cell 5 (by simp)
  rw [← HVV.out, ← HPE.out] at b0 b1 b2 b3 b4 b5
  go_wp2_with fail
  rw [HVV.out, HPE.out]
  refine HLG.out.mono ?_
  rintro e w1 ⟨rfl, hb⟩
  have HB1 := Lib.hid (HA.out.trans (hb.mono HA.out.size))
  have HX1 := Lib.hid (HXB.out.next hb)
  have HR1 := Lib.hid (HRB.out.next hb)
  clear hb b0 b1 b2 b3 b4 b5 HLG
  rcases lb with _ | _
  rotate_left
  · go_wp2_with fail
    refine (HLV.out w1 HB1.out).mono ?_
    rintro e wz ⟨rfl, hb⟩
    have HZ := Lib.hid (HB1.out.trans (hb.mono HB1.out.size))
    clear hb
    go_wp2_with fail
    go_ret
    exact ⟨rfl, HZ.out⟩
  have a0 := HX1.out.cell 0 (by simp)
  have a1 := HX1.out.cell 1 (by simp)
  have a2 := HX1.out.cell 2 (by simp)
  go_wp2_with fail
  refine (HON.out w1).mono ?_
  rintro e w2 ⟨rfl, hb⟩
  have HB2 := Lib.hid (HB1.out.trans (hb.mono HB1.out.size))
  have HX2 := Lib.hid (HX1.out.next hb)
  have HR2 := Lib.hid (HR1.out.next hb)
  clear hb a0 a1 a2
  rcases ob with _ | _
  rotate_left
  · go_wp2_with fail
    refine (HLV.out w2 HB2.out).mono ?_
    rintro e wz ⟨rfl, hb⟩
    have HZ := Lib.hid (HB2.out.trans (hb.mono HB2.out.size))
    clear hb
    go_wp2_with fail
    go_ret
    exact ⟨rfl, HZ.out⟩
  have b0 := HR2.out.cell 0 (by simp)
  have b1 := HR2.out.cell 1 (by simp)
  have b2 := HR2.out.cell 2 (by simp)
  have b3 := HR2.out.cell 3 (by simp)
  have b4 := HR2.out.cell 4 (by simp)
  have b5 := HR2.out.cell 5 (by simp)
  go_wp2_with fail
  refine (HCK.out w2 HB2.out).mono ?_
  rintro e w3 ⟨rfl, hb⟩
  have HB3 := Lib.hid (HB2.out.trans (hb.mono HB2.out.size))
  have HX3 := Lib.hid (HX2.out.next hb)
  have HR3 := Lib.hid (HR2.out.next hb)
  clear hb b0 b1 b2 b3 b4 b5
  rcases kb with _ | _
  · go_wp2_with fail
    refine (HLV.out w3 HB3.out).mono ?_
    rintro e wz ⟨rfl, hb⟩
    have HZ := Lib.hid (HB3.out.trans (hb.mono HB3.out.size))
    clear hb
    go_wp2_with fail
    go_ret
    exact ⟨rfl, HZ.out⟩
  obtain ⟨n, rfl⟩ := Int.eq_ofNat_of_zero_le (show 0 ≤ times by omega)
  have hn : n ≤ 1500 := by omega
  have hmk := run_makeNl n hn
  clear h0 h1
  have hGP : P + 1 < w3.heap.size := HR3.out.lt
  have hG0 := Blk.new w3 56 (ncells (fillL ⟨0, 0, 0⟩ 0 n))
  have hP4 := HX3.out.alloc (.cells (ncells (fillL ⟨0, 0, 0⟩ 0 n)).toArray 56)
  have hR4 := HR3.out.alloc (.cells (ncells (fillL ⟨0, 0, 0⟩ 0 n)).toArray 56)
  have HPG := Lib.hid (show w.heap.size ≤ P ∧ P + 1 < w3.heap.size from ⟨by rw [HPE.out]; exact Nat.le_refl _, hGP⟩)
  have hB4 := HB3.out.alloc HB3.out.size (.cells (ncells (fillL ⟨0, 0, 0⟩ 0 n)).toArray 56)
  obtain ⟨G, hG⟩ : ∃ G, w3.heap.size = G := ⟨_, rfl⟩
  rw [hG] at hG0 HPG
  have HG0 := Lib.hid hG0
  have HP4 := Lib.hid hP4
  have HR4 := Lib.hid hR4
  have HB4 := Lib.hid hB4
  have HGE := Lib.hid hG
  clear hG0 hP4 hR4 hB4 hG hGP
  go_wp2_with fail
  rw [HGE.out]
  go_loopw [12] (fun i wr => ∃ k : Nat, i = .int .i64 k ∧ k ≤ n ∧ Blk wr G 56 (ncells (fillL ⟨xi, xa, xl⟩ k (n - k))) ∧ Below w.heap.size w wr ∧ Blk wr P 56 [.int .i64 xi, .int .u32 xa, .int .i64 xl] ∧ Blk wr (P + 1) 27 [.int .i64 origin, .slice pp pn pc, .int .u32 next, .int .i64 med, .int .i64 pref, .slice cp cn cc]) (fun i _ => n - (intOf i).toNat)
  case atStart => exact ⟨0, rfl, Nat.zero_le _, by have := HG0.out; simpa [fillL] using this, HB4.out, HP4.out, HR4.out⟩
  case round =>
    obtain ⟨k, rfl, hk, hGr, hBr, hPr, hRr⟩ := hrel
    have HGr := Lib.hid hGr
    have HBr := Lib.hid hBr
    have HPr := Lib.hid hPr
    have HRr := Lib.hid hRr
    by_cases hlt : k < n
    · have hlt' : (k : Int) < (n : Int) := by omega
      have k0 : (0 : Int) ≤ (k : Int) := by omega
      obtain ⟨m, rfl⟩ : ∃ m, n = k + (m + 1) := ⟨n - k - 1, by omega⟩
      have hlen : (ncells (fillL ⟨xi, xa, xl⟩ k (k + (m + 1) - k))).length = (k + (m + 1)) * 3 := by rw [ncells_len]; simp [fillL]
      have c0 := hPr.cell 0 (by simp)
      have c1 := hPr.cell 1 (by simp)
      have c2 := hPr.cell 2 (by simp)
      obtain ⟨vs, hvs⟩ : ∃ vs, ncells (fillL ⟨xi, xa, xl⟩ k (k + (m + 1) - k)) = vs := ⟨_, rfl⟩
      rw [hvs] at hGr hlen
      have s0 := hGr.cell (k * 3) (by omega)
      have f0 := hGr.f (k * 3)
      have h1 := hGr.set (k * 3) (.int .i64 xi)
      have s1 := h1.cell (k * 3 + 1) (by rw [List.length_set]; omega)
      have f1 := h1.f (k * 3 + 1)
      have h2 := h1.set (k * 3 + 1) (.int .u32 xa)
      have s2 := h2.cell (k * 3 + 2) (by rw [List.length_set, List.length_set]; omega)
      have f2 := h2.f (k * 3 + 2)
      have H3 := Lib.hid (h2.set (k * 3 + 2) (.int .i64 xl))
      have HVS := Lib.hid hvs
      have e4 : IntKind.i64.wrap ((k : Int) + 1) = (k : Int) + 1 := by rw [IntKind.wrap_i64]; omega
      obtain ⟨v0, hv0⟩ : ∃ v, vs.getD (k * 3) undef = v := ⟨_, rfl⟩
      obtain ⟨v1, hv1⟩ : ∃ v, (vs.set (k * 3) (.int .i64 xi)).getD (k * 3 + 1) undef = v := ⟨_, rfl⟩
      obtain ⟨v2, hv2⟩ : ∃ v, ((vs.set (k * 3) (.int .i64 xi)).set (k * 3 + 1) (.int .u32 xa)).getD (k * 3 + 2) undef = v := ⟨_, rfl⟩
      rw [hv0] at s0
      rw [hv1] at s1
      rw [hv2] at s2
      clear hGr hBr hPr hRr h1 h2 hvs hv0 hv1 hv2 hlen HGr
      go_wp2_with fail
      go_roundw
      case rel =>
        refine ⟨k + 1, by first | rfl | go_num, by omega, ?_, ?_, ?_, ?_⟩
        · have h3 := H3.out
          rw [← HVS.out, show k + (m + 1) - k = m + 1 by omega] at h3
          rw [show k + (m + 1) - (k + 1) = m by omega, ← fill_set ⟨xi, xa, xl⟩ k m]
          exact h3
        · have hg : w.heap.size ≤ G := by have := HPG.out; omega
          exact ((HBr.out.setCell hg _).setCell hg _).setCell hg _
        · have hg : P ≠ G := by have := HPG.out; omega
          exact ((HPr.out.setOther hg _).setOther hg _).setOther hg _
        · have hg : P + 1 ≠ G := by have := HPG.out; omega
          exact ((HRr.out.setOther hg _).setOther hg _).setOther hg _
      case measure => simp [intOf]; omega
    · obtain rfl : k = n := by omega
      clear hGr hBr hPr hRr
      obtain ⟨m, hm⟩ : ∃ m, (putA ⟨origin, path, next, med, pref, comms⟩ four).length = m := ⟨_, rfl⟩
      obtain ⟨sz, hsz⟩ : ∃ sz, (nlL paths ⟨xi, xa, xl⟩).length = sz := ⟨_, rfl⟩
      have hm1 := putA_le HKB.out
      have hs0 := nlL_pos2 paths ⟨xi, xa, xl⟩
      have hs1 := nlL_le paths ⟨xi, xa, xl⟩
      rw [hsz] at hs0 hs1
      rw [hm] at hm1
      have HPT := Lib.hid (fun (U : World) (hU : Below wr.heap.size wr U) => rputA_any origin next med pref path comms pp cp pn pc cn cc four U (HAA.out.below (HBr.out.trans (hU.mono HBr.out.size))) HKB.out)
      rw [hm] at HPT
      have HBY := Lib.hid (fun (U : World) => rbytes_any ⟨xi, xa, xl⟩ paths sz U HAD.out HOB.out hsz)
      obtain ⟨L, hL⟩ : ∃ L, 4073 - m = L := ⟨_, rfl⟩
      obtain ⟨q, hq⟩ : ∃ q, L / sz = q := ⟨_, rfl⟩
      have hqL : q ≤ L := by rw [← hq]; exact Nat.div_le_self _ _
      have hL1 : L ≤ 4073 := by omega
      have e1 : IntKind.i64.wrap (4073 - (m : Int)) = (L : Int) := by rw [IntKind.wrap_i64]; omega
      have e3 : ((sz : Int) == 0) = false := by simp; omega
      have e6 : Int.tdiv (L : Int) (sz : Int) = (q : Int) := by rw [← hq]; rfl
      have e7 : IntKind.i64.wrap (q : Int) = (q : Int) := by rw [IntKind.wrap_i64]; omega
      have HM := Lib.hid hm
      have HSZ := Lib.hid hsz
      have HL := Lib.hid hL
      have HQ := Lib.hid hq
      clear hm hsz hL hq hm1
      go_wp2_with fail
      have HSV := Lib.hid (fun (u : World) (hu : Below wr.heap.size wr u) => big_boxes (HPr.out.next hu) (HRr.out.next hu))
      have hS : wr.drew.cell? ⟨P, 0, none⟩ = some (.int .i64 xi) ∧ wr.drew.cell? ⟨P, 1, none⟩ = some (.int .u32 xa) ∧ wr.drew.cell? ⟨P, 2, none⟩ = some (.int .i64 xl) ∧ wr.drew.cell? ⟨P + 1, 0, none⟩ = some (.int .i64 origin) ∧ wr.drew.cell? ⟨P + 1, 1, none⟩ = some (.slice pp pn pc) ∧ wr.drew.cell? ⟨P + 1, 2, none⟩ = some (.int .u32 next) ∧ wr.drew.cell? ⟨P + 1, 3, none⟩ = some (.int .i64 med) ∧ wr.drew.cell? ⟨P + 1, 4, none⟩ = some (.int .i64 pref) ∧ wr.drew.cell? ⟨P + 1, 5, none⟩ = some (.slice cp cn cc) := HSV.out _ (Below.refl _ _).drew
      have P0 := Lib.hid (HPT.out wr.drew (Below.refl _ _).drew)
      go_region_held_law (fun w' => w'.cell? ⟨P, 0, none⟩ = some (.int .i64 xi) ∧ w'.cell? ⟨P, 1, none⟩ = some (.int .u32 xa) ∧ w'.cell? ⟨P, 2, none⟩ = some (.int .i64 xl) ∧ w'.cell? ⟨P + 1, 0, none⟩ = some (.int .i64 origin) ∧ w'.cell? ⟨P + 1, 1, none⟩ = some (.slice pp pn pc) ∧ w'.cell? ⟨P + 1, 2, none⟩ = some (.int .u32 next) ∧ w'.cell? ⟨P + 1, 3, none⟩ = some (.int .i64 med) ∧ w'.cell? ⟨P + 1, 4, none⟩ = some (.int .i64 pref) ∧ w'.cell? ⟨P + 1, 5, none⟩ = some (.slice cp cn cc)) (with_reducible assumption) (first
        | (go_at_call 23; refine P0.out.mono ?_; rintro e u1 ⟨q1, k1, rfl, _, hu⟩; have h1 := (Below.refl wr.heap.size wr).drew.trans hu; have hS1 := HSV.out u1 h1; have P1 := Lib.hid (HBY.out u1))
        | (go_at_call 24; refine P1.out.mono ?_; rintro e u2 ⟨q2, k2, rfl, _, hu⟩; have h2 := h1.trans (hu.mono h1.size); have hS2 := HSV.out u2 h2))
      have HF := Lib.hid (fun (U : World) (hU : Below wr.heap.size wr U) => fit_any ⟨origin, path, next, med, pref, comms⟩ ⟨pp, pn, pc, cp, cn, cc⟩ ⟨xi, xa, xl⟩ (some ⟨G, 0, none⟩) k k four paths U (HT.out.below (HBr.out.trans (hU.mono HBr.out.size))) (HAA.out.below (HBr.out.trans (hU.mono HBr.out.size))) HKB.out (by
          have h := nls_blk (HGr.out.next hU) (fun y hy => by
            simp [fillL] at hy
            rw [hy.2]; exact HAD.out)
          simpa [fillL] using h) (by omega) (by rw [sizeN_ok HOB.out, HSZ.out]; exact hs0))
      obtain ⟨f, hf⟩ : ∃ f, fitV k L sz = f := ⟨_, rfl⟩
      rw [sizeN_ok HOB.out, HSZ.out, HM.out, HL.out, hf] at HF
      have hfq : f = min k (min q 1024) := by rw [← hf]; unfold fitV; rw [HQ.out]
      have HFQ := Lib.hid hfq
      have HH2 := Lib.hid h2
      clear hf hfq h1 h2 hS hS1 hS2 P0 P1 HPT HBY HPr HRr HGr
      by_cases hq4 : 1024 < q
      · have g2 : decide ((1024 : Int) < (q : Int)) = true := decide_eq_true (by omega)
        by_cases hk4 : k < 1024
        · have g3 : decide ((k : Int) < 1024) = true := decide_eq_true (by omega)
          have HFV := Lib.hid (show f = k by have := HFQ.out; omega)
          go_wp2_with fail
          refine (HLV.out u2 (HBr.out.trans (HH2.out.mono HBr.out.size))).mono ?_
          rintro e u3 ⟨rfl, hu⟩
          have HH3 := Lib.hid (HH2.out.trans (hu.mono HH2.out.size))
          clear hu
          obtain ⟨c0, c1, c2, d0, d1, d2, d3, d4, d5⟩ := HSV.out u3 HH3.out
          go_wp2_with fail
          refine (HF.out u3 HH3.out).mono ?_
          rintro e u4 ⟨he, hu⟩
          rw [HFV.out] at he
          subst he
          have HH4 := Lib.hid (HBr.out.trans ((HH3.out.trans (hu.mono HH3.out.size)).mono HBr.out.size))
          clear hu c0 c1 c2 d0 d1 d2 d3 d4 d5
          go_wp2_with fail
          go_ret
          exact ⟨by simp, HH4.out⟩
        · have g3 : decide ((k : Int) < 1024) = false := decide_eq_false (by omega)
          have HFV := Lib.hid (show f = 1024 by have := HFQ.out; omega)
          go_wp2_with fail
          refine (HLV.out u2 (HBr.out.trans (HH2.out.mono HBr.out.size))).mono ?_
          rintro e u3 ⟨rfl, hu⟩
          have HH3 := Lib.hid (HH2.out.trans (hu.mono HH2.out.size))
          clear hu
          obtain ⟨c0, c1, c2, d0, d1, d2, d3, d4, d5⟩ := HSV.out u3 HH3.out
          go_wp2_with fail
          refine (HF.out u3 HH3.out).mono ?_
          rintro e u4 ⟨he, hu⟩
          rw [HFV.out] at he
          subst he
          have HH4 := Lib.hid (HBr.out.trans ((HH3.out.trans (hu.mono HH3.out.size)).mono HBr.out.size))
          clear hu c0 c1 c2 d0 d1 d2 d3 d4 d5
          go_wp2_with fail
          go_ret
          exact ⟨by simp, HH4.out⟩
      · have g2 : decide ((1024 : Int) < (q : Int)) = false := decide_eq_false (by omega)
        by_cases hk4 : k < q
        · have g3 : decide ((k : Int) < (q : Int)) = true := decide_eq_true (by omega)
          have HFV := Lib.hid (show f = k by have := HFQ.out; omega)
          go_wp2_with fail
          refine (HLV.out u2 (HBr.out.trans (HH2.out.mono HBr.out.size))).mono ?_
          rintro e u3 ⟨rfl, hu⟩
          have HH3 := Lib.hid (HH2.out.trans (hu.mono HH2.out.size))
          clear hu
          obtain ⟨c0, c1, c2, d0, d1, d2, d3, d4, d5⟩ := HSV.out u3 HH3.out
          go_wp2_with fail
          refine (HF.out u3 HH3.out).mono ?_
          rintro e u4 ⟨he, hu⟩
          rw [HFV.out] at he
          subst he
          have HH4 := Lib.hid (HBr.out.trans ((HH3.out.trans (hu.mono HH3.out.size)).mono HBr.out.size))
          clear hu c0 c1 c2 d0 d1 d2 d3 d4 d5
          go_wp2_with fail
          go_ret
          exact ⟨by simp, HH4.out⟩
        · have g3 : decide ((k : Int) < (q : Int)) = false := decide_eq_false (by omega)
          have HFV := Lib.hid (show f = q by have := HFQ.out; omega)
          go_wp2_with fail
          refine (HLV.out u2 (HBr.out.trans (HH2.out.mono HBr.out.size))).mono ?_
          rintro e u3 ⟨rfl, hu⟩
          have HH3 := Lib.hid (HH2.out.trans (hu.mono HH2.out.size))
          clear hu
          obtain ⟨c0, c1, c2, d0, d1, d2, d3, d4, d5⟩ := HSV.out u3 HH3.out
          go_wp2_with fail
          refine (HF.out u3 HH3.out).mono ?_
          rintro e u4 ⟨he, hu⟩
          rw [HFV.out] at he
          subst he
          have HH4 := Lib.hid (HBr.out.trans ((HH3.out.trans (hu.mono HH3.out.size)).mono HBr.out.size))
          clear hu c0 c1 c2 d0 d1 d2 d3 d4 d5
          go_wp2_with fail
          go_ret
          exact ⟨by simp, HH4.out⟩
end Go.Proofs.YtdeimfcefbbclaaDoor.Ax
