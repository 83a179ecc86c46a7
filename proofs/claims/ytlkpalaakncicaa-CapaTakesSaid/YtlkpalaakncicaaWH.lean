/- hop: the answer's Check. -/
import Derived.Test.YtlkpalaakncicaaWC
namespace Go.Proofs.Ytlkpalaakncicaa
open Go.RowKit
set_option linter.unusedVariables false
set_option linter.unusedSimpArgs false
set_option maxRecDepth 100000

/-- Two interfaces that may not stand together. -/
def clash (y x : Ifc) : Bool := y.id == x.id || (y.r == x.r && (y.a == x.a && y.n == x.n))
def fineIf (x : Ifc) : Bool := decide (0 ≤ x.id) && (decide (x.id ≤ 4294967295) && (decide (0 ≤ x.r) && (decide (x.r ≤ 15) && (okP x.a x.n && (decide (0 ≤ x.c) && decide (x.c ≤ 9007199254740991))))))
def apartI (acc : List Ifc) (x : Ifc) : Bool := acc.all fun y => !clash y x
theorem okIf_fine (acc : List Ifc) (x : Ifc) : okIf acc x = (fineIf x && apartI acc x) := by
  rw [Bool.eq_iff_iff]
  unfold okIf fineIf apartI isR byId byNet clash
  simp only [Bool.and_eq_true, Bool.not_eq_true', decide_eq_true_eq, List.all_eq_true, Bool.or_eq_false_iff, Option.isSome_eq_false_iff, Option.isNone_iff_eq_none, List.find?_eq_none, Bool.and_eq_false_iff, beq_eq_false_iff_ne, ne_eq, not_and]
  constructor
  · rintro ⟨h1, h2, h3, ⟨h4, h5⟩, h6, h7, h8, h9⟩
    refine ⟨⟨h2, h3, h4, by omega, h9, h6, h7⟩, fun y hy => ⟨h1 y hy, ?_⟩⟩
    have := h8 y hy
    by_cases e1 : y.r = x.r
    · by_cases e2 : y.a = x.a
      · exact .inr (.inr (this e1 e2))
      · exact .inr (.inl e2)
    · exact .inl e1
  · rintro ⟨⟨h2, h3, h4, h5, h9, h6, h7⟩, hc⟩
    refine ⟨fun y hy => (hc y hy).1, h2, h3, ⟨h4, by omega⟩, h6, h7, fun y hy e1 e2 e3 => ?_, h9⟩
    rcases (hc y hy).2 with h | h | h
    · exact h e1
    · exact h e2
    · exact h e3
theorem apartI_step (l : List Ifc) (k : Nat) (x : Ifc) (hk : k < l.length) : apartI (l.drop k) x = (!clash (l.getD k Ifc.zero) x && apartI (l.drop (k + 1)) x) := by
  unfold apartI
  rw [List.drop_eq_getElem_cons hk, List.all_cons, show l.getD k Ifc.zero = l[k] by simp [List.getD, hk]]
set_option maxHeartbeats 8000000 in
theorem rcheckI_any (p : Option Addr) (l : List Ifc) (n c : Nat) (w : World) (hl : IfsAt w p l) (hn : l.length = n) (hm : n ≤ maxLen) :
    Calls Try.prog 9 #[.slice p n c] w fun e w' => e = .returned (.bool (okIfs l)) ∧ Below w.heap.size w w' := by
  unfold maxLen at hm
  have HL := Lib.hid hl
  have HN := Lib.hid hn
  have HOK := Lib.hid (show okIfs l = (decide (n ≤ 256) && okFrom [] l) by unfold okIfs; rw [hn])
  clear hl hn
  go_enter Try.func9, Try.ntmps9
  go_wp2_with fail
  go_loopw [3] (fun i wr => ∃ k : Nat, k ≤ n ∧ i = .int .i64 k ∧ okFrom [] l = okFrom (l.take k) (l.drop k) ∧ Below w.heap.size w wr) (fun i _ => n - (intOf i).toNat)
  case atStart => exact ⟨0, Nat.zero_le _, rfl, by simp, Below.refl _ _⟩
  case round =>
    obtain ⟨k, hk, rfl, hokf, hB⟩ := hrel
    have HB := Lib.hid hB
    by_cases hlt : k < n
    · obtain ⟨b, off, rfl, c0, c1, c2, c3, c4⟩ := if_cell (HL.out.below HB.out) HN.out hlt
      have hkl : k < l.length := by rw [HN.out]; exact hlt
      have hst := okFrom_step l k hkl
      have hmem : l.getD k Ifc.zero ∈ l := by simp [List.getD, hkl]
      have hin := HL.out.ok _ hmem
      obtain ⟨x, hx⟩ : ∃ x, l.getD k Ifc.zero = x := ⟨_, rfl⟩
      rw [hx] at c0 c1 c2 c3 c4 hst hin
      obtain ⟨xi, xr, xa, xn, xc⟩ := x
      simp only at c0 c1 c2 c3 c4
      have HST := Lib.hid (hokf.trans hst)
      have hltI : (k : Int) < (n : Int) := by omega
      have hbx := newB wr (.cells #[.int .i64 xi, .int .i64 xr, .int .u32 xa, .int .i64 xn, .int .i64 xc] 34)
      have hBx := Lib.hid (hB.trans (hbx.mono hB.size))
      have HX := Lib.hid (Blk.new wr 34 [.int .i64 xi, .int .i64 xr, .int .u32 xa, .int .i64 xn, .int .i64 xc])
      have HTL := Lib.hid (show (l.take k).length = k by rw [List.length_take]; omega)
      have HNO := Lib.hid (fun (h : ¬(0 ≤ xi ∧ xi ≤ 4294967295 ∧ 0 ≤ xr ∧ xr ≤ 15 ∧ okP xa xn = true ∧ 0 ≤ xc ∧ xc ≤ 9007199254740991)) => show okIfs l = false from by
        rw [HOK.out, HST.out, okIf_fine, show fineIf ⟨xi, xr, xa, xn, xc⟩ = false from by
          rw [Bool.eq_false_iff]
          intro hf
          unfold fineIf at hf
          simp only [Bool.and_eq_true, decide_eq_true_eq] at hf
          exact h hf]
        simp)
      have HAP := Lib.hid (fun (h : apartI (l.take k) ⟨xi, xr, xa, xn, xc⟩ = false) => show okIfs l = false from by
        rw [HOK.out, HST.out, okIf_fine, h]; simp)
      have HGO := Lib.hid (fun (h : 0 ≤ xi ∧ xi ≤ 4294967295 ∧ 0 ≤ xr ∧ xr ≤ 15 ∧ okP xa xn = true ∧ 0 ≤ xc ∧ xc ≤ 9007199254740991) (ha : apartI (l.take k) ⟨xi, xr, xa, xn, xc⟩ = true) => show okFrom [] l = okFrom (l.take (k + 1)) (l.drop (k + 1)) from by
        rw [HST.out, okIf_fine, ha, show fineIf ⟨xi, xr, xa, xn, xc⟩ = true from by
          unfold fineIf
          simp only [Bool.and_eq_true, decide_eq_true_eq]
          exact h]
        rfl)
      have HC := Lib.hid (rcheck_any xa xn (wr.alloc (.cells #[.int .i64 xi, .int .i64 xr, .int .u32 xa, .int .i64 xn, .int .i64 xc] 34)) hin.a0 hin.a1)
      clear hokf hst hB hmem hx hkl hbx hin
      go_wp2_with fail
      rotate_left
      iterate 4
        · go_ret
          exact ⟨by rw [HNO.out (fun h => by obtain ⟨h1, h2, h3, h4, _⟩ := h; omega)]; rfl, hBx.out⟩
      refine HC.out.mono ?_
      rintro e w1 ⟨rfl, hb⟩
      have HB1 := Lib.hid (hBx.out.trans (hb.mono hBx.out.size))
      have HX1 := Lib.hid (HX.out.next hb)
      clear hb HC HX c0 c1 c2 c3 c4
      obtain ⟨x0, x1, x2, x3, x4⟩ := if_boxes HX1.out
      obtain ⟨o, ho⟩ : ∃ o, okP xa xn = o := ⟨_, rfl⟩
      rw [ho]
      rcases o with _ | _
      · go_wp2_with fail
        go_ret
        exact ⟨by rw [HNO.out (fun h => by obtain ⟨h1, h2, h3, h4, h5, _⟩ := h; rw [ho] at h5; cases h5)]; rfl, HB1.out⟩
      · have HO := Lib.hid ho
        clear ho
        go_wp2_with fail
        · go_ret
          exact ⟨by rw [HNO.out (fun h => by obtain ⟨h1, h2, h3, h4, _, h6, h7⟩ := h; omega)]; rfl, HB1.out⟩
        rotate_left
        · go_ret
          exact ⟨by rw [HNO.out (fun h => by obtain ⟨h1, h2, h3, h4, _, h6, h7⟩ := h; omega)]; rfl, HB1.out⟩
        rename_i _ hrng
        have HGO2 := Lib.hid (HGO.out ⟨by omega, by omega, by omega, by omega, HO.out, by omega, by omega⟩)
        clear hrng HGO HNO HO x0 x1 x2 x3 x4
        obtain ⟨P, hP⟩ : ∃ P, wr.heap.size = P := ⟨_, rfl⟩
        rw [hP] at HX1 ⊢
        clear hP
        go_loopw [5] (fun v wr => ∃ j : Nat, j ≤ k ∧ v = .int .i64 j ∧ apartI (l.take k) ⟨xi, xr, xa, xn, xc⟩ = apartI ((l.take k).drop j) ⟨xi, xr, xa, xn, xc⟩ ∧ Below w1.heap.size w1 wr) (fun v _ => k - (intOf v).toNat)
        case atStart => exact ⟨0, Nat.zero_le _, rfl, by simp, Below.refl _ _⟩
        case round =>
          obtain ⟨j, hj, rfl, hap, hB⟩ := hrel
          have HB2 := Lib.hid (HB1.out.trans (hB.mono HB1.out.size))
          by_cases hjk : j < k
          · have hjn : j < n := by omega
            obtain ⟨b', off', hbo, c0, c1, c2, c3, c4⟩ := if_cell (HL.out.below HB2.out) HN.out hjn
            simp only [Option.some.injEq, Addr.mk.injEq, and_true] at hbo
            obtain ⟨rfl, rfl⟩ := hbo
            have hs := apartI_step (l.take k) j ⟨xi, xr, xa, xn, xc⟩ (by rw [HTL.out]; exact hjk)
            rw [show (l.take k).getD j Ifc.zero = l.getD j Ifc.zero by simp [List.getD, List.getElem?_take_of_lt hjk]] at hs
            obtain ⟨y, hy⟩ : ∃ y, l.getD j Ifc.zero = y := ⟨_, rfl⟩
            rw [hy] at c0 c1 c2 c3 c4 hs
            obtain ⟨yi, yr, ya, yn, yc⟩ := y
            simp only at c0 c1 c2 c3 c4
            have HS := Lib.hid (hap.trans hs)
            obtain ⟨x0, x1, x2, x3, x4⟩ := if_boxes (HX1.out.next hB)
            have hjI : (j : Int) < (k : Int) := by omega
            have hg := pfx_eqGuard
            have hq := pfx_eql ya yn xa xn
            obtain ⟨cq, hcq⟩ : ∃ q, (ya == xa && yn == xn) = q := ⟨_, rfl⟩
            rw [hcq] at hq
            have HCL := Lib.hid (show clash ⟨yi, yr, ya, yn, yc⟩ ⟨xi, xr, xa, xn, xc⟩ = (yi == xi || (yr == xr && cq)) by unfold clash; rw [← hcq])
            have hS : wr.drew.cell? ⟨b, off + j * 5, none⟩ = some (.int .i64 yi) ∧ wr.drew.cell? ⟨b, off + j * 5 + 1, none⟩ = some (.int .i64 yr) ∧ wr.drew.cell? ⟨b, off + j * 5 + 2, none⟩ = some (.int .u32 ya) ∧ wr.drew.cell? ⟨b, off + j * 5 + 3, none⟩ = some (.int .i64 yn) ∧ wr.drew.cell? ⟨P, 0, none⟩ = some (.int .i64 xi) ∧ wr.drew.cell? ⟨P, 1, none⟩ = some (.int .i64 xr) ∧ wr.drew.cell? ⟨P, 2, none⟩ = some (.int .u32 xa) ∧ wr.drew.cell? ⟨P, 3, none⟩ = some (.int .i64 xn) := ⟨c0, c1, c2, c3, x0, x1, x2, x3⟩
            clear hcq hy hs hap
            clear hS
            obtain ⟨s0, s1, s2, s3⟩ := And.intro c0 (And.intro c1 (And.intro c2 c3))
            by_cases e1 : yi = xi
            · have HF := Lib.hid (HAP.out (by rw [HS.out, HCL.out, show (yi == xi) = true by simpa using e1]; rfl))
              have t1 : decide (yi = xi) = true := decide_eq_true e1
              have t1b : (yi == xi) = true := by simpa using e1
              clear e1
              go_wp2_with fail
              go_quiet (fail)
              go_wp2_with fail
              go_ret
              exact ⟨by rw [HF.out]; rfl, HB2.out.trans (below_dN _ _ _)⟩
            · have t1 : decide (yi = xi) = false := decide_eq_false e1
              have t1b : (yi == xi) = false := by simpa using e1
              clear e1
              by_cases e2 : yr = xr
              · have t2 : decide (yr = xr) = true := decide_eq_true e2
                have t2b : (yr == xr) = true := by simpa using e2
                clear e2
                rcases cq with _ | _
                · have HF := Lib.hid (show apartI (l.take k) ⟨xi, xr, xa, xn, xc⟩ = apartI ((l.take k).drop (j + 1)) ⟨xi, xr, xa, xn, xc⟩ by rw [HS.out, HCL.out, t1b, t2b]; rfl)
                  go_wp2_with fail
                  go_quiet (fail)
                  go_wp2_with fail
                  go_roundw
                  case rel => exact ⟨j + 1, by omega, by go_num, HF.out, hB.trans (below_dN _ _ _)⟩
                  case measure => simp [intOf]; omega
                · have HF := Lib.hid (HAP.out (by rw [HS.out, HCL.out, t1b, t2b]; rfl))
                  go_wp2_with fail
                  go_quiet (fail)
                  go_wp2_with fail
                  go_ret
                  exact ⟨by rw [HF.out]; rfl, HB2.out.trans (below_dN _ _ _)⟩
              · have t2 : decide (yr = xr) = false := decide_eq_false e2
                have t2b : (yr == xr) = false := by simpa using e2
                clear e2
                have HF := Lib.hid (show apartI (l.take k) ⟨xi, xr, xa, xn, xc⟩ = apartI ((l.take k).drop (j + 1)) ⟨xi, xr, xa, xn, xc⟩ by rw [HS.out, HCL.out, t1b, t2b]; rfl)
                go_wp2_with fail
                go_quiet (fail)
                go_wp2_with fail
                go_roundw
                case rel => exact ⟨j + 1, by omega, by go_num, HF.out, hB.trans (below_dN _ _ _)⟩
                case measure => simp [intOf]; omega
          · obtain rfl : j = k := by omega
            have HA := Lib.hid (HGO2.out (by rw [hap, List.drop_eq_nil_of_le (by rw [HTL.out]; omega)]; rfl))
            clear hap hB
            go_wp2_with fail
            go_roundw
            case rel => exact ⟨j + 1, by omega, by go_num, HA.out, HB2.out⟩
            case measure => simp [intOf]; omega
    · obtain rfl : k = n := by omega
      have HF := Lib.hid (show okIfs l = decide (k ≤ 256) by rw [HOK.out, hokf, List.drop_eq_nil_of_le (by rw [HN.out]; omega)]; simp [okFrom])
      clear hokf
      go_wp2
      go_ret
      refine ⟨?_, HB.out⟩
      rw [HF.out]
      congr 2
      simp
      omega
end Go.Proofs.Ytlkpalaakncicaa
