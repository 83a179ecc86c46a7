/- trie: the law's lives returns true. -/
import Derived.Test.YtipecocalmmmbaaTV
namespace Go.Proofs.Ytipecocalmmmbaa
open Go.RowKit
set_option linter.unusedVariables false
set_option linter.unusedSimpArgs false

set_option maxRecDepth 100000 in
set_option maxHeartbeats 16000000 in
theorem lives_any (w : World) :
    Calls Try.prog 9 #[] w fun e w' => e = .returned (.bool true) ∧ Below w.heap.size w w' := by
  obtain ⟨t, ht⟩ : ∃ t, w.heap.size + 1 = t := ⟨_, rfl⟩
  obtain ⟨A, hA⟩ : ∃ A, A = t + 1 := ⟨_, rfl⟩
  obtain ⟨V, hV⟩ : ∃ V, ((w.alloc (.cells #[.pointer none, .pointer none, .pointer none] NDs)).alloc (.cells #[.pointer (some ⟨w.heap.size, 0, none⟩), .int .i64 0] TRs)) = V := ⟨_, rfl⟩
  obtain ⟨V2, hV2⟩ : ∃ V2, (V.alloc (.cells #[.int .u32 167772160, .int .i64 8] 32)).alloc (.cells #[.int .u32 167837696, .int .i64 16] 32) = V2 := ⟨_, rfl⟩
  have hVs : V.heap.size = A := by rw [← hV, sz_alloc, sz_alloc, ht, hA]
  have HL0 := Lib.hid (show LvT w V2 t w.heap.size A (N0 w.heap.size) [] from by
    have h0 := TrAt.new (TR := TRs) (ND := NDs) (TH := THs) ne_str w w.heap.size (Nat.le_refl _)
    rw [hV, ht] at h0
    have hb : Below V.heap.size V V2 := by rw [← hV2]; exact two_below _ _ _
    refine ⟨h0.below hb, ?_, ?_, ?_⟩
    · rw [← hV2, ← hVs]; exact (Blk.new V 32 [.int .u32 167772160, .int .i64 8]).alloc _
    · have := Blk.new (V.alloc (.cells #[.int .u32 167772160, .int .i64 8] 32)) 32 [.int .u32 167837696, .int .i64 16]
      rw [sz_alloc, hVs] at this
      rw [← hV2]; exact this
    · have hb0 : Below w.heap.size w V := by rw [← hV]; exact two_below _ _ _
      exact hb0.trans (hb.mono hb0.size))
  have HNEW := Lib.hid (new_str w)
  have HV := Lib.hid hV
  have HV2 := Lib.hid hV2
  have HT := Lib.hid ht
  have HVS := Lib.hid hVs
  have HA := Lib.hid hA
  clear hV hV2 ht hVs hA
  go_enter Try.func9, Try.ntmps9
  go_wp2_with fail
  refine HNEW.out.mono ?_
  rintro e w1 ⟨rfl, rfl⟩
  rw [HV.out, HT.out]
  go_wp2_with fail
  rw [HV2.out, HVS.out]
  have HLd := Lib.hid (show LvT w V2.drew t w.heap.size A (N0 w.heap.size) [] from HL0.out.below (Below.refl _ _).drew)
  have hS := HLd.out.cells
  go_region_held_law (fun w' => w'.cell? ⟨A, 0, none⟩ = some (.int .u32 167772160) ∧ w'.cell? ⟨A, 1, none⟩ = some (.int .i64 8) ∧ w'.cell? ⟨A + 1, 0, none⟩ = some (.int .u32 167837696) ∧ w'.cell? ⟨A + 1, 1, none⟩ = some (.int .i64 16)) (with_reducible assumption) (first
    | (go_at_call 29; with_reducible refine (setL1 HLd.out).mono ?_; rintro e w2 ⟨N1, g, rfl, h1⟩; have HL1 := Lib.hid h1; have hS1 := HL1.out.cells; clear h1)
    | (go_at_call 29; with_reducible refine (setL2 HL1.out).mono ?_; rintro e w3 ⟨N2, g', rfl, h2⟩; have HL2 := Lib.hid h2; have hS2 := HL2.out.cells; clear h2)
    | (go_at_call 29; with_reducible refine (setL3 HL2.out).mono ?_; rintro e w4 ⟨rfl, h3⟩; have HL3 := Lib.hid h3; have hS3 := HL3.out.cells; clear h3))
  clear hS hS1 hS2 hS3
  go_wp2_with fail
  with_reducible refine (longL HL3.out).mono ?_
  rintro e w5 ⟨rfl, h5⟩
  have HL5 := Lib.hid (h5.below (newB w5 (.cells #[.int .u32 167837696, .int .i64 16] 32)))
  have hP5 := Blk.new w5 32 [.int .u32 167837696, .int .i64 16]
  have hS5 := HL5.out.cells
  clear h5
  go_wp2_with fail
  obtain ⟨V5, hV5⟩ : ∃ V, w5.alloc (.cells #[.int .u32 167837696, .int .i64 16] 32) = V := ⟨_, rfl⟩
  obtain ⟨Q, hQ⟩ : ∃ Q, w5.heap.size = Q := ⟨_, rfl⟩
  rw [hV5, hQ] at hP5
  rw [hV5] at HL5 hS5
  rw [hV5, hQ]
  have HP5 := Lib.hid hP5
  clear hV5 hQ hP5 hS5
  with_reducible refine (withinL HL5.out (by simp) 167772160 8 (by omega) (by omega) [(167772160, 8), (167837696, 16)] (by rw [wA]; exact keysAB _ _)).mono ?_
  rintro e w6 ⟨qa, ca, rfl, ha, h6, hb6⟩
  have HB6 := Lib.hid hb6
  clear hb6
  have HL6 := Lib.hid h6
  have HPA := Lib.hid ha
  have HP6 : Hid (Blk w6 Q 32 [.int .u32 167837696, .int .i64 16]) := Lib.hid (HP5.out.of_same (HB6.out.block _ HP5.out.lt))
  have hS6 := HL6.out.cells
  clear h6 ha
  go_wp2_with fail
  with_reducible refine (withinL HL6.out (by simp) 167837696 16 (by omega) (by omega) [(167837696, 16)] (by rw [wB]; exact keysB _)).mono ?_
  rintro e w7 ⟨qb, cb, rfl, hb, h7, hb7⟩
  have HL7 := Lib.hid h7
  have HPB := Lib.hid hb
  have HPA7 := Lib.hid (HPA.out.below hb7)
  have HP7 : Hid (Blk w7 Q 32 [.int .u32 167837696, .int .i64 16]) := Lib.hid (HP6.out.of_same (hb7.block _ HP6.out.lt))
  have hS7 := HL7.out.cells
  clear h7 hb hb7 hS6
  go_wp2_with fail
  with_reducible refine (getL HL7.out).mono ?_
  rintro e w8 ⟨rfl, h8, hb8⟩
  have HLd8 := Lib.hid (show LvT w w8.drew t w.heap.size A _ _ from h8.below (Below.refl _ _).drew)
  have hb8d : Below w7.heap.size w7 w8.drew := hb8.drew
  have HPA8 := Lib.hid (HPA7.out.below hb8d)
  have HPB8 := Lib.hid (HPB.out.below hb8d)
  have HP8 : Hid (Blk w8.drew Q 32 [.int .u32 167837696, .int .i64 16]) := Lib.hid (HP7.out.of_same (hb8d.block _ HP7.out.lt))
  have hS8 := HLd8.out.cells
  have hS8' := h8.cells
  clear h8 hb8 hb8d hS7
  go_wp2_with fail
  go_region_held_law (fun w' => w'.cell? ⟨A, 0, none⟩ = some (.int .u32 167772160) ∧ w'.cell? ⟨A, 1, none⟩ = some (.int .i64 8) ∧ w'.cell? ⟨A + 1, 0, none⟩ = some (.int .u32 167837696) ∧ w'.cell? ⟨A + 1, 1, none⟩ = some (.int .i64 16)) (with_reducible assumption) (first
    | (go_at_call 33; with_reducible refine (delL1 HLd8.out).mono ?_; rintro e w9 ⟨N3, rfl, h9, t9⟩; have HL9 := Lib.hid h9; have HPA9 := Lib.hid (HPA8.out.turn HLd8.out t9); have HPB9 := Lib.hid (HPB8.out.turn HLd8.out t9); have HP9 := Lib.hid (HP8.out.of_same (t9.block _ HP8.out.lt (pfx_out HLd8.out.tr HP8.out))); have hS9 := HL9.out.cells; clear h9 t9)
    | (go_at_call 33; with_reducible refine (delL2 HL9.out).mono ?_; rintro e wa ⟨N4, rfl, ha, ta⟩; have HLa := Lib.hid ha; have HPAa := Lib.hid (HPA9.out.turn HL9.out ta); have HPBa := Lib.hid (HPB9.out.turn HL9.out ta); have HPa := Lib.hid (HP9.out.of_same (ta.block _ HP9.out.lt (pfx_out HL9.out.tr HP9.out))); have hSa := HLa.out.cells; clear ha ta))
  clear hS8 hS8' hS9
  have Qa0 : wa.cell? ⟨Q, 0, none⟩ = some (.int .u32 167837696) := HPa.out.cell 0 (by simp)
  have Qa1 : wa.cell? ⟨Q, 1, none⟩ = some (.int .i64 16) := HPa.out.cell 1 (by simp)
  have hE := fun (U : World) => pfx_eql 167837696 16 167837696 16 U
  rw [show ((167837696 : Int) == 167837696 && (16 : Int) == 16) = true from by decide] at hE
  have hEG := fun (op : BinOp) (x y : Operand) (xs ys : Array Value) (U : World) => pfx_eqGuard op x y xs ys U
  go_wp2_with fail
  refine (same_any (wa.alloc (.cells #[.int .u32 167772160, .int .i64 8, .int .u32 167837696, .int .i64 16] 32)) qa (some ⟨wa.heap.size, 0, none⟩) [(167772160, 8), (167837696, 16)] [(167772160, 8), (167837696, 16)] 2 2 ca 2 (HPAa.out.pat.below (newB _ _)) (pat_two _ _ _ _ _) rfl rfl (by omega) (by omega)).mono ?_
  rw [show sameB [(167772160, 8), (167837696, 16)] [(167772160, 8), (167837696, 16)] = true from by decide]
  rintro e wb ⟨rfl, hbb⟩
  have hbb2 := (newB wa (.cells #[.int .u32 167772160, .int .i64 8, .int .u32 167837696, .int .i64 16] 32)).trans (hbb.mono (by simp))
  have HLb := Lib.hid (HLa.out.below hbb2)
  have HPBb := Lib.hid (HPBa.out.below hbb2)
  have hSb := HLb.out.cells
  clear hbb hbb2 hSa Qa0 Qa1
  go_wp2_with fail
  refine (same_any (wb.alloc (.cells #[.int .u32 167837696, .int .i64 16] 32)) qb (some ⟨wb.heap.size, 0, none⟩) [(167837696, 16)] [(167837696, 16)] 1 1 cb 1 (HPBb.out.pat.below (newB _ _)) (pat_one _ _ _) rfl rfl (by omega) (by omega)).mono ?_
  rw [show sameB [(167837696, 16)] [(167837696, 16)] = true from by decide]
  rintro e wc ⟨rfl, hbc⟩
  have HLc := Lib.hid (HLb.out.below ((newB wb (.cells #[.int .u32 167837696, .int .i64 16] 32)).trans (hbc.mono (by simp))))
  clear hbc hSb
  go_wp2_with fail
  with_reducible refine (lenL HLc.out).mono ?_
  rintro e wx ⟨rfl, rfl⟩
  go_wp2_with fail
  with_reducible refine (prefixesL HLc.out).mono ?_
  rintro e wd ⟨qq, cq, rfl, hbd⟩
  have HE := Lib.hid ((HLc.out.below hbd).bel)
  clear hbd
  go_wp2_with fail
  go_ret
  exact ⟨rfl, HE.out⟩
end Go.Proofs.Ytipecocalmmmbaa
