/- load: the law's lives. -/
import Derived.Test.YteeihjdkenlebaaE6
import Derived.Test.YteeihjdkenlebaaE9
import Derived.Test.YteeihjdkenlebaaEA
namespace Go.Proofs.Yteeihjdkenlebaa
open Go.RowKit Go.Maps
set_option linter.unusedVariables false
set_option linter.unusedSimpArgs false
set_option maxRecDepth 100000

def lvA : Int → Option Int := fun i => if i = 2 then some 5 else none
def lvB : Int → Option Int := fun i => if i = 1 then some 7 else lvA i
def lvC : Int → Option Int := fun i => if i = 2 then some 6 else lvB i
def lvD : Int → Option Int := fun i => if i = 1 then none else lvC i
def lvP : Int → Option Int := fun i => if i = 4 then some 3 else none
def lvQ : Int → Option Int := fun i => if i = 4 then some 6 else lvP i
theorem lvA_eq : chF add (fun _ => none) 2 5 = lvA := rfl
theorem lvB_eq : chF add lvA 1 7 = lvB := rfl
theorem lvC_eq : chF add lvB 2 1 = lvC := rfl
theorem lvM_eq : chF add lvC (-1) 9 = lvC := rfl
theorem lvD_eq : chF sub lvC 1 9 = lvD := rfl
theorem lvP_eq : chF add (fun _ => none) 4 3 = lvP := rfl
theorem lvQ_eq : chF add lvP 4 3 = lvQ := rfl
theorem lvD_all : AllL lvD [⟨2, 6⟩] := by
  refine ⟨List.pairwise_singleton _ _, fun i v => ?_⟩
  rw [List.mem_singleton]
  unfold lvD lvC lvB lvA
  by_cases h1 : i = 1
  · subst h1
    simp
  · by_cases h2 : i = 2
    · subst h2
      simp [eq_comm]
    · simp [h1, h2]
theorem lvD_wf : ∀ i v, lvD i = some v → (Lit.int .i64 i).wf = true := by
  intro i v h
  have := (lvD_all.mem i v).2 h
  rw [List.mem_singleton] at this
  simp only [Lo.intro.injEq] at this
  obtain ⟨rfl, _⟩ := this
  decide
/-- An option of an interface alone. -/
def ovI (i : Int) : Ov := ⟨0, 0, 0, 0, 0, none, 0, 0, 0, 0, 0, none, 0, 0, i⟩
def wtI (d : Option Addr) (at_ : Int) : Wt := ⟨0, 0, 3, ovI 4, d, 1, 1, at_, [ovI 5]⟩
theorem lv_pr (d : Option Addr) : prS [wtI d (-1), wtI d (-1)] = (lvQ, false) := by
  have e : takenV (wtI d (-1)) = ovI 4 := rfl
  unfold prS
  simp only [List.foldl_cons, List.foldl_nil, e]
  rfl
theorem LdAt.setOther {w : World} {g b n s : Nat} {f : Int → Option Int} {ov : Bool} (h : LdAt w g b n s f ov) {a : Addr} (hg : g ≠ a.block) (hb : b ≠ a.block) (v : Value) : LdAt (w.setCell a v) g b n s f ov := ⟨h.blk.setOther hg v, h.map.of_same (Below.heap_setCell _ _ _ b hb), h.ok⟩
set_option maxHeartbeats 4000000 in
theorem lives21_any (w : World) : Calls Try.prog 9 #[] w fun e w' => e = .returned (.bool true) ∧ Below w.heap.size w w' := by
  go_enter Try.func9, Try.ntmps9
  go_wp2_with fail
  refine (ldnew_any _).mono ?_
  rintro e W0 ⟨g, b, rfl, hl, hB, hg, hb⟩
  obtain ⟨n0, hn0⟩ : ∃ n0, 0 = n0 := ⟨_, rfl⟩
  obtain ⟨s0, hs0⟩ : ∃ s0, 0 = s0 := ⟨_, rfl⟩
  have hl : LdAt W0 g b n0 s0 (fun _ => none) false := by rw [← hn0, ← hs0]; exact hl
  have HL0 := Lib.hid hl
  have HN0 := Lib.hid (show n0 ≤ 0 from by omega)
  have HB0 := Lib.hid hB
  have HG := Lib.hid hg
  have HBB := Lib.hid hb
  clear hl hB hg hb hn0 hs0
  go_wp2_with fail
  refine (ldadd_any W0 g b n0 s0 _ _ HL0.out (by have := HN0.out; omega) 2 5 (by decide)).mono ?_
  rintro e W1 ⟨rfl, n1, s1, h1, hl, hT⟩
  rw [lvA_eq, show chO add (fun _ => none) false 2 5 = false from rfl] at hl
  have HL1 := Lib.hid hl
  have HN1 := Lib.hid (show n1 ≤ 1 from by have := HN0.out; omega)
  have HT1 := Lib.hid (hT)
  clear h1 hl hT
  go_wp2_with fail
  refine (ldadd_any W1 g b n1 s1 _ _ HL1.out (by have := HN1.out; omega) 1 7 (by decide)).mono ?_
  rintro e W2 ⟨rfl, n2, s2, h1, hl, hT⟩
  rw [lvB_eq, show chO add lvA false 1 7 = false from rfl] at hl
  have HL2 := Lib.hid hl
  have HN2 := Lib.hid (show n2 ≤ 2 from by have := HN1.out; omega)
  have HT2 := Lib.hid (HT1.out.trans hT)
  clear h1 hl hT
  go_wp2_with fail
  refine (ldadd_any W2 g b n2 s2 _ _ HL2.out (by have := HN2.out; omega) 2 1 (by decide)).mono ?_
  rintro e W3 ⟨rfl, n3, s3, h1, hl, hT⟩
  rw [lvC_eq, show chO add lvB false 2 1 = false from rfl] at hl
  have HL3 := Lib.hid hl
  have HN3 := Lib.hid (show n3 ≤ 3 from by have := HN2.out; omega)
  have HT3 := Lib.hid (HT2.out.trans hT)
  clear h1 hl hT
  go_wp2_with fail
  refine (ldadd_any W3 g b n3 s3 _ _ HL3.out (by have := HN3.out; omega) (-1) 9 (by decide)).mono ?_
  rintro e W4 ⟨rfl, n4, s4, h1, hl, hT⟩
  rw [lvM_eq, show chO add lvC false (-1) 9 = false from rfl] at hl
  have HL4 := Lib.hid hl
  have HN4 := Lib.hid (show n4 ≤ 4 from by have := HN3.out; omega)
  have HT4 := Lib.hid (HT3.out.trans hT)
  clear h1 hl hT
  go_wp2_with fail
  refine (ldsub_any W4 g b n4 s4 _ _ HL4.out (by have := HN4.out; omega) 1 9 (by decide)).mono ?_
  rintro e W5 ⟨rfl, n5, s5, h1, hl, hT⟩
  rw [lvD_eq, show chO sub lvC false 1 9 = false from rfl] at hl
  have HL5 := Lib.hid hl
  have HN5 := Lib.hid (show n5 ≤ 5 from by have := HN4.out; omega)
  have HT5 := Lib.hid (HT4.out.trans hT)
  clear h1 hl hT
  have HO := Lib.hid (show Calls Try.prog 17 #[.pointer (some ⟨g, 0, none⟩), .int .i64 2] W5 fun e w' => e = .returned (.int .i64 6) ∧ W5 = w' from ldof_any W5 g b n5 s5 _ _ HL5.out 2 (by decide))
  have HF1 := Lib.hid (show Calls Try.prog 19 #[.pointer (some ⟨g, 0, none⟩), .int .i64 2, .int .i64 4, .int .i64 10] W5 fun e w' => e = .returned (.bool true) ∧ W5 = w' from ldfits_any W5 g b n5 s5 _ _ HL5.out 2 4 10 (by decide))
  have HF2 := Lib.hid (show Calls Try.prog 19 #[.pointer (some ⟨g, 0, none⟩), .int .i64 2, .int .i64 5, .int .i64 10] W5 fun e w' => e = .returned (.bool false) ∧ W5 = w' from ldfits_any W5 g b n5 s5 _ _ HL5.out 2 5 10 (by decide))
  clear HL0 HL1 HL2 HL3 HL4 HN0 HN1 HN2 HN3 HN4 HT1 HT2 HT3 HT4
  go_wp2_with (first | (go_at_call 17; (with_reducible refine HO.out.mono ?_); rintro e w' ⟨rfl, rfl⟩) | (go_at_call 19; (with_reducible refine HF1.out.mono ?_); rintro e w' ⟨rfl, rfl⟩) | (go_at_call 19; (with_reducible refine HF2.out.mono ?_); rintro e w' ⟨rfl, rfl⟩))
  obtain ⟨U1, hU1⟩ : ∃ U, W5.alloc (.cells #[.int .i64 0, .int .u32 0, .int .i64 0, .int .i64 0, .int .i64 0, .slice none 0 0, .int .u32 0, .int .i64 0, .int .i64 0, .slice none 0 0, .int .i64 5] 51) = U := ⟨_, rfl⟩
  obtain ⟨U2, hU2⟩ : ∃ U, U1.alloc (.cells #[.int .u32 0, .int .i64 0, .int .i64 3, .int .i64 0, .int .u32 0, .int .i64 0, .int .i64 0, .int .i64 0, .slice none 0 0, .int .u32 0, .int .i64 0, .int .i64 0, .slice none 0 0, .int .i64 4, .slice (some ⟨W5.heap.size, 0, none⟩) 1 1, .int .i64 (-1)] 54) = U := ⟨_, rfl⟩
  obtain ⟨U3, hU3⟩ : ∃ U, U2.alloc (.cells #[.int .u32 0, .int .i64 0, .int .i64 3, .int .i64 0, .int .u32 0, .int .i64 0, .int .i64 0, .int .i64 0, .slice none 0 0, .int .u32 0, .int .i64 0, .int .i64 0, .slice none 0 0, .int .i64 4, .slice (some ⟨W5.heap.size, 0, none⟩) 1 1, .int .i64 (-1), .int .u32 0, .int .i64 0, .int .i64 3, .int .i64 0, .int .u32 0, .int .i64 0, .int .i64 0, .int .i64 0, .slice none 0 0, .int .u32 0, .int .i64 0, .int .i64 0, .slice none 0 0, .int .i64 4, .slice (some ⟨W5.heap.size, 0, none⟩) 1 1, .int .i64 (-1)] 54) = U := ⟨_, rfl⟩
  have z1 : U1.heap.size = W5.heap.size + 1 := by rw [← hU1, sz_alloc]
  have z2 : U2.heap.size = W5.heap.size + 1 + 1 := by rw [← hU2, sz_alloc, z1]
  have b1 : Below W5.heap.size W5 U1 := hU1 ▸ newB W5 _
  have b2 : Below U1.heap.size U1 U2 := hU2 ▸ newB U1 _
  have b3 : Below U2.heap.size U2 U3 := hU3 ▸ newB U2 _
  have hov : OvsAt U1 (some ⟨W5.heap.size, 0, none⟩) [ovI 5] := by
    have := (LOwn.lit rowOv W5 0 [ovI 5] (fun x hx => by rw [List.mem_singleton] at hx; subst hx; show (Lit.int .i64 5).wf = true; decide) (Nat.zero_le _) (by unfold maxLen; simp)).at rowOv
    rw [← hU1]; exact this
  have hwt : LAt wtC InWt Wt.zero 16 U3 (some ⟨W5.heap.size + 1 + 1, 0, none⟩) [wtI (some ⟨W5.heap.size, 0, none⟩) (-1), wtI (some ⟨W5.heap.size, 0, none⟩) (-1)] := by
    have := (LOwn.lit rowWt U2 0 [wtI (some ⟨W5.heap.size, 0, none⟩) (-1), wtI (some ⟨W5.heap.size, 0, none⟩) (-1)] (fun x hx => by
      have hx : x = wtI (some ⟨W5.heap.size, 0, none⟩) (-1) := by simpa using hx
      subst hx
      exact ⟨by show (Lit.int .i64 3).wf = true; decide, by show (Lit.int .i64 4).wf = true; decide, rfl, by show 1 ≤ maxLen; unfold maxLen; decide⟩) (Nat.zero_le _) (by unfold maxLen; simp)).at rowWt
    rw [z2] at this
    rw [← hU3]; exact this
  have hws : WtsAt U3 (some ⟨W5.heap.size + 1 + 1, 0, none⟩) [wtI (some ⟨W5.heap.size, 0, none⟩) (-1), wtI (some ⟨W5.heap.size, 0, none⟩) (-1)] := ⟨hwt, fun x hx => by
    have hx : x = wtI (some ⟨W5.heap.size, 0, none⟩) (-1) := by simpa using hx
    subst hx
    exact (hov.below b2).below b3⟩
  have hbp : Blk U2 (W5.heap.size + 1) 54 [.int .u32 0, .int .i64 0, .int .i64 3, .int .i64 0, .int .u32 0, .int .i64 0, .int .i64 0, .int .i64 0, .slice none 0 0, .int .u32 0, .int .i64 0, .int .i64 0, .slice none 0 0, .int .i64 4, .slice (some ⟨W5.heap.size, 0, none⟩) 1 1, .int .i64 (-1)] := by
    have := Blk.new U1 54 [.int .u32 0, .int .i64 0, .int .i64 3, .int .i64 0, .int .u32 0, .int .i64 0, .int .i64 0, .int .i64 0, .slice none 0 0, .int .u32 0, .int .i64 0, .int .i64 0, .slice none 0 0, .int .i64 4, .slice (some ⟨W5.heap.size, 0, none⟩) 1 1, .int .i64 (-1)]
    rw [z1] at this
    rw [← hU2]; exact this
  have HBP := Lib.hid (hbp.next b3)
  have b13 : Below W5.heap.size W5 U3 := b1.trans ((b2.trans (b3.mono b2.size)).mono b1.size)
  have HOV := Lib.hid ((hov.below b2).below b3)
  have HB3 := Lib.hid b13
  have HPR := Lib.hid (ldproject_any U3 _ _ 2 2 hws rfl (by decide))
  have HU1 := Lib.hid hU1
  have HU2 := Lib.hid hU2
  have HU3 := Lib.hid hU3
  have HL6 := Lib.hid (HL5.out.next b13)
  have HGP := Lib.hid (show g < W5.heap.size ∧ b < W5.heap.size from ⟨HL5.out.blk.lt, HL5.out.map.lt⟩)
  rw [lv_pr] at HPR
  clear hU1 hU2 hU3 z1 z2 b1 b2 b3 hov hwt hws hbp b13 HO HF1 HF2
  rw [HU1.out, HU2.out, HU3.out]
  refine HPR.out.mono ?_
  rintro e W6 ⟨g2, b2, n6, s6, rfl, hl6, hn6, hB6⟩
  have HQ6 := Lib.hid hl6
  have HN6 := Lib.hid hn6
  have HB6 := Lib.hid hB6
  have HL7 := Lib.hid (HL6.out.next hB6)
  have HBQ := Lib.hid (HBP.out.next hB6)
  have HOV2 := Lib.hid (HOV.out.below hB6)
  clear hl6 hn6 hB6 HPR HU1 HU2 HU3 HL6 HBP HOV
  have p15 : W6.cell? ⟨W5.heap.size + 1, 15, none⟩ = some (.int .i64 (-1)) := HBQ.out.cellAt rfl
  have f15 := HBQ.out.f 15
  go_wp2_with fail
  have hgp := HGP.out
  have hq1 : g2 ≠ W5.heap.size + 1 := fun e => by
    have hh := HQ6.out.blk
    rw [e] at hh
    have h1 := Blk.type hh HBQ.out
    revert h1
    decide
  have hq2 : b2 ≠ W5.heap.size + 1 := fun e => HQ6.out.map.notBlk HBQ.out e.symm
  obtain ⟨W7, hW7⟩ : ∃ U, W6.setCell ⟨W5.heap.size + 1, 15, none⟩ (.int .i64 0) = U := ⟨_, rfl⟩
  have hT7 : Turns (fun k => k = W5.heap.size + 1) W6 W7 := hW7 ▸ (Turns.refl (fun k => k = W5.heap.size + 1) W6).setCell (p := ⟨W5.heap.size + 1, 15, none⟩) (.inl rfl) _
  have HL8 := Lib.hid (show LdAt W7 g b n5 s5 lvD false from hW7 ▸ HL7.out.setOther (by show g ≠ W5.heap.size + 1; omega) (by show b ≠ W5.heap.size + 1; omega) _)
  have HQ8 := Lib.hid (show LdAt W7 g2 b2 n6 s6 lvQ false from hW7 ▸ HQ6.out.setOther hq1 hq2 _)
  have HBR := Lib.hid (show Blk W7 (W5.heap.size + 1) 54 [.int .u32 0, .int .i64 0, .int .i64 3, .int .i64 0, .int .u32 0, .int .i64 0, .int .i64 0, .int .i64 0, .slice none 0 0, .int .u32 0, .int .i64 0, .int .i64 0, .slice none 0 0, .int .i64 4, .slice (some ⟨W5.heap.size, 0, none⟩) 1 1, .int .i64 0] from hW7 ▸ HBQ.out.set 15 (.int .i64 0))
  have HOV3 := Lib.hid (show OvsAt W7 (some ⟨W5.heap.size, 0, none⟩) [ovI 5] from HOV2.out.turns hT7 (fun b o e => by simp only [Option.some.injEq, Addr.mk.injEq] at e; obtain ⟨rfl, _⟩ := e; omega))
  have HB7 := Lib.hid (show Below w.heap.size w W7 from ((HB0.out.trans (HT5.out.below HB0.out.size fun k hk => by have h1 := HG.out; have h2 := HBB.out; rcases hk with rfl | rfl <;> assumption)).trans (HB3.out.mono (Nat.le_trans HB0.out.size HT5.out.size))).trans ((HB6.out.mono (Nat.le_trans (Nat.le_trans HB0.out.size HT5.out.size) HB3.out.size)).trans (hT7.below (Nat.le_trans (Nat.le_trans (Nat.le_trans HB0.out.size HT5.out.size) HB3.out.size) HB6.out.size) fun k hk => by have h1 := HB0.out.size; have h2 := HT5.out.size; have hk : k = W5.heap.size + 1 := hk; omega)))
  have HW7 := Lib.hid hW7
  clear hW7 hT7 hq1 hq2 HL7 HQ6 HBQ HOV2 p15 f15
  rw [HW7.out]
  refine (ldall_any W7 g b n5 s5 _ _ HL8.out (by have := HN5.out; omega) lvD_wf).mono ?_
  rintro e W8 ⟨q, c, l, rfl, hall, hat, hc, _, hB8⟩
  obtain rfl : l = [⟨2, 6⟩] := allL_unique hall lvD_all
  have HAT := Lib.hid hat
  have HB8 := Lib.hid hB8
  have hB9 := hB8.trans ((newB W8 (.cells #[.int .i64 2, .int .i64 6] 63)).mono hB8.size)
  have HSM := Lib.hid (rsameL_yes q (some ⟨W8.heap.size, 0, none⟩) [⟨2, 6⟩] 1 c 1 (W8.alloc (.cells #[.int .i64 2, .int .i64 6] 63)) (hat.below (newB W8 _)) (lo_one W8 ⟨2, 6⟩ ⟨by decide, by decide⟩) rfl (by unfold maxLen; decide))
  have HB9 := Lib.hid hB9
  clear hall hat hc hB8 hB9
  go_wp2_with fail
  refine HSM.out.mono ?_
  rintro e W9 ⟨rfl, hb⟩
  have HB10 := Lib.hid (HB9.out.trans (hb.mono HB9.out.size))
  have HOR := Lib.hid (ldover_any W9 g b n5 s5 _ _ (HL8.out.next HB10.out))
  have HOF := Lib.hid (show Calls Try.prog 17 #[.pointer (some ⟨g2, 0, none⟩), .int .i64 4] W9 fun e w' => e = .returned (.int .i64 6) ∧ W9 = w' from ldof_any W9 g2 b2 n6 s6 _ _ (HQ8.out.next HB10.out) 4 (by decide))
  have HTK := Lib.hid (ldTaken_nil W9 (wtI (some ⟨W5.heap.size, 0, none⟩) 0) (HOV3.out.below HB10.out) rfl (by show 1 ≤ maxLen; unfold maxLen; decide) 0 0 0 0 0 0 0 0 5 rfl)
  have HBR2 := Lib.hid (HBR.out.next HB10.out)
  have p0 := HBR2.out.cell 0 (by simp)
  have p1 := HBR2.out.cell 1 (by simp)
  have p2 := HBR2.out.cell 2 (by simp)
  have p3 := HBR2.out.cell 3 (by simp)
  have p4 := HBR2.out.cell 4 (by simp)
  have p5 := HBR2.out.cell 5 (by simp)
  have p6 := HBR2.out.cell 6 (by simp)
  have p7 := HBR2.out.cell 7 (by simp)
  have p8 := HBR2.out.cell 8 (by simp)
  have p9 := HBR2.out.cell 9 (by simp)
  have p10 := HBR2.out.cell 10 (by simp)
  have p11 := HBR2.out.cell 11 (by simp)
  have p12 := HBR2.out.cell 12 (by simp)
  have p13 := HBR2.out.cell 13 (by simp)
  have p14 := HBR2.out.cell 14 (by simp)
  have p15 := HBR2.out.cell 15 (by simp)
  have hfld := fun u : World => opt_field1 (.int .i64 0) (.int .u32 0) (.int .i64 0) (.int .i64 0) (.int .i64 0) (.slice none 0 0) (.int .u32 0) (.int .i64 0) (.int .i64 0) (.slice none 0 0) (.int .i64 5) u
  clear hb HSM HB9 HL8 HQ8
  go_wp2_with (first | (go_at_call 16; (with_reducible refine HOR.out.mono ?_); rintro e w' ⟨rfl, rfl⟩) | (go_at_call 17; (with_reducible refine HOF.out.mono ?_); rintro e w' ⟨rfl, rfl⟩) | (go_at_call 24; refine HTK.out.mono ?_; rintro e W10 ⟨rfl, hB11⟩))
  go_ret
  exact ⟨rfl, (HB7.out.trans (HB10.out.mono HB7.out.size)).trans (hB11.mono (Nat.le_trans HB7.out.size HB10.out.size))⟩
end Go.Proofs.Yteeihjdkenlebaa
