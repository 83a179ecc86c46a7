/- timer: lives walked. -/
import Derived.Test.YtlcciifoddcbdaaTkC
namespace Go.Proofs.Ytlcciifoddcbdaa
open Go.RowKit Go.Maps
theorem setL1 (W : World) (g b : Nat) (h : TmP W g b 0 (.map [])) : Calls Try.prog 9 #[.pointer (some ⟨g, 0, none⟩), .agg #[.int .i64 1, .int .i64 2], .int .i64 5] W fun e w' => e = .returned (.int .i64 0) ∧ TmP w' g b 1 DL1 ∧ W.grownBy w' (some b) :=
  tset_ok _ _ _ _ _ h 1 2 5 okA (by decide) (by decide) (by decide) (.inr (by decide))
theorem setL2 (W : World) (g b : Nat) (h : TmP W g b 1 DL1) : Calls Try.prog 9 #[.pointer (some ⟨g, 0, none⟩), .agg #[.int .i64 2, .int .i64 1], .int .i64 3] W fun e w' => e = .returned (.int .i64 0) ∧ TmP w' g b 2 DL2 ∧ W.grownBy w' (some b) :=
  tset_ok _ _ _ _ _ h 2 1 3 okB (by decide) (by decide) (by decide) (.inr (by have e1 : Maps.size DL1 = 1 := rfl; omega))
theorem setL3 (W : World) (g b : Nat) (h : TmP W g b 2 DL2) : Calls Try.prog 9 #[.pointer (some ⟨g, 0, none⟩), .agg #[.int .i64 1, .int .i64 2], .int .i64 (-1)] W fun e w' => e = .returned (.int .i64 1) ∧ Below W.heap.size W w' :=
  tset_neg _ _ _ _ _ h 1 2 (-1) (.inl (by decide))
theorem dueL (W : World) (g b n : Nat) (h : TmP W g b n DL2) : Calls Try.prog 14 #[.pointer (some ⟨g, 0, none⟩), .int .i64 4] W fun e w' => ∃ q c B, e = .returned (.slice (some ⟨q, 0, none⟩) 1 c) ∧ b < B ∧ w'.ownsRow B 31 2 (.slice (some ⟨q, 0, none⟩) 1 c) 1 (tkC kB) ∧ TmP w' g b n DL3 ∧ W.grownBy w' (some b) :=
  (tdue1_any _ _ _ _ _ h 4 _ dueL2).mono fun e w' ⟨v, he, hG, hd⟩ => by
    rcases hd with ⟨h0, _⟩ | ⟨x, B, hx, hB, hrow, hT⟩
    · cases h0
    · cases hx
      obtain ⟨q, c, rfl, _⟩ := row_one hrow
      exact ⟨q, c, B, he, by have := h.lt; have := h.blk.lt; omega, hrow, hT, hG⟩
theorem nextL (W : World) (g b n : Nat) (h : TmP W g b n DL2) : Calls Try.prog 18 #[.pointer (some ⟨g, 0, none⟩)] W fun e w' => e = .returned (.tuple #[.int .i64 3, .bool true]) ∧ Below W.heap.size W w' :=
  (tnext_any _ _ _ _ _ h).mono fun e w' ⟨m, i, he, hl, hb⟩ => by
    obtain ⟨rfl, rfl⟩ := leastL2 hl
    exact ⟨he, hb⟩
theorem atL (W : World) (g b n : Nat) (h : TmP W g b n DL3) : Calls Try.prog 16 #[.pointer (some ⟨g, 0, none⟩), .agg #[.int .i64 1, .int .i64 2]] W fun e w' => e = .returned (.tuple #[.int .i64 5, .bool true]) ∧ Below W.heap.size W w' :=
  (tat_any _ _ _ _ _ h 1 2 okA 5 momL3).mono fun e w' ⟨he, hb⟩ => ⟨he.trans (by rw [show has DL3 (litT ⟨1, 2⟩) = true from hasL3]), hb⟩
theorem stopL1 (W : World) (g b n : Nat) (h : TmP W g b n DL3) : Calls Try.prog 11 #[.pointer (some ⟨g, 0, none⟩), .agg #[.int .i64 1, .int .i64 2]] W fun e w' => e = .returned (.bool true) ∧ TmP w' g b n DL4 ∧ W.grownBy w' (some b) :=
  (tstop_any _ _ _ _ _ h 1 2 okA).mono fun e w' ⟨he, hT, hG⟩ => ⟨he.trans (by rw [show has DL3 (litT ⟨1, 2⟩) = true from hasL3]), hT, hG⟩
theorem stopL2 (W : World) (g b n : Nat) (h : TmP W g b n DL4) : Calls Try.prog 11 #[.pointer (some ⟨g, 0, none⟩), .agg #[.int .i64 1, .int .i64 2]] W fun e w' => e = .returned (.bool false) ∧ TmP w' g b n DL5 ∧ W.grownBy w' (some b) :=
  (tstop_any _ _ _ _ _ h 1 2 okA).mono fun e w' ⟨he, hT, hG⟩ => ⟨he.trans (by rw [show has DL4 (litT ⟨1, 2⟩) = false from hasL4]), hT, hG⟩
theorem lenL (W : World) (g b n : Nat) (h : TmP W g b n DL5) (hz : Maps.size DL5 = 0) : Calls Try.prog 20 #[.pointer (some ⟨g, 0, none⟩)] W fun e w' => e = .returned (.int .i64 0) ∧ W = w' :=
  (tlen_any _ _ _ _ _ h).mono fun e w' ⟨he, hw⟩ => ⟨he.trans (by rw [hz]; rfl), hw⟩
theorem sameL {W : World} {B q c : Nat} (hr : W.ownsRow B 31 2 (.slice (some ⟨q, 0, none⟩) 1 c) 1 (tkC kB)) : Calls Try.prog 13 #[.slice (some ⟨q, 0, none⟩) 1 c, .slice (some ⟨W.heap.size, 0, none⟩) 1 1] (W.alloc (.cells #[.int .i64 2, .int .i64 1] 31)) fun e w' => e = .returned (.bool true) ∧ Below W.heap.size W w' := by
  obtain ⟨q', c', he, _, _, c0, c1⟩ := row_one (hr.alloc (.cells #[.int .i64 2, .int .i64 1] 31))
  cases he
  have hX := Blk.new W 31 (tkC kB)
  refine (same_1 _ q W.heap.size c 1 kB c0 c1 (hX.cell 0 (by simp [tkC])) (hX.cell 1 (by simp [tkC]))).mono ?_
  rintro e w' ⟨rfl, hb⟩
  exact ⟨rfl, (newB W _).trans (hb.mono (newB W _).size)⟩
set_option maxHeartbeats 1000000 in
theorem tlives_any (w : World) : Calls Try.prog 8 #[] w fun e w' => e = .returned (.bool true) ∧ Below w.heap.size w w' := by
  go_enter Try.func8, Try.ntmps8
  go_wp2_with (go_at_call 7; refine (tnew_any _).mono ?_; rintro e w1 ⟨rfl, hT1, hb1⟩)
  obtain ⟨g, hg⟩ : ∃ g, w.heap.size + 1 = g := ⟨_, rfl⟩
  obtain ⟨b, hb⟩ : ∃ b, w.heap.size = b := ⟨_, rfl⟩
  obtain ⟨A, hA⟩ : ∃ A, w1.heap.size = A := ⟨_, rfl⟩
  obtain ⟨V, hV⟩ : ∃ V, (w1.alloc (.cells #[.int .i64 1, .int .i64 2] 31)).alloc (.cells #[.int .i64 2, .int .i64 1] 31) = V := ⟨_, rfl⟩
  have HV := Lib.hid hV
  have L0 : LivS w V A g b 0 (.map []) := by
    have hbb : Below w1.heap.size w1 V := hV ▸ ((Below.refl _ w1).alloc (Nat.le_refl _) _).alloc (by rw [sz_alloc]; omega) _
    have hX : Blk (w1.alloc (.cells #[.int .i64 1, .int .i64 2] 31)) A 31 (tkC kA) := hA ▸ Blk.new w1 31 (tkC kA)
    have hY := Blk.new (w1.alloc (.cells #[.int .i64 1, .int .i64 2] 31)) 31 (tkC kB)
    rw [sz_alloc, hA] at hY
    refine ⟨?_, ?_, hV ▸ hY, ?_, hb1.trans (hbb.mono hb1.size), by omega⟩
    · rw [← hg, ← hb]; exact hT1.next hbb
    · rw [← hV]; exact hX.next ((Below.refl _ _).alloc (Nat.le_refl _) _)
    · rw [← hg, ← hA]; exact hT1.blk.lt
  have HL0 := Lib.hid L0.drew
  have hS := L0.drew.cells
  rw [hg, hA]
  clear hT1 hb1 hb hV L0
  rw [HV.out]
  unfold CellsL at hS
  go_region_held_law (fun w' => w'.cell? ⟨A, 0, none⟩ = some (.int .i64 1) ∧ w'.cell? ⟨A, 1, none⟩ = some (.int .i64 2) ∧ w'.cell? ⟨A + 1, 0, none⟩ = some (.int .i64 2) ∧ w'.cell? ⟨A + 1, 1, none⟩ = some (.int .i64 1)) (with_reducible assumption) (first
    | (go_at_call 9; with_reducible refine (setL1 _ _ _ HL0.out.tm).mono ?_; rintro e w2 ⟨rfl, hT1, hG1⟩; have HL1 := Lib.hid (HL0.out.turn hT1 hG1); have hS1 := HL1.out.cells; unfold CellsL at hS1; clear hT1 hG1)
    | (go_at_call 9; with_reducible refine (setL2 _ _ _ HL1.out.tm).mono ?_; rintro e w3 ⟨rfl, hT2, hG2⟩; have HL2 := Lib.hid (HL1.out.turn hT2 hG2); have hS2 := HL2.out.cells; unfold CellsL at hS2; clear hT2 hG2)
    | (go_at_call 9; with_reducible refine (setL3 _ _ _ HL2.out.tm).mono ?_; rintro e w4 ⟨rfl, hB3⟩; have HL3 := Lib.hid (HL2.out.below hB3); have hS3 := HL3.out.cells; unfold CellsL at hS3; clear hB3))
  clear hS hS1 hS2 hS3
  go_wp2_with (first
    | (go_at_call 18; with_reducible refine (nextL _ _ _ _ HL3.out.tm).mono ?_; rintro e w5 ⟨rfl, hb5⟩; have HL4 := Lib.hid (HL3.out.below hb5); clear hb5))
  go_at_call 14
  with_reducible refine (dueL _ _ _ _ HL4.out.tm).mono ?_
  rintro e w6 ⟨q, c, B, rfl, hBB, hrow, hT5, hG5⟩
  have HL5 := Lib.hid (HL4.out.turn hT5 hG5)
  have HBB := Lib.hid hBB
  have HR5 := Lib.hid hrow
  obtain ⟨a0, a1, a2, a3⟩ := HL5.out.cells
  clear hrow hBB hT5 hG5
  go_wp2_with (go_at_call 16; with_reducible refine (atL _ _ _ _ HL5.out.tm).mono ?_; rintro e w7 ⟨rfl, hb7⟩; have HL6 := Lib.hid (HL5.out.below hb7); have HR6 := Lib.hid (HR5.out.kept (gb_belowT (r := none) hb7) (by simp [Value.ownBlock])); clear hb7)
  have HL7 := Lib.hid HL6.out.drew
  have HR7 : Hid (w7.drew.ownsRow B 31 2 (.slice (some ⟨q, 0, none⟩) 1 c) 1 (tkC kB)) := Lib.hid HR6.out
  have hS := HL7.out.cells
  unfold CellsL at hS
  go_region_held_law (fun w' => w'.cell? ⟨A, 0, none⟩ = some (.int .i64 1) ∧ w'.cell? ⟨A, 1, none⟩ = some (.int .i64 2) ∧ w'.cell? ⟨A + 1, 0, none⟩ = some (.int .i64 2) ∧ w'.cell? ⟨A + 1, 1, none⟩ = some (.int .i64 1)) (with_reducible assumption) (first
    | (go_at_call 11; with_reducible refine (stopL1 _ _ _ _ HL7.out.tm).mono ?_; rintro e w8 ⟨rfl, hT8, hG8⟩; have HL8 := Lib.hid (HL7.out.turn hT8 hG8); have HR8 := Lib.hid (HR7.out.kept hG8 (row_ne HR7.out HBB.out)); have hS8 := HL8.out.cells; unfold CellsL at hS8; clear hT8 hG8)
    | (go_at_call 11; with_reducible refine (stopL2 _ _ _ _ HL8.out.tm).mono ?_; rintro e w9 ⟨rfl, hT9, hG9⟩; have HL9 := Lib.hid (HL8.out.turn hT9 hG9); have HR9 := Lib.hid (HR8.out.kept hG9 (row_ne HR8.out HBB.out)); have hS9 := HL9.out.cells; unfold CellsL at hS9; clear hT9 hG9))
  have HSAME := Lib.hid (sameL HR9.out)
  have HSZ := Lib.hid (sizeL5 HL0.out.tm HL1.out.tm HL2.out.tm HL5.out.tm HL8.out.tm)
  obtain ⟨z0, z1, z2, z3⟩ := HL9.out.cells
  go_wp2_with (go_at_call 13; with_reducible refine HSAME.out.mono ?_; rintro e w10 ⟨rfl, hb10⟩; have HLa := Lib.hid (HL9.out.below hb10); clear hb10)
  go_at_call 20
  with_reducible refine (lenL _ _ _ _ HLa.out.tm HSZ.out).mono ?_
  rintro e w11 ⟨rfl, rfl⟩
  go_wp2_with fail
  go_ret
  exact ⟨rfl, HLa.out.bel⟩
end Go.Proofs.Ytlcciifoddcbdaa
