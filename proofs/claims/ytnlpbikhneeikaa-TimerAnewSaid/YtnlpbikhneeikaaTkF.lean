/- TimerAnew: the walk. -/
import Derived.Test.YtnlpbikhneeikaaTkE
namespace Go.Proofs.Ytnlpbikhneeikaa
open Go.RowKit Go.Maps
theorem lenA (W : World) (g r n : Nat) (a b : Int) (h : TmP W g r n (DA3 a b)) (hz : Maps.size (DA3 a b) = 0) : Calls Try.prog 20 #[.pointer (some ⟨g, 0, none⟩)] W fun e w' => e = .returned (.int .i64 0) ∧ w' = W :=
  (tlen_any _ _ _ _ _ h).mono fun e w' ⟨he, hw⟩ => ⟨he.trans (by rw [hz]; rfl), hw.symm⟩
theorem belowT (w : World) (n : Nat) : Below w.heap.size w (w.drewN n) := ⟨rfl, rfl, rfl, Nat.le_refl _, fun _ _ => rfl⟩
set_option maxHeartbeats 2000000 in
theorem anew_walk (w : World) (a : Int) (wa : (Lit.int .i64 a).wf = true) (b : Int) (wb : (Lit.int .i64 b).wf = true) :
    Calls Try.prog 6 #[.int .i64 a, .int .i64 b] w fun e w' => e = .returned (.bool true) ∧ Below w.heap.size w w' := by
  have HLV := fun W => Lib.hid (tlives_any W)
  by_cases hbad : a < 0 ∨ b < 0 ∨ 9007199254740991 < a ∨ 9007199254740991 < b
  · have H : ∀ c1 c2 c3 c4 : Bool, decide (a < 0) = c1 → decide (b < 0) = c2 → decide (9007199254740991 < a) = c3 → decide (9007199254740991 < b) = c4 → (c1 || c2 || c3 || c4) = true → Calls Try.prog 6 #[.int .i64 a, .int .i64 b] w fun e w' => e = .returned (.bool true) ∧ Below w.heap.size w w' := by
      intro c1 c2 c3 c4 t1 t2 t3 t4 hc
      clear hbad
      go_enter Try.func6, Try.ntmps6
      rcases c1 with _ | _ <;> rcases c2 with _ | _ <;> rcases c3 with _ | _ <;> rcases c4 with _ | _ <;> first | (exact absurd hc (by decide)) | skip
      all_goals
        go_wp2_with (go_at_call 8; with_reducible refine (HLV _).out.mono ?_; rintro e w' ⟨rfl, hb⟩)
        go_ret
        exact ⟨rfl, hb⟩
    refine H _ _ _ _ rfl rfl rfl rfl ?_
    simpa [or_assoc] using hbad
  · have t1 : decide (a < 0) = false := by simp; omega
    have t2 : decide (b < 0) = false := by simp; omega
    have t3 : decide (9007199254740991 < a) = false := by simp; omega
    have t4 : decide (9007199254740991 < b) = false := by simp; omega
    have ha0 : 0 ≤ a := by omega
    have ha1 : a ≤ 9007199254740991 := by omega
    have hb0 : 0 ≤ b := by omega
    have hb1 : b ≤ 9007199254740991 := by omega
    have S1 := fun W g r h => Lib.hid (setA1 W g r a ha0 ha1 h)
    have S2 := fun W g r h => Lib.hid (setA2 W g r a b hb0 hb1 h)
    obtain ⟨d, hd⟩ : ∃ d, b - 1 = d := ⟨_, rfl⟩
    have hwd : wrap64 d = d := by unfold wrap64; omega
    have S3 := fun W g r n h => Lib.hid (dueAe W g r n a b d hd.symm h)
    clear hbad ha0 ha1 hb0 hb1 wa wb
    go_enter Try.func6, Try.ntmps6
    go_wp2_with (first
      | (go_at_call 7; refine (tnew_any _).mono ?_; rintro e w1 ⟨rfl, hT1, hB1⟩)
      | (go_at_call 8; with_reducible refine (HLV _).out.mono ?_; rintro e w2 ⟨rfl, hB2⟩))
    obtain ⟨g, hg⟩ : ∃ g, w.heap.size + 1 = g := ⟨_, rfl⟩
    obtain ⟨r, hr⟩ : ∃ r, w.heap.size = r := ⟨_, rfl⟩
    obtain ⟨A, hA⟩ : ∃ A, w2.heap.size = A := ⟨_, rfl⟩
    obtain ⟨V, hV⟩ : ∃ V, w2.alloc (.cells #[.int .i64 4, .int .i64 1] 31) = V := ⟨_, rfl⟩
    have HV := Lib.hid hV
    have L0 : AnS w V A g r 0 (.map []) := by
      have hbb : Below w1.heap.size w1 V := hB2.trans (hV ▸ ((Below.refl _ w2).alloc hB2.size _))
      have hX : Blk V A 31 (tkC kC) := hA ▸ hV ▸ Blk.new w2 31 (tkC kC)
      refine ⟨?_, hX, ?_, hB1.trans (hbb.mono hB1.size), by omega⟩
      · rw [← hg, ← hr]; exact hT1.next hbb
      · rw [← hg, ← hA]; exact Nat.lt_of_lt_of_le hT1.blk.lt hB2.size
    have HL0 := Lib.hid L0.drew
    have hS := L0.drew.cells
    rw [hg, hA]
    clear hT1 hB1 hB2 hr hV L0
    rw [HV.out]
    go_region_held_law (fun w' => w'.cell? ⟨A, 0, none⟩ = some (.int .i64 4) ∧ w'.cell? ⟨A, 1, none⟩ = some (.int .i64 1)) (with_reducible assumption) (first
      | (go_at_call 9; with_reducible refine (S1 _ _ _ HL0.out.tm).out.mono ?_; rintro e w3 ⟨rfl, hT3, hG3⟩; have HL1 := Lib.hid (HL0.out.turn hT3 hG3); have hS1 := HL1.out.cells; clear hT3 hG3)
      | (go_at_call 9; with_reducible refine (S2 _ _ _ HL1.out.tm).out.mono ?_; rintro e w4 ⟨rfl, hT4, hG4⟩; have HL2 := Lib.hid (HL1.out.turn hT4 hG4); have hS2 := HL2.out.cells; clear hT4 hG4))
    clear hS hS1 hS2
    go_wp2_with (go_at_call 18; with_reducible refine (nextA _ _ _ _ _ _ HL2.out.tm).mono ?_; rintro e w5 ⟨rfl, hb5⟩; have HL3 := Lib.hid (HL2.out.below hb5); clear hb5)
    rw [hwd]
    go_at_call 14
    with_reducible refine (S3 _ _ _ _ HL3.out.tm).out.mono ?_
    rintro e w6 ⟨rfl, hT6, hG6⟩
    have HL4 := Lib.hid (HL3.out.turn hT6 hG6)
    clear hT6 hG6
    go_wp2_with fail
    go_at_call 14
    with_reducible refine (dueAl _ _ _ _ _ _ HL4.out.tm).mono ?_
    rintro e w7 ⟨q, c, B, rfl, hc, hBB, hrow, hT7, hG7⟩
    have HL5 := Lib.hid (HL4.out.turn hT7 hG7)
    have HSZ := sizeA3 HL1.out.tm HL2.out.tm
    have HLEN := Lib.hid (fun m => lenA (w7.drewN m) g r 2 a b (HL5.out.below (belowT w7 m)).tm HSZ)
    obtain ⟨q', c', he, _, _, c0, c1⟩ := row_one hrow
    cases he
    obtain ⟨a0, a1⟩ := HL5.out.cells
    replace c0 : w7.cell? ⟨q, 0, none⟩ = some (.int .i64 4) := c0
    replace c1 : w7.cell? ⟨q, 1, none⟩ = some (.int .i64 1) := c1
    have k0 : w7.drew.cell? ⟨q, 0, none⟩ = some (.int .i64 4) := c0
    have k1 : w7.drew.cell? ⟨q, 1, none⟩ = some (.int .i64 1) := c1
    have k2 : w7.drew.cell? ⟨A, 0, none⟩ = some (.int .i64 4) := HL5.out.cells.1
    have k3 : w7.drew.cell? ⟨A, 1, none⟩ = some (.int .i64 1) := HL5.out.cells.2
    clear hrow hBB hT7 hG7 HSZ
    go_wp2_with fail
    go_quiet ((go_at_call 20; with_reducible exact Calls.quiet_of_same (HLEN.out _)))
    go_wp2_with fail
    go_ret
    exact ⟨rfl, HL5.out.bel.trans ((belowT w7 _).mono HL5.out.bel.size)⟩
end Go.Proofs.Ytnlpbikhneeikaa
