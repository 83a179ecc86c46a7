/- What must come of every program: 'lives' is true, and writes nothing that was there. -/
import Derived.Test.YthdiaedaalgpeaaNp
import Derived.Test.YthdiaedaalgpeaaRd3
import Derived.Laws.BytesArg
namespace Go.Proofs.Ythdiaedaalgpeaa
open Go.RowKit
theorem BRow.grown {w w' : World} {g r : Nat} {xs : List Int} (h : BRow w g xs) (hg : w.grownBy w' (some r)) (hr : g ≠ r) : BRow w' g xs :=
  World.rowIs.of_block h (hg.block _ (World.rowIs.lt h) (fun e => hr (Option.some.inj e)))
theorem lives_any (w : World) : Calls Try.prog 4 #[] w fun e w' => e = .returned (.bool true) ∧ Below w.heap.size w w' := by
  have P1 := put_fits 258 2 w (by omega) (by omega) (by decide)
  have H1 := Lib.hid P1
  clear P1
  go_enter Try.func4, Try.ntmps4
  go_wp2_with fail
  refine H1.out.mono ?_; rintro e w1 ⟨rfl, hr1, hb1⟩
  have R1 := Lib.hid (PutRow.row (xs := [1, 2]) hr1 rfl (by decide))
  have B1 := Lib.hid hb1
  have H2 := Lib.hid (put_num 256 1 w1 (by omega) (by omega) (by decide))
  clear hr1 hb1 H1
  go_wp2_with fail
  refine H2.out.mono ?_; rintro e w2 ⟨rfl, rfl⟩
  clear H2
  go_wp2_with fail
  have H3 := get_some (some ⟨w1.heap.size, 0, none⟩) [1, 2] 2 _ (by decide) (by decide) (bytes_new w1 [1, 2] (inByte_all (by decide)))
  rw [show getV [1, 2] = 258 from by decide] at H3
  refine H3.mono ?_; rintro e w2 ⟨rfl, rfl⟩
  clear H3
  go_wp2_with fail
  obtain ⟨W, hW⟩ : ∃ W, w1.alloc (.cells ([1, 2].map (Value.int .u8)).toArray 5) = W := ⟨_, rfl⟩
  have H4 := from_any (some ⟨w1.heap.size + 1, 0, none⟩) [1, 2, 3] 3 (W.alloc (.cells ([1, 2, 3].map (Value.int .u8)).toArray 5)) (by decide) (by have := bytes_new W [1, 2, 3] (inByte_all (by decide)); rwa [show W.heap.size = w1.heap.size + 1 from by rw [← hW]; simp] at this)
  rw [← hW] at H4
  clear hW
  refine H4.mono ?_; rintro e w3 ⟨g, rfl, hg, hrd, hb3⟩
  have RD := Lib.hid hrd
  have HG := Lib.hid hg
  have B3 := Lib.hid hb3
  clear hrd hb3 hg H4
  go_wp2_with fail
  refine (num_any w3 g (some [1, 2, 3]) 1 RD.out).mono ?_; rintro e w4 ⟨rfl, hr4, hg4⟩
  rw [show numV (some [1, 2, 3]) 1 = 1 from by decide]
  have RD4 := Lib.hid (show RdAt w4 g (some [2, 3]) from hr4)
  have G4 := Lib.hid hg4
  clear hr4 hg4
  go_wp2_with fail
  refine (bytes_any w4 g (some [2, 3]) 2 RD4.out).mono ?_; rintro e w5 ⟨q, rfl, hq, _, hqg, hqs, hr5, hg5⟩
  rw [show outV (some [2, 3]) 2 = [2, 3] from by decide] at hq ⊢
  have RD5 := Lib.hid (show RdAt w5 g (some []) from hr5)
  have G5 := Lib.hid hg5
  have Q5 := Lib.hid hq
  have HQ := Lib.hid (show q ≠ g ∧ w4.heap.size ≤ q from ⟨hqg, hqs⟩)
  clear hr5 hg5 hq hqg hqs
  go_wp2_with fail
  refine (num_any w5 g (some []) 1 RD5.out).mono ?_; rintro e w6 ⟨rfl, hr6, hg6⟩
  rw [show numV (some []) 1 = 0 from by decide]
  have RD6 := Lib.hid (show RdAt w6 g none from hr6)
  have G6 := Lib.hid hg6
  clear hr6 hg6
  have S1 : w.heap.size < w1.heap.size := World.rowIs.lt R1.out
  have SA : w1.heap.size ≤ g := by have := HG.out; simp at this; omega
  have BA : Below w1.heap.size w1 w3 := (((Below.refl _ _).alloc (Nat.le_refl _) _).alloc (by simp) _).trans (B3.out.mono (by simp; omega))
  have S3 := B3.out.size
  have R3 : BRow w3 w.heap.size [1, 2] := R1.out.below BA
  have hne : w.heap.size ≠ g := by omega
  have F1 : BRow w6 w.heap.size [1, 2] := ((R3.grown G4.out hne).grown G5.out hne).grown G6.out hne
  have F2 : BRow w6 q [2, 3] := Q5.out.grown G6.out HQ.out.1
  have FB : Below w.heap.size w w6 := (B1.out.trans (BA.mono (by omega))).grown (gb_trans (gb_trans G4.out G5.out) G6.out) (by have := BA.size; omega) (fun k hk => by cases hk; omega)
  have C1 : (convert 22 9 (.slice (some ⟨w.heap.size, 0, none⟩) 2 2)).run Try.prog w6 = .ok (.string ⟨#[1, 2]⟩) w6 := run_string w6 _ _ 2 F1
  have C2 : (convert 22 9 (.slice (some ⟨q, 0, none⟩) 2 2)).run Try.prog w6 = .ok (.string ⟨#[2, 3]⟩) w6 := run_string w6 _ _ 2 F2
  have FBH := Lib.hid FB
  clear F1 F2 FB
  go_wp2_with fail
  refine (bad_any w6 g none RD6.out).mono ?_; rintro e w7 ⟨rfl, rfl⟩
  go_wp2_with fail
  refine (mask_any 8 _).mono ?_; rintro e w7 ⟨rfl, rfl⟩
  rw [show mask 8 = 4278190080 from by decide]
  go_wp2_with fail
  refine (add_any 9007199254740991 1 _).mono ?_; rintro e w7 ⟨rfl, rfl⟩
  rw [show add 9007199254740991 1 = 9007199254740991 from by decide]
  go_wp2_with fail
  refine (sub_any 3 5 _).mono ?_; rintro e w7 ⟨rfl, rfl⟩
  rw [show sub 3 5 = 0 from by decide]
  go_wp2_with fail
  refine (times_any 6 7 _).mono ?_; rintro e w7 ⟨rfl, n1, rfl⟩
  rw [show times 6 7 = 42 from by decide]
  go_wp2_with fail
  refine (part_any 4503599627370496 6 3 _).mono ?_; rintro e w7 ⟨rfl, n2, rfl⟩
  rw [show part 4503599627370496 6 3 = 9007199254740991 from by decide]
  go_wp2_with fail
  refine (part_any 10 3 4 _).mono ?_; rintro e w7 ⟨rfl, n3, rfl⟩
  rw [show part 10 3 4 = 7 from by decide]
  go_wp2_with fail
  refine (near_any (-1) _).mono ?_; rintro e w7 ⟨rfl, rfl⟩
  rw [show near (-1) = 0 from by decide]
  go_wp2_with fail
  go_ret
  exact ⟨rfl, by first | exact below_drewN (below_drewN (below_drewN FBH.out _) _) _ | exact below_drewN FBH.out _⟩
end Go.Proofs.Ythdiaedaalgpeaa
