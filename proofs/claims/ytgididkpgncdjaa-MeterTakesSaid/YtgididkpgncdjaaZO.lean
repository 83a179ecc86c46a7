/- What must come of every program: law17. -/
import Derived.Test.YtgididkpgncdjaaZN
namespace Go.Proofs.Ytgididkpgncdjaa
open Go.RowKit Go.Maps
set_option linter.unusedVariables false
set_option linter.unusedSimpArgs false
set_option maxRecDepth 100000

abbrev ten1 : Pf := ⟨167837696, 16⟩
theorem ten1_in : InPf ten1 := ⟨by decide, by decide⟩
theorem lives_fact : ∃ V1 V2, takeE V0 1 1 [⟨ten1, 100⟩] 5 = 0 ∧ takeV V0 1 1 [⟨ten1, 100⟩] 5 = V1 ∧ demV V1 ten1 = 0 ∧ takeE V1 1 2 [⟨ten1, 160⟩] 8 = 0 ∧ takeV V1 1 2 [⟨ten1, 160⟩] 8 = V2 ∧ takeE V2 1 2 [⟨ten1, 999⟩] 9 = 170 ∧ takeE V2 16 0 [] 9 = 1 ∧ demV V2 ten1 = 20 ∧ Dem V2 [⟨ten1, 20⟩] ∧ stampV V2 1 = (8, true) ∧ stampV V2 2 = (0, false) ∧ overV V2 = false ∧ okRep 0 (-1) [] = false := by
  refine ⟨_, _, by decide +kernel, rfl, by decide +kernel, by decide +kernel, rfl, by decide +kernel, by decide +kernel, by decide +kernel, ⟨by simp [Srt], fun p => ?_, fun x hx => ?_⟩, by decide +kernel, by decide +kernel, by decide +kernel, by decide +kernel⟩
  · have h : allR (takeV (takeV V0 1 1 [⟨ten1, 100⟩] 5) 1 2 [⟨ten1, 160⟩] 8) 16 = [⟨ten1, 20⟩] := by decide +kernel
    rw [h]
    simp [eq_comm]
  · simp only [List.mem_singleton] at hx
    subst hx
    decide +kernel
set_option maxHeartbeats 8000000 in
theorem lives17_any (w : World) : Calls Try.prog 9 #[] w fun e w' => e = .returned (.bool true) ∧ Below w.heap.size w w' := by
  obtain ⟨V1, V2, e1, v1, d1, e2, v2, e3, e4, d2, dm, st1, st2, ov, ck⟩ := lives_fact
  have n3 : takeV V2 1 2 [⟨ten1, 999⟩] 9 = V2 := take_no (by rw [e3]; decide)
  have n4 : takeV V2 16 0 [] 9 = V2 := take_no (by rw [e4]; decide)
  have HF := Lib.hid (And.intro e1 (And.intro v1 (And.intro d1 (And.intro e2 (And.intro v2 (And.intro e3 (And.intro e4 (And.intro d2 (And.intro dm (And.intro st1 (And.intro st2 (And.intro ov (And.intro ck (And.intro n3 n4))))))))))))))
  have HNEW := Lib.hid (lm_new w w (Below.refl _ _))
  clear e1 v1 d1 e2 v2 e3 e4 d2 dm st1 st2 ov ck n3 n4
  go_enter Try.func9, Try.ntmps9
  go_wp2_with fail
  refine HNEW.out.mono ?_
  rintro e U ⟨m, b, rfl, hl, hb, _⟩
  obtain ⟨e1, v1, d1, e2, v2, e3, e4, d2, dm, st1, st2, ov, ck, n3, n4⟩ := HF.out
  have HE1 := Lib.hid e1
  have HV1 := Lib.hid v1
  have HD1 := Lib.hid d1
  have HE2 := Lib.hid e2
  have HV2 := Lib.hid v2
  have HE3 := Lib.hid e3
  have HE4 := Lib.hid e4
  have HD2 := Lib.hid d2
  have HDM := Lib.hid dm
  have HS1 := Lib.hid st1
  have HS2 := Lib.hid st2
  have HOV := Lib.hid ov
  have HCK := Lib.hid ck
  have HN3 := Lib.hid n3
  have HN4 := Lib.hid n4
  have HL := Lib.hid hl
  clear e1 v1 d1 e2 v2 e3 e4 d2 dm st1 st2 ov ck n3 n4 hl hb HNEW HF
  have HTEN := Lib.hid (fun u => ten1_any u)
  go_wp2_with fail
  refine (HTEN.out _).mono ?_
  rintro e U ⟨rfl, hb⟩
  have HL := Lib.hid (HL.out.next hb)
  clear hb HTEN
  have HONE := Lib.hid (one_any U 1 1 ten1 ten1_in 100)
  go_wp2_with fail
  refine HONE.out.mono ?_
  rintro e U ⟨z, rfl, hc, hb, _⟩
  have HL := Lib.hid (HL.out.next hb)
  have HTK := Lib.hid (HL.out.take 1 1 (some ⟨z, 0, none⟩) [⟨ten1, 100⟩] 1 1 hc rfl (by unfold maxLen; omega) 5)
  rw [HE1.out, HV1.out] at HTK
  clear hb hc HONE
  go_wp2_with fail
  refine HTK.out.mono ?_
  rintro e U ⟨rfl, _, hl⟩
  have HL := Lib.hid hl
  clear hl HTK
  have HTEN := Lib.hid (fun u => ten1_any u)
  go_wp2_with fail
  refine (HTEN.out _).mono ?_
  rintro e U ⟨rfl, hb⟩
  have HL := Lib.hid (HL.out.next hb)
  clear hb HTEN
  have HDD := Lib.hid (HL.out.demand ten1 ten1_in)
  rw [HD1.out] at HDD
  go_wp2_with fail
  refine HDD.out.mono ?_
  rintro e U ⟨rfl, hb⟩
  have HL := Lib.hid (HL.out.next hb)
  clear hb HDD
  have HTEN := Lib.hid (fun u => ten1_any u)
  go_wp2_with fail
  refine (HTEN.out _).mono ?_
  rintro e U ⟨rfl, hb⟩
  have HL := Lib.hid (HL.out.next hb)
  clear hb HTEN
  have HONE := Lib.hid (one_any U 1 2 ten1 ten1_in 160)
  go_wp2_with fail
  refine HONE.out.mono ?_
  rintro e U ⟨z, rfl, hc, hb, _⟩
  have HL := Lib.hid (HL.out.next hb)
  have HTK := Lib.hid (HL.out.take 1 2 (some ⟨z, 0, none⟩) [⟨ten1, 160⟩] 1 1 hc rfl (by unfold maxLen; omega) 8)
  rw [HE2.out, HV2.out] at HTK
  clear hb hc HONE
  go_wp2_with fail
  refine HTK.out.mono ?_
  rintro e U ⟨rfl, _, hl⟩
  have HL := Lib.hid hl
  clear hl HTK
  have HTEN := Lib.hid (fun u => ten1_any u)
  go_wp2_with fail
  refine (HTEN.out _).mono ?_
  rintro e U ⟨rfl, hb⟩
  have HL := Lib.hid (HL.out.next hb)
  clear hb HTEN
  have HONE := Lib.hid (one_any U 1 2 ten1 ten1_in 999)
  go_wp2_with fail
  refine HONE.out.mono ?_
  rintro e U ⟨z, rfl, hc, hb, _⟩
  have HL := Lib.hid (HL.out.next hb)
  have HTK := Lib.hid (HL.out.take 1 2 (some ⟨z, 0, none⟩) [⟨ten1, 999⟩] 1 1 hc rfl (by unfold maxLen; omega) 9)
  rw [HE3.out, HN3.out] at HTK
  clear hb hc HONE
  go_wp2_with fail
  refine HTK.out.mono ?_
  rintro e U ⟨rfl, _, hl⟩
  have HL := Lib.hid hl
  clear hl HTK
  have HTK := Lib.hid (HL.out.take 16 0 none [] 0 0 (LAt.nil _ _ _ _ _ _) rfl (Nat.zero_le _) 9)
  rw [HE4.out, HN4.out] at HTK
  go_wp2_with fail
  refine HTK.out.mono ?_
  rintro e U ⟨rfl, _, hl⟩
  have HL := Lib.hid hl
  clear hl HTK
  have HTEN := Lib.hid (fun u => ten1_any u)
  go_wp2_with fail
  refine (HTEN.out _).mono ?_
  rintro e U ⟨rfl, hb⟩
  have HL := Lib.hid (HL.out.next hb)
  clear hb HTEN
  have HDD := Lib.hid (HL.out.demand ten1 ten1_in)
  rw [HD2.out] at HDD
  go_wp2_with fail
  refine HDD.out.mono ?_
  rintro e U ⟨rfl, hb⟩
  have HL := Lib.hid (HL.out.next hb)
  clear hb HDD
  have HDE := Lib.hid HL.out.demands
  go_wp2_with fail
  refine HDE.out.mono ?_
  rintro e U ⟨q, k, cap, l, rfl, hk, _, _, hat, hd, hb, _⟩
  have hl1 := hd.unique HDM.out
  subst hl1
  obtain rfl : 1 = k := hk
  have HAT := Lib.hid hat
  have HL := Lib.hid (HL.out.next hb)
  clear hat hd hb HDE
  have HST := Lib.hid (HL.out.stamp 1)
  rw [HS1.out] at HST
  go_wp2_with fail
  refine HST.out.mono ?_
  rintro e U ⟨rfl, hb⟩
  have HL := Lib.hid (HL.out.next hb)
  have HAT := Lib.hid (HAT.out.below hb)
  clear hb HST
  have HST := Lib.hid (HL.out.stamp 2)
  rw [HS2.out] at HST
  go_wp2_with fail
  refine HST.out.mono ?_
  rintro e U ⟨rfl, hb⟩
  have HL := Lib.hid (HL.out.next hb)
  have HAT := Lib.hid (HAT.out.below hb)
  clear hb HST
  have HTEN := Lib.hid (fun u => ten1_any u)
  go_wp2_with fail
  refine (HTEN.out _).mono ?_
  rintro e U ⟨rfl, hb⟩
  have HL := Lib.hid (HL.out.next hb)
  have HAT := Lib.hid (HAT.out.below hb)
  have hn := newB U (.cells #[.int .u32 167837696, .int .i64 16, .int .i64 20] 67)
  have hlit := ct_one U ⟨ten1, 20⟩ ten1_in
  have HSAME := Lib.hid (rsameT_yes q (some ⟨U.heap.size, 0, none⟩) [⟨ten1, 20⟩] 1 cap 1 _ (HAT.out.below hn) hlit rfl (by unfold maxLen; omega))
  have HL := Lib.hid (HL.out.next hn)
  clear hb HTEN hn hlit HAT
  go_wp2_with fail
  refine HSAME.out.mono ?_
  rintro e U ⟨rfl, hb⟩
  have HL := Lib.hid (HL.out.next hb)
  have HO := Lib.hid HL.out.over
  rw [HOV.out] at HO
  clear hb HSAME
  go_wp2_with fail
  refine HO.out.mono ?_
  rintro e U ⟨rfl, hb⟩
  have HL := Lib.hid (HL.out.next hb)
  have HC := Lib.hid (mcheck_any 0 (-1) none [] 0 0 U (LAt.nil _ _ _ _ _ _) rfl (Nat.zero_le _))
  rw [HCK.out] at HC
  have HC := Lib.hid (show Calls Try.prog 11 #[.agg #[.int .i64 0, .int .i64 (-1), .slice none 0 0]] U (fun e w' => e = .returned (.int .i64 1) ∧ Below U.heap.size U w') from HC.out)
  clear hb HO
  go_wp2_with fail
  refine HC.out.mono ?_
  rintro e U ⟨rfl, hb⟩
  have HL := Lib.hid (HL.out.next hb)
  clear hb HC
  go_wp2_with fail
  go_ret
  exact ⟨rfl, HL.out.2⟩
end Go.Proofs.Ytgididkpgncdjaa
