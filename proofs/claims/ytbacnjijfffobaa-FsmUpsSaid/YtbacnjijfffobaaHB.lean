/- fsm: the document's own Check of what we say; States compared. -/
import Derived.Test.YtbacnjijfffobaaH9
namespace Go.Proofs.Ytbacnjijfffobaa
open Go.RowKit

theorem okO_parts (asn hold id paths : Int) (four : Bool) : okO ⟨asn, hold, id, four, paths⟩ = (decide (1 ≤ asn) && decide (asn ≤ mostAS four) && holdB hold && !(id == 0) && decide (0 ≤ paths) && decide (paths ≤ 3)) := rfl
theorem holdB_neg {n : Int} (h : n < 0) : holdB n = false := by
  simp only [holdB, Bool.or_eq_false_iff, beq_eq_false_iff_ne, Bool.and_eq_false_iff, decide_eq_false_iff_not]
  omega
theorem holdB_big {n : Int} (h : 65535 < n) : holdB n = false := by
  simp only [holdB, Bool.or_eq_false_iff, beq_eq_false_iff_ne, Bool.and_eq_false_iff, decide_eq_false_iff_not]
  omega
theorem holdB_fine {n : Int} (h0 : 0 ≤ n) (h1 : n ≤ 65535) (n1 : n ≠ 1) (n2 : n ≠ 2) : holdB n = true := by
  simp only [holdB, Bool.or_eq_true, beq_iff_eq, Bool.and_eq_true, decide_eq_true_eq]
  omega
/-- Where the document's own Check stops, and with what. -/
def RStop (asn hold id paths : Int) (four : Bool) : Prop :=
  asn < 1 ∨ (1 ≤ asn ∧ 4294967295 < asn) ∨ (1 ≤ asn ∧ asn ≤ 4294967295 ∧ four = false ∧ 65535 < asn) ∨
  (1 ≤ asn ∧ asn ≤ mostAS four ∧ hold < 0) ∨ (1 ≤ asn ∧ asn ≤ mostAS four ∧ 0 ≤ hold ∧ 65535 < hold) ∨ (1 ≤ asn ∧ asn ≤ mostAS four ∧ hold = 1) ∨ (1 ≤ asn ∧ asn ≤ mostAS four ∧ hold = 2) ∨
  (1 ≤ asn ∧ asn ≤ mostAS four ∧ 0 ≤ hold ∧ hold ≤ 65535 ∧ (hold != 1) = true ∧ (hold != 2) = true ∧ id = 0) ∨
  (1 ≤ asn ∧ asn ≤ mostAS four ∧ 0 ≤ hold ∧ hold ≤ 65535 ∧ (hold != 1) = true ∧ (hold != 2) = true ∧ (id != 0) = true ∧ paths < 0) ∨
  (1 ≤ asn ∧ asn ≤ mostAS four ∧ 0 ≤ hold ∧ hold ≤ 65535 ∧ (hold != 1) = true ∧ (hold != 2) = true ∧ (id != 0) = true ∧ 0 ≤ paths ∧ 3 < paths)
theorem rstop {asn hold id paths : Int} {four : Bool} (h : okO ⟨asn, hold, id, four, paths⟩ = false) : RStop asn hold id paths four := by
  unfold RStop
  have hm := mostAS_le four
  by_cases b1 : 1 ≤ asn
  · by_cases b2 : asn ≤ 4294967295
    · by_cases b3 : asn ≤ mostAS four
      · by_cases b4 : 0 ≤ hold
        · by_cases b5 : hold ≤ 65535
          · by_cases b6 : hold = 1
            · exact .inr (.inr (.inr (.inr (.inr (.inl ⟨b1, b3, b6⟩)))))
            · by_cases b7 : hold = 2
              · exact .inr (.inr (.inr (.inr (.inr (.inr (.inl ⟨b1, b3, b7⟩))))))
              · have e1 : (hold != 1) = true := by simpa using b6
                have e2 : (hold != 2) = true := by simpa using b7
                have hh := holdB_fine b4 b5 b6 b7
                by_cases b8 : id = 0
                · exact .inr (.inr (.inr (.inr (.inr (.inr (.inr (.inl ⟨b1, b3, b4, b5, e1, e2, b8⟩)))))))
                · have e3 : (id != 0) = true := by simpa using b8
                  have e4 : (id == 0) = false := by simpa using b8
                  by_cases b9 : 0 ≤ paths
                  · refine .inr (.inr (.inr (.inr (.inr (.inr (.inr (.inr (.inr ⟨b1, b3, b4, b5, e1, e2, e3, b9, ?_⟩))))))))
                    by_cases c1 : paths ≤ 3
                    · rw [okO_parts, decide_eq_true b1, decide_eq_true b3, hh, e4, decide_eq_true b9, decide_eq_true c1] at h
                      cases h
                    · omega
                  · exact .inr (.inr (.inr (.inr (.inr (.inr (.inr (.inr (.inl ⟨b1, b3, b4, b5, e1, e2, e3, by omega⟩))))))))
          · exact .inr (.inr (.inr (.inr (.inl ⟨b1, b3, b4, by omega⟩))))
        · exact .inr (.inr (.inr (.inl ⟨b1, b3, by omega⟩)))
      · cases four
        · exact .inr (.inr (.inl ⟨b1, b2, rfl, by simp [mostAS] at b3; omega⟩))
        · simp [mostAS] at b3; omega
    · exact .inr (.inl ⟨b1, by omega⟩)
  · exact .inl (by omega)

set_option maxHeartbeats 4000000 in
theorem rcheck_no (asn hold id paths : Int) (four : Bool) (w : World) (h : okO ⟨asn, hold, id, four, paths⟩ = false) :
    Calls Try.prog 11 #[.agg #[.int .i64 asn, .int .i64 hold, .int .u32 id, .bool four, .int .i64 paths]] w fun e w' => e = .returned (.bool false) ∧ Below w.heap.size w w' := by
  have hs := rstop h
  clear h
  have hm0 : mostAS false = 65535 := rfl
  have hm1 : mostAS true = 4294967295 := rfl
  rcases hs with b1 | ⟨b1, b2⟩ | ⟨b1, b2, rfl, b3⟩ | ⟨b1, b2, b3⟩ | ⟨b1, b2, b3, b4⟩ | ⟨b1, b2, rfl⟩ | ⟨b1, b2, rfl⟩ | ⟨b1, b2, b3, b4, b5, b6, rfl⟩ | ⟨b1, b2, b3, b4, b5, b6, b7, b8⟩ | ⟨b1, b2, b3, b4, b5, b6, b7, b8, b9⟩
  · clear hm0 hm1
    go_enter Try.func11, Try.ntmps11
    go_wp2
    go_ret
    exact ⟨ret_bool (by first | rfl | exact decide_eq_false (by omega)), newB _ _⟩
  · clear hm0 hm1
    go_enter Try.func11, Try.ntmps11
    go_wp2
    go_ret
    exact ⟨ret_bool (by first | rfl | exact decide_eq_false (by omega)), newB _ _⟩
  · clear hm0 hm1
    go_enter Try.func11, Try.ntmps11
    go_wp2
    go_ret
    exact ⟨ret_bool (by first | rfl | exact decide_eq_false (by omega)), newB _ _⟩
  all_goals
    cases four
    · rw [hm0] at b2
      have b2' : asn ≤ 4294967295 := by omega
      clear hm0 hm1
      go_enter Try.func11, Try.ntmps11
      go_wp2
      go_ret
      exact ⟨ret_bool (by first | rfl | exact decide_eq_false (by omega)), newB _ _⟩
    · rw [hm1] at b2
      clear hm0 hm1
      go_enter Try.func11, Try.ntmps11
      go_wp2
      go_ret
      exact ⟨ret_bool (by first | rfl | exact decide_eq_false (by omega)), newB _ _⟩
set_option maxHeartbeats 1000000 in
theorem rcheck_yes (asn hold id paths : Int) (four : Bool) (w : World) (h : okO ⟨asn, hold, id, four, paths⟩ = true) :
    Calls Try.prog 11 #[.agg #[.int .i64 asn, .int .i64 hold, .int .u32 id, .bool four, .int .i64 paths]] w fun e w' => e = .returned (.bool true) ∧ Below w.heap.size w w' := by
  obtain ⟨b1, b2, b3, b4, b5, b6⟩ := okO_yes h
  simp only at b1 b2 b3 b4 b5 b6
  have hh := holdB_yes b3
  have c1 : 0 ≤ hold := by omega
  have c2 : hold ≤ 65535 := by omega
  have c3 : (hold != 1) = true := by rw [bne_iff_ne]; omega
  have c4 : (hold != 2) = true := by rw [bne_iff_ne]; omega
  have c5 : (id != 0) = true := by simpa using b4
  clear h b3 b4 hh
  cases four
  · have b2' : asn ≤ 65535 := b2
    have b2'' : asn ≤ 4294967295 := by omega
    clear b2
    go_enter Try.func11, Try.ntmps11
    go_wp2
    go_ret
    exact ⟨ret_bool (by first | rfl | exact decide_eq_true (by omega)), newB _ _⟩
  · have b2' : asn ≤ 4294967295 := b2
    clear b2
    go_enter Try.func11, Try.ntmps11
    go_wp2
    go_ret
    exact ⟨ret_bool (by first | rfl | exact decide_eq_true (by omega)), newB _ _⟩
theorem rcheck_any (asn hold id paths : Int) (four : Bool) (w : World) :
    Calls Try.prog 11 #[.agg #[.int .i64 asn, .int .i64 hold, .int .u32 id, .bool four, .int .i64 paths]] w fun e w' => e = .returned (.bool (okO ⟨asn, hold, id, four, paths⟩)) ∧ Below w.heap.size w w' := by
  rcases h : okO ⟨asn, hold, id, four, paths⟩ with _ | _
  · exact rcheck_no asn hold id paths four w h
  · exact rcheck_yes asn hold id paths four w h
theorem rfcheck_any (o : Op) (r : Int) (w : World) :
    Calls Try.prog 6 #[loV o r] w fun e w' => e = .returned (.bool (okL o r)) ∧ Below w.heap.size w w' := by
  obtain ⟨asn, hold, id, four, paths⟩ := o
  have HC := Lib.hid (fun (u : World) => rcheck_any asn hold id paths four u)
  obtain ⟨K, hK⟩ : ∃ K, okO ⟨asn, hold, id, four, paths⟩ = K := ⟨_, rfl⟩
  rw [hK] at HC
  have HE := Lib.hid (show okL ⟨asn, hold, id, four, paths⟩ r = (K && (decide (1 ≤ r) && decide (r ≤ 65535))) by rw [← hK]; rfl)
  unfold loV
  dsimp only
  clear hK
  rcases K with _ | _
  · go_enter Try.func6, Try.ntmps6
    go_wp2_with (go_at_call 11; refine (HC.out _).mono ?_; rintro e w' ⟨rfl, hb⟩; have HB := Lib.hid hb; have hcf := bcell hb; obtain ⟨hc, hf⟩ := hcf; clear hb)
    go_ret
    exact ⟨by rw [HE.out] <;> rfl, (newB _ _).trans (HB.out.mono (newB _ _).size)⟩
  · by_cases h1 : 1 ≤ r
    · have d1 : decide (1 ≤ r) = true := decide_eq_true h1
      rw [d1] at HE
      go_enter Try.func6, Try.ntmps6
      go_wp2_with (go_at_call 11; refine (HC.out _).mono ?_; rintro e w' ⟨rfl, hb⟩; have HB := Lib.hid hb; have hcf := bcell hb; obtain ⟨hc, hf⟩ := hcf; clear hb)
      go_ret
      exact ⟨by rw [HE.out]; exact ret_bool (by simp), (newB _ _).trans (HB.out.mono (newB _ _).size)⟩
    · have d1 : decide (1 ≤ r) = false := decide_eq_false h1
      rw [d1] at HE
      go_enter Try.func6, Try.ntmps6
      go_wp2_with (go_at_call 11; refine (HC.out _).mono ?_; rintro e w' ⟨rfl, hb⟩; have HB := Lib.hid hb; have hcf := bcell hb; obtain ⟨hc, hf⟩ := hcf; clear hb)
      go_ret
      exact ⟨by rw [HE.out]; exact ret_bool (by simp), (newB _ _).trans (HB.out.mono (newB _ _).size)⟩
theorem st_eq (w : World) : (binOp .eql 31 (.agg #[.int .i64 2, .int .i64 0, .bool false, .bool false, .int .u32 0]) (.agg #[.int .i64 2, .int .i64 0, .bool false, .bool false, .int .u32 0])).run Try.prog w = .ok (.bool true) w := by kernel_rfl
theorem st_eq4 (w : World) : (binOp .eql 31 (.agg #[.int .i64 4, .int .i64 30, .bool true, .bool true, .int .u32 2]) (.agg #[.int .i64 4, .int .i64 30, .bool true, .bool true, .int .u32 2])).run Try.prog w = .ok (.bool true) w := by kernel_rfl
theorem st_guard (op : BinOp) (x y : Operand) (xs ys : Array Value) (w : World) : (eqGuard op 31 x y (.agg xs) (.agg ys)).run Try.prog w = .ok () w := run_eqGuard_agg w op _ x y xs ys (by kernel_rfl)
end Go.Proofs.Ytbacnjijfffobaa
