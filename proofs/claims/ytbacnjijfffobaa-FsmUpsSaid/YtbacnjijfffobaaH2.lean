/- fsm: what we say is checked; a phase is known. -/
import Derived.Test.YtbacnjijfffobaaH1
namespace Go.Proofs.Ytbacnjijfffobaa
open Go.RowKit

theorem newB (w : World) (o : Obj) : Below w.heap.size w (w.alloc o) := (Below.refl _ _).alloc (Nat.le_refl _) o
theorem hold_any (h : Int) (w : World) :
    Calls Try.prog 20 #[.int .i64 h] w fun e w' => e = .returned (.bool (holdB h)) ∧ w = w' := by
  by_cases h0 : h = 0
  · subst h0
    go_enter Try.func20, Try.ntmps20
    go_wp2
    go_ret
    exact ⟨rfl, rfl⟩
  · have hb : (h == 0) = false := by simpa using h0
    clear h0
    by_cases h3 : 3 ≤ h
    · go_enter Try.func20, Try.ntmps20
      go_wp2
      go_ret
      exact ⟨ret_bool (by simp [holdB, h3, hb]), rfl⟩
    · have hd : decide (3 ≤ h) = false := decide_eq_false h3
      go_enter Try.func20, Try.ntmps20
      go_wp2
      go_ret
      exact ⟨ret_bool (by simp [holdB, hd, hb]), rfl⟩
theorem check_yes (o : Op) (w : World) (h : okO o = true) :
    Calls Try.prog 15 #[o.v] w fun e w' => e = .returned (.int .i64 0) ∧ Below w.heap.size w w' := by
  obtain ⟨a1, a2, a3, a4, a5, a6⟩ := okO_yes h
  obtain ⟨asn, hold, id, four, paths⟩ := o
  simp only at *
  have hid : (id == 0) = false := by simpa using a4
  clear h a4
  unfold Op.v
  simp only
  cases four
  · have a2' : asn ≤ 65535 := a2
    clear a2
    go_enter Try.func15, Try.ntmps15
    go_wp2_with (go_at_call 20; refine (hold_any _ _).mono ?_; rintro e w' ⟨rfl, rfl⟩)
    go_ret
    exact ⟨rfl, newB _ _⟩
  · have a2' : asn ≤ 4294967295 := a2
    clear a2
    go_enter Try.func15, Try.ntmps15
    go_wp2_with (go_at_call 20; refine (hold_any _ _).mono ?_; rintro e w' ⟨rfl, rfl⟩)
    go_ret
    exact ⟨rfl, newB _ _⟩
set_option maxHeartbeats 2000000 in
theorem check_no (o : Op) (w : World) (h : okO o = false) :
    Calls Try.prog 15 #[o.v] w fun e w' => e = .returned (.int .i64 40) ∧ Below w.heap.size w w' := by
  obtain ⟨asn, hold, id, four, paths⟩ := o
  have hc : asn < 1 ∨ (1 ≤ asn ∧ mostAS four < asn) ∨ (1 ≤ asn ∧ asn ≤ mostAS four ∧ holdB hold = false) ∨ (1 ≤ asn ∧ asn ≤ mostAS four ∧ holdB hold = true ∧ id = 0) ∨ (1 ≤ asn ∧ asn ≤ mostAS four ∧ holdB hold = true ∧ (id == 0) = false ∧ paths < 0) ∨ (1 ≤ asn ∧ asn ≤ mostAS four ∧ holdB hold = true ∧ (id == 0) = false ∧ 0 ≤ paths ∧ 3 < paths) := by
    by_cases b1 : 1 ≤ asn
    · by_cases b2 : asn ≤ mostAS four
      · rcases b3 : holdB hold with _ | _
        · exact .inr (.inr (.inl ⟨b1, b2, rfl⟩))
        · by_cases b4 : id = 0
          · exact .inr (.inr (.inr (.inl ⟨b1, b2, rfl, b4⟩)))
          · have b4' : (id == 0) = false := by simpa using b4
            by_cases b5 : 0 ≤ paths
            · refine .inr (.inr (.inr (.inr (.inr ⟨b1, b2, rfl, b4', b5, ?_⟩))))
              by_cases b6 : paths ≤ 3
              · simp [okO, b1, b2, b3, b4', b5, b6] at h
              · omega
            · exact .inr (.inr (.inr (.inr (.inl ⟨b1, b2, rfl, b4', by omega⟩))))
      · exact .inr (.inl ⟨b1, by omega⟩)
    · exact .inl (by omega)
  clear h
  unfold Op.v
  simp only
  have hm0 : mostAS false = 65535 := rfl
  have hm1 : mostAS true = 4294967295 := rfl
  rcases hc with b1 | ⟨b1, b2⟩ | ⟨b1, b2, b3⟩ | ⟨b1, b2, b3, b4⟩ | ⟨b1, b2, b3, b4, b5⟩ | ⟨b1, b2, b3, b4, b5, b6⟩
  all_goals
    try subst b4
    cases four
    all_goals
      try rw [hm0] at b2
      try rw [hm1] at b2
      clear hm0 hm1
      go_enter Try.func15, Try.ntmps15
      go_wp2_with (go_at_call 20; refine (hold_any _ _).mono ?_; rintro e w' ⟨rfl, rfl⟩)
      go_ret
      exact ⟨rfl, newB _ _⟩

/-- What we say of ourselves, as a value. -/
def loV (o : Op) (r : Int) : Value := .agg #[.int .i64 o.asn, .int .i64 o.hold, .int .u32 o.id, .bool o.four, .int .i64 o.paths, .int .i64 r]
theorem fcheck_any (o : Op) (r : Int) (w : World) :
    Calls Try.prog 13 #[loV o r] w fun e w' => e = .returned (.int .i64 (errL o r)) ∧ Below w.heap.size w w' := by
  rcases h : okO o with _ | _
  · have HC := Lib.hid (fun u => check_no o u h)
    have HE := Lib.hid (show errL o r = 40 by unfold errL; rw [h]; rfl)
    obtain ⟨asn, hold, id, four, paths⟩ := o
    unfold Op.v at HC
    unfold loV
    dsimp only at *
    clear h
    go_enter Try.func13, Try.ntmps13
    go_wp2_with (go_at_call 15; refine (HC.out _).mono ?_; rintro e w' ⟨rfl, hb⟩)
    go_ret
    exact ⟨by rw [HE.out] <;> rfl, (newB _ _).trans (hb.mono (newB _ _).size)⟩
  · have HC := Lib.hid (fun u => check_yes o u h)
    rcases hr : okR r with _ | _
    · have HE := Lib.hid (show errL o r = 1 by unfold errL; rw [h, hr]; rfl)
      obtain ⟨asn, hold, id, four, paths⟩ := o
      unfold Op.v at HC
      unfold loV
      dsimp only at *
      clear h
      have hc : r < 1 ∨ (1 ≤ r ∧ 65535 < r) := by
        by_cases a : 1 ≤ r
        · right; refine ⟨a, ?_⟩
          rcases Int.lt_or_le 65535 r with b | b
          · exact b
          · simp [okR, a, b] at hr
        · left; omega
      clear hr
      rcases hc with b1 | ⟨b1, b2⟩
      all_goals
        go_enter Try.func13, Try.ntmps13
        go_wp2_with (go_at_call 15; refine (HC.out _).mono ?_; rintro e w' ⟨rfl, hb⟩; have hcf := bcell hb; obtain ⟨hc, hf⟩ := hcf)
        go_ret
        exact ⟨by rw [HE.out] <;> rfl, (newB _ _).trans (hb.mono (newB _ _).size)⟩
    · have HE := Lib.hid (show errL o r = 0 by unfold errL; rw [h, hr]; rfl)
      obtain ⟨asn, hold, id, four, paths⟩ := o
      unfold Op.v at HC
      unfold loV
      dsimp only at *
      clear h
      have b12 : 1 ≤ r ∧ r ≤ 65535 := by simpa [okR] using hr
      obtain ⟨b1, b2⟩ := b12
      clear hr
      go_enter Try.func13, Try.ntmps13
      go_wp2_with (go_at_call 15; refine (HC.out _).mono ?_; rintro e w' ⟨rfl, hb⟩; have hcf := bcell hb; obtain ⟨hc, hf⟩ := hcf)
      go_ret
      exact ⟨by rw [HE.out] <;> rfl, (newB _ _).trans (hb.mono (newB _ _).size)⟩
theorem known_any (s : Ph) (w : World) :
    Calls Try.prog 10 #[s.v] w fun e w' => e = .returned (.bool (knownB s)) ∧ Below w.heap.size w w' := by
  obtain ⟨ph, hold, four, paths, id⟩ := s
  unfold Ph.v knownB
  dsimp only
  by_cases h1 : 1 ≤ ph
  · have t1 : decide (1 ≤ ph) = true := decide_eq_true h1
    go_enter Try.func10, Try.ntmps10
    go_wp2_with fail
    go_ret
    exact ⟨ret_bool (by simp [h1]), newB _ _⟩
  · have t1 : decide (1 ≤ ph) = false := decide_eq_false h1
    go_enter Try.func10, Try.ntmps10
    go_wp2_with fail
    go_ret
    exact ⟨ret_bool (by simp), newB _ _⟩
theorem takes_any (p : Int) (w : World) : Calls Try.prog 32 #[.int .i64 p] w fun e w' => e = .returned (.bool (takesB p)) ∧ w = w' := by
  unfold takesB
  rcases h : p == 1 with _ | _
  · go_enter Try.func32, Try.ntmps32
    go_wp2_with fail
    go_ret
    exact ⟨ret_bool (by simp), rfl⟩
  · go_enter Try.func32, Try.ntmps32
    go_wp2_with fail
    go_ret
    exact ⟨ret_bool (by simp), rfl⟩
theorem gives_any (p : Int) (w : World) : Calls Try.prog 33 #[.int .i64 p] w fun e w' => e = .returned (.bool (givesB p)) ∧ w = w' := by
  unfold givesB
  rcases h : p == 2 with _ | _
  · go_enter Try.func33, Try.ntmps33
    go_wp2_with fail
    go_ret
    exact ⟨ret_bool (by simp), rfl⟩
  · go_enter Try.func33, Try.ntmps33
    go_wp2_with fail
    go_ret
    exact ⟨ret_bool (by simp), rfl⟩
end Go.Proofs.Ytbacnjijfffobaa
