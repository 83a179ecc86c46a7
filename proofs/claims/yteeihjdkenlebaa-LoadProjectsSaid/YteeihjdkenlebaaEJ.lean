/- load: the document's Add, Taken, Project. -/
import Derived.Test.YteeihjdkenlebaaEH
import Derived.Test.YteeihjdkenlebaaE9
namespace Go.Proofs.Yteeihjdkenlebaa
open Go.RowKit Go.Maps
set_option linter.unusedVariables false
set_option linter.unusedSimpArgs false
set_option maxRecDepth 100000

theorem RlAt.over {w : World} {X : Nat} {q : Option Addr} {L : List Lo} {n cap : Nat} {ov : Bool} (h : RlAt w X q L n cap ov) (o : Bool) : RlAt (w.setCell ⟨X, 1, none⟩ (.bool o)) X q L n cap o ∧ Turns (fun k => k = X) w (w.setCell ⟨X, 1, none⟩ (.bool o)) := by
  have hT : Turns (fun k => k = X) w (w.setCell ⟨X, 1, none⟩ (.bool o)) := (Turns.refl (fun k => k = X) w).setCell (p := ⟨X, 1, none⟩) (.inl rfl) _
  exact ⟨⟨h.blk.set 1 _, h.at_.turns hT fun b off e h' => h.ne b off e h', h.len, h.ne⟩, hT⟩
set_option maxHeartbeats 8000000 in
theorem rladd2_any (w : World) (X : Nat) (q : Option Addr) (L : List Lo) (n cap : Nat) (ov : Bool) (h : RlAt w X q L n cap ov) (hm : n < 1000000) (f : Int → Option Int) (hL : AllL f L) (i x : Int) (hi : (Lit.int .i64 i).wf = true) :
    Calls Try.prog 11 #[.pointer (some ⟨X, 0, none⟩), .int .i64 i, .int .i64 x] w fun e w' => e = .returned (.tuple #[]) ∧ RlTo w w' X (n + 1) (chF add f i x) (chO add f ov i x) := by
  have HNR := Lib.hid (rnear_any x w)
  have HOF := Lib.hid (rlof_any w X q L n cap ov h hm f hL i)
  obtain ⟨v, hv⟩ : ∃ v, (f i).getD 0 = v := ⟨_, rfl⟩
  obtain ⟨N, hN⟩ : ∃ N, near x = N := ⟨_, rfl⟩
  have hRA := radd_any v N w
  obtain ⟨S, hS⟩ : ∃ S, add v x = S := ⟨_, rfl⟩
  rw [show add v N = S from by rw [← hS, ← hN]; unfold add; rw [near_near]] at hRA
  have HRA := Lib.hid hRA
  rw [hv] at HOF
  rw [hN] at HNR
  have hS0 : 0 ≤ S := hS ▸ near_lo _
  have hS1 : S ≤ 9007199254740991 := hS ▸ near_hi _
  have HCO := Lib.hid (show chO add f ov i x = (ov || (N == 9007199254740991) || (decide (0 ≤ i) && (S == 9007199254740991))) from by unfold chO; rw [hN, hv, hS])
  have HCF := Lib.hid (show chF add f i x = if 0 ≤ i then setL f i S else f from by unfold chF; rw [hv, hS])
  have HSET := Lib.hid (fun o => rlset_any _ X q L n cap o (h.over o).1 hm f hL i S hi hS0 hS1)
  have HOV := Lib.hid (fun o => h.over o)
  have HL := Lib.hid hL
  have c1 : w.cell? ⟨X, 1, none⟩ = some (.bool ov) := h.blk.cellAt rfl
  have f1 := h.blk.f 1
  clear hv hN hS hRA h hL hS0 hS1

  by_cases h0 : 0 ≤ i
  · have t0 : decide (0 ≤ i) = true := decide_eq_true h0
    rcases ov with _ | _
    · by_cases hN : N = 9007199254740991
      · have e1 : decide (N = 9007199254740991) = true := decide_eq_true hN
        have NE : (N == 9007199254740991) = true := by simpa using hN
        clear hN
        go_enter Try.func11, Try.ntmps11
        go_wp2_with (first | (go_at_call 29; refine HNR.out.mono ?_; rintro e w' ⟨rfl, rfl⟩) | (go_at_call 18; refine HOF.out.mono ?_; rintro e w' ⟨rfl, rfl⟩) | (go_at_call 30; refine HRA.out.mono ?_; rintro e w' ⟨rfl, rfl⟩) | (go_at_call 31; refine (HSET.out true).mono ?_; rintro e W2 ⟨rfl, hto⟩))
        go_end0
        have hco : chO add f false i x = true := by rw [HCO.out]; simp [NE]
        obtain ⟨q', L', n', cap', h1, h2, h3, h4⟩ := hto
        exact ⟨rfl, q', L', n', cap', by rw [hco]; exact h1, by rw [HCF.out, if_pos (by omega)]; exact h2, h3, (HOV.out true).2.trans h4⟩
      · have e1 : decide (N = 9007199254740991) = false := decide_eq_false hN
        have NE : (N == 9007199254740991) = false := by simpa using hN
        clear hN
        by_cases hS : S = 9007199254740991
        · have e2 : decide (S = 9007199254740991) = true := decide_eq_true hS
          have SE : (S == 9007199254740991) = true := by simpa using hS
          clear hS
          go_enter Try.func11, Try.ntmps11
          go_wp2_with (first | (go_at_call 29; refine HNR.out.mono ?_; rintro e w' ⟨rfl, rfl⟩) | (go_at_call 18; refine HOF.out.mono ?_; rintro e w' ⟨rfl, rfl⟩) | (go_at_call 30; refine HRA.out.mono ?_; rintro e w' ⟨rfl, rfl⟩) | (go_at_call 31; refine (HSET.out true).mono ?_; rintro e W2 ⟨rfl, hto⟩))
          go_end0
          have hco : chO add f false i x = true := by rw [HCO.out]; simp [NE, SE, t0]
          obtain ⟨q', L', n', cap', h1, h2, h3, h4⟩ := hto
          exact ⟨rfl, q', L', n', cap', by rw [hco]; exact h1, by rw [HCF.out, if_pos (by omega)]; exact h2, h3, (HOV.out true).2.trans h4⟩
        · have e2 : decide (S = 9007199254740991) = false := decide_eq_false hS
          have SE : (S == 9007199254740991) = false := by simpa using hS
          clear hS
          go_enter Try.func11, Try.ntmps11
          go_wp2_with (first | (go_at_call 29; refine HNR.out.mono ?_; rintro e w' ⟨rfl, rfl⟩) | (go_at_call 18; refine HOF.out.mono ?_; rintro e w' ⟨rfl, rfl⟩) | (go_at_call 30; refine HRA.out.mono ?_; rintro e w' ⟨rfl, rfl⟩) | (go_at_call 31; refine (HSET.out false).mono ?_; rintro e W2 ⟨rfl, hto⟩))
          go_end0
          have hco : chO add f false i x = false := by rw [HCO.out]; simp [NE, SE, t0]
          obtain ⟨q', L', n', cap', h1, h2, h3, h4⟩ := hto
          exact ⟨rfl, q', L', n', cap', by rw [hco]; exact h1, by rw [HCF.out, if_pos (by omega)]; exact h2, h3, (HOV.out false).2.trans h4⟩
    · skip
      go_enter Try.func11, Try.ntmps11
      go_wp2_with (first | (go_at_call 29; refine HNR.out.mono ?_; rintro e w' ⟨rfl, rfl⟩) | (go_at_call 18; refine HOF.out.mono ?_; rintro e w' ⟨rfl, rfl⟩) | (go_at_call 30; refine HRA.out.mono ?_; rintro e w' ⟨rfl, rfl⟩) | (go_at_call 31; refine (HSET.out true).mono ?_; rintro e W2 ⟨rfl, hto⟩))
      go_end0
      have hco : chO add f true i x = true := by rw [HCO.out]; simp
      obtain ⟨q', L', n', cap', h1, h2, h3, h4⟩ := hto
      exact ⟨rfl, q', L', n', cap', by rw [hco]; exact h1, by rw [HCF.out, if_pos (by omega)]; exact h2, h3, (HOV.out true).2.trans h4⟩
  · have t0 : decide (0 ≤ i) = false := decide_eq_false h0
    rcases ov with _ | _
    · by_cases hN : N = 9007199254740991
      · have e1 : decide (N = 9007199254740991) = true := decide_eq_true hN
        have NE : (N == 9007199254740991) = true := by simpa using hN
        clear hN
        go_enter Try.func11, Try.ntmps11
        go_wp2_with (first | (go_at_call 29; refine HNR.out.mono ?_; rintro e w' ⟨rfl, rfl⟩) | (go_at_call 18; refine HOF.out.mono ?_; rintro e w' ⟨rfl, rfl⟩) | (go_at_call 30; refine HRA.out.mono ?_; rintro e w' ⟨rfl, rfl⟩))
        go_end0
        have hco : chO add f false i x = true := by rw [HCO.out]; simp [NE]
        exact ⟨rfl, q, L, n, cap, by rw [hco]; exact (HOV.out true).1, by rw [HCF.out, if_neg (by omega)]; exact HL.out, by omega, (HOV.out true).2⟩
      · have e1 : decide (N = 9007199254740991) = false := decide_eq_false hN
        have NE : (N == 9007199254740991) = false := by simpa using hN
        clear hN
        go_enter Try.func11, Try.ntmps11
        go_wp2_with (first | (go_at_call 29; refine HNR.out.mono ?_; rintro e w' ⟨rfl, rfl⟩) | (go_at_call 18; refine HOF.out.mono ?_; rintro e w' ⟨rfl, rfl⟩) | (go_at_call 30; refine HRA.out.mono ?_; rintro e w' ⟨rfl, rfl⟩))
        go_end0
        have hco : chO add f false i x = false := by rw [HCO.out]; simp [NE, t0]
        exact ⟨rfl, q, L, n, cap, by rw [hco]; exact (HOV.out false).1, by rw [HCF.out, if_neg (by omega)]; exact HL.out, by omega, (HOV.out false).2⟩
    · skip
      go_enter Try.func11, Try.ntmps11
      go_wp2_with (first | (go_at_call 29; refine HNR.out.mono ?_; rintro e w' ⟨rfl, rfl⟩) | (go_at_call 18; refine HOF.out.mono ?_; rintro e w' ⟨rfl, rfl⟩) | (go_at_call 30; refine HRA.out.mono ?_; rintro e w' ⟨rfl, rfl⟩))
      go_end0
      have hco : chO add f true i x = true := by rw [HCO.out]; simp
      exact ⟨rfl, q, L, n, cap, by rw [hco]; exact (HOV.out true).1, by rw [HCF.out, if_neg (by omega)]; exact HL.out, by omega, (HOV.out true).2⟩
set_option maxHeartbeats 4000000 in
theorem rltaken_any (w : World) (x : Wt) (hd : OvsAt w x.d x.D) (hn : x.D.length = x.dn) (hm : x.dn ≤ maxLen) :
    Calls Try.prog 25 #[wtV x] w fun e w' => e = .returned (ovV (takenV x)) ∧ w' = (w.alloc (.cells (wtC x).toArray 54)).alloc (.cells (ovC (takenV x)).toArray 51) := by
  unfold maxLen at hm
  obtain ⟨xa, xn, xc, ⟨fr, fa, fn, fi, fog, fp1, fn1, fc1, fnx, fmd, fpf, fp2, fn2, fc2, ff⟩, d, dn, dc, at_, D⟩ := x
  dsimp only at hd hn hm
  unfold takenV
  dsimp only
  have HB := Lib.hid (fun o1 o2 => show Below w.heap.size w ((w.alloc o1).alloc o2) from (newB w o1).trans ((newB (w.alloc o1) o2).mono (newB w o1).size))
  by_cases h0 : 0 ≤ at_
  · have t0 : decide (0 ≤ at_) = true := decide_eq_true h0
    by_cases h1 : at_ < dn
    · have t1 : decide (at_ < (dn : Int)) = true := decide_eq_true h1
      rw [if_pos ⟨h0, h1⟩]
      obtain ⟨k, rfl⟩ : ∃ k : Nat, at_ = k := ⟨at_.toNat, by omega⟩
      have hk : k < dn := by omega
      obtain ⟨b, off, rfl, c0, c1, c2, c3, c4, c5, c6, c7, c8, c9, c10⟩ := ov_cell hd hn hk
      rw [Int.toNat_natCast]
      obtain ⟨y, hy⟩ : ∃ y, D.getD k Ov.zero = y := ⟨_, rfl⟩
      rw [hy] at c0 c1 c2 c3 c4 c5 c6 c7 c8 c9 c10 ⊢
      obtain ⟨yr, ya, yn, yi, yog, yp1, yn1, yc1, ynx, ymd, ypf, yp2, yn2, yc2, yf⟩ := y
      dsimp only at c0 c1 c2 c3 c4 c5 c6 c7 c8 c9 c10
      clear hy
      have hU := HB.out (.cells #[.int .u32 xa, .int .i64 xn, .int .i64 xc, .int .i64 fr, .int .u32 fa, .int .i64 fn, .int .i64 fi, .int .i64 fog, .slice fp1 fn1 fc1, .int .u32 fnx, .int .i64 fmd, .int .i64 fpf, .slice fp2 fn2 fc2, .int .i64 ff, .slice (some ⟨b, off, none⟩) dn dc, .int .i64 (k : Int)] 54) (.cells #[.int .i64 0, .int .u32 0, .int .i64 0, .int .i64 0, .int .i64 0, .slice none 0 0, .int .u32 0, .int .i64 0, .int .i64 0, .slice none 0 0, .int .i64 0] 51)
      replace c0 := kept hU c0
      replace c1 := kept hU c1
      replace c2 := kept hU c2
      replace c3 := kept hU c3
      replace c4 := kept hU c4
      replace c5 := kept hU c5
      replace c6 := kept hU c6
      replace c7 := kept hU c7
      replace c8 := kept hU c8
      replace c9 := kept hU c9
      replace c10 := kept hU c10
      clear hU
      go_enter Try.func25, Try.ntmps25
      go_wp2_with fail
      ((try simp only [Exit.inBlock, Exit.then]); refine bodyPost_ret (v := ovV ⟨yr, ya, yn, yi, yog, yp1, yn1, yc1, ynx, ymd, ypf, yp2, yn2, yc2, yf⟩) (by simp [results, Try.results25, go_sem]) rfl ⟨rfl, rfl⟩)
    · have t1 : decide (at_ < (dn : Int)) = false := decide_eq_false h1
      rw [if_neg (fun h => h1 h.2)]
      go_enter Try.func25, Try.ntmps25
      go_wp2_with fail
      ((try simp only [Exit.inBlock, Exit.then]); refine bodyPost_ret (v := ovV ⟨fr, fa, fn, fi, fog, fp1, fn1, fc1, fnx, fmd, fpf, fp2, fn2, fc2, ff⟩) (by simp [results, Try.results25, go_sem]) rfl ⟨rfl, rfl⟩)
  · have t0 : decide (0 ≤ at_) = false := decide_eq_false h0
    rw [if_neg (fun h => h0 h.1)]
    go_enter Try.func25, Try.ntmps25
    go_wp2_with fail
    ((try simp only [Exit.inBlock, Exit.then]); refine bodyPost_ret (v := ovV ⟨fr, fa, fn, fi, fog, fp1, fn1, fc1, fnx, fmd, fpf, fp2, fn2, fc2, ff⟩) (by simp [results, Try.results25, go_sem]) rfl ⟨rfl, rfl⟩)
end Go.Proofs.Yteeihjdkenlebaa
