/- best: one standing waits for another. -/
import Derived.Test.YtljbebeaahcjaaaB5
namespace Go.Proofs.Ytljbebeaahcjaaa
open Go.RowKit Go.Maps Go.Sort Go.Shelf
set_option linter.unusedVariables false
set_option linter.unusedSimpArgs false
set_option maxRecDepth 100000

theorem lk_eql (x0 x1 x2 y0 y1 y2 : Int) (w : World) : (binOp .eql 55 (.agg #[.int .i64 x0, .int .i64 x1, .int .i64 x2]) (.agg #[.int .i64 y0, .int .i64 y1, .int .i64 y2])).run Try.prog w = .ok (.bool (x0 == y0 && x1 == y1 && x2 == y2)) w := by
  have p0 : ∀ a b c : Value, (part 3 #[a, b, c] 0).run Try.prog w = .ok a w := fun a b c => by kernel_rfl
  have p1 : ∀ a b c : Value, (part 3 #[a, b, c] 1).run Try.prog w = .ok b w := fun a b c => by kernel_rfl
  have p2 : ∀ a b c : Value, (part 3 #[a, b, c] 2).run Try.prog w = .ok c w := fun a b c => by kernel_rfl
  have q : ∀ a b : Int, (Op.equalIn 9999 3 (.int .i64 a) (.int .i64 b)).run Try.prog w = .ok (a == b) w := fun a b => run_equalIn_int w 9998 _ _ _ a b Try.underlying3
  have hc : Try.prog.cellsOf 3 = 1 := by kernel_rfl
  obtain ⟨i, hi, _⟩ := info_partsL (t := 3) (z := .int .i64 0) (s := 1) (b := 8) (by kernel_rfl)
  rw [run_eql_struct, run_equalIn_array w 9999 (n := 3) (e := 3) (i := i) _ _ (by kernel_rfl) hi]
  rw [show List.range 3 = [0, 1, 2] from rfl, hc]
  simp only [Op.eqItems, Sem.run_bind, Nat.zero_mul, Nat.one_mul, show 2 * 1 = 2 from rfl, p0, p1, p2, q, Result.andThen_ok]
  rcases x0 == y0 with _ | _
  · simp [Sem.run_pure]
  · simp only [Bool.not_true, Bool.false_eq_true, if_false, Sem.run_bind, p1, q, Result.andThen_ok]
    rcases x1 == y1 with _ | _
    · simp [Sem.run_pure]
    · simp only [Bool.not_true, Bool.false_eq_true, if_false, Sem.run_bind, p2, q, Result.andThen_ok]
      rcases x2 == y2 with _ | _ <;> simp [Sem.run_pure]
def waitB (x o : St) : Bool := (x.t0 == o.t0 && x.t1 == o.t1 && x.t2 == o.t2) && (x.a == o.a) && decide (cmp3 (x.u0, x.u1, x.u2) (o.u0, o.u1, o.u2) < 0)
def waitV (x o : St) : St := bif waitB x o then ⟨x.p, x.t0, x.t1, x.t2, x.a, x.m, o.u0, o.u1, o.u2⟩ else x
theorem StsAt.setSame {w : World} {R n k : Nat} {L : List St} (h : StsAt w R L) (hn : L.length = n) (hk : k < n) {x : St} (hx : L.getD k St.zero = x) : StsAt w R (L.set k x) := by
  have : L.set k x = L := by
    apply List.ext_getElem (by simp)
    intro i h1 h2
    rw [List.getElem_set]
    split
    · rename_i e; subst e
      rw [← hx]; simp [List.getD, h2]
    · rfl
  rw [this]; exact h
theorem StsAt.three {w : World} {R n k : Nat} {L : List St} (h : StsAt w R L) (hn : L.length = n) (hk : k < n) {x : St} (hx : L.getD k St.zero = x) (a b c : Int) :
    StsAt (((w.setCell ⟨R, k * 9 + 6, none⟩ (.int .i64 a)).setCell ⟨R, k * 9 + 6 + 1, none⟩ (.int .i64 b)).setCell ⟨R, k * 9 + 6 + 2, none⟩ (.int .i64 c)) R (L.set k ⟨x.p, x.t0, x.t1, x.t2, x.a, x.m, a, b, c⟩) := by
  obtain ⟨⟨h0, h1, h2, h3, h4, h5, h6, h7, h8⟩, _⟩ := h.one hn hk hx
  have e1 := fun t => cell_set_at (t := t) (v := .int .i64 a) h6
  have h7' := (e1 (k * 9 + 6 + 1)).trans ((if_neg (by omega)).trans h7)
  have e2 := fun t => cell_set_at (t := t) (v := .int .i64 b) h7'
  have h8' := (e2 (k * 9 + 6 + 2)).trans ((if_neg (by omega)).trans ((e1 _).trans ((if_neg (by omega)).trans h8)))
  have e3 := fun t => cell_set_at (t := t) (v := .int .i64 c) h8'
  have hall : ∀ t, (((w.setCell ⟨R, k * 9 + 6, none⟩ (.int .i64 a)).setCell ⟨R, k * 9 + 6 + 1, none⟩ (.int .i64 b)).setCell ⟨R, k * 9 + 6 + 2, none⟩ (.int .i64 c)).cell? ⟨R, t, none⟩ = if t = k * 9 + 6 + 2 then some (.int .i64 c) else if t = k * 9 + 6 + 1 then some (.int .i64 b) else if t = k * 9 + 6 then some (.int .i64 a) else w.cell? ⟨R, t, none⟩ := fun t => by rw [e3, e2, e1]
  refine h.put hn hk _ (by simp) (fun j v hv => ?_) (fun t => by rw [World.frozen?_setCell, World.frozen?_setCell, World.frozen?_setCell]) fun t ht => ?_
  · rw [hall]
    have hj : j < 9 := (List.getElem?_eq_some_iff.1 hv).1
    rcases j with _ | _ | _ | _ | _ | _ | _ | _ | _ | j
    · have : Value.int .i64 x.p = v := by simpa [stC] using hv
      subst this; rw [if_neg (by omega), if_neg (by omega), if_neg (by omega)]; exact h0
    · have : Value.int .i64 x.t0 = v := by simpa [stC] using hv
      subst this; rw [if_neg (by omega), if_neg (by omega), if_neg (by omega)]; exact h1
    · have : Value.int .i64 x.t1 = v := by simpa [stC] using hv
      subst this; rw [if_neg (by omega), if_neg (by omega), if_neg (by omega)]; exact h2
    · have : Value.int .i64 x.t2 = v := by simpa [stC] using hv
      subst this; rw [if_neg (by omega), if_neg (by omega), if_neg (by omega)]; exact h3
    · have : Value.int .i64 x.a = v := by simpa [stC] using hv
      subst this; rw [if_neg (by omega), if_neg (by omega), if_neg (by omega)]; exact h4
    · have : Value.int .i64 x.m = v := by simpa [stC] using hv
      subst this; rw [if_neg (by omega), if_neg (by omega), if_neg (by omega)]; exact h5
    · have : Value.int .i64 a = v := by simpa [stC] using hv
      subst this; rw [if_neg (by omega), if_neg (by omega), if_pos (by omega)]
    · have : Value.int .i64 b = v := by simpa [stC] using hv
      subst this; rw [if_neg (by omega), if_pos (by omega)]
    · have : Value.int .i64 c = v := by simpa [stC] using hv
      subst this; rw [if_pos (by omega)]
    · omega
  · rw [hall, if_neg (by omega), if_neg (by omega), if_neg (by omega)]
theorem Turns.drewN {S : Nat → Prop} {a w : World} (h : Turns S a w) (n : Nat) : Turns S a (w.drewN n) := ⟨h.os, h.tape, h.output, h.size, h.block⟩
set_option maxHeartbeats 8000000 in
theorem wait_any (w : World) (R n k : Nat) (L : List St) (h : StsAt w R L) (hn : L.length = n) (hn6 : n ≤ 1000000) (hk : k < n) (x o : St) (hx : L.getD k St.zero = x) :
    Calls Try.prog 22 #[.pointer (some ⟨R, k * 9, none⟩), stV o] w fun e w' => e = .returned (.tuple #[]) ∧ StsAt w' R (L.set k (waitV x o)) ∧ Turns (fun b => b = R) w w' := by
  have hlt := h.lt
  obtain ⟨y0, y1, y2, y3, y4, y5, y6, y7, y8⟩ := o
  have hb := newB w (.cells #[.int .i64 y0, .int .i64 y1, .int .i64 y2, .int .i64 y3, .int .i64 y4, .int .i64 y5, .int .i64 y6, .int .i64 y7, .int .i64 y8] 57)
  have hY := Blk.new w 57 [.int .i64 y0, .int .i64 y1, .int .i64 y2, .int .i64 y3, .int .i64 y4, .int .i64 y5, .int .i64 y6, .int .i64 y7, .int .i64 y8]
  obtain ⟨P, hP⟩ : ∃ P, w.heap.size = P := ⟨_, rfl⟩
  obtain ⟨V, hV⟩ : ∃ V, w.alloc (.cells #[.int .i64 y0, .int .i64 y1, .int .i64 y2, .int .i64 y3, .int .i64 y4, .int .i64 y5, .int .i64 y6, .int .i64 y7, .int .i64 y8] 57) = V := ⟨_, rfl⟩
  have hY : Blk V P 57 [.int .i64 y0, .int .i64 y1, .int .i64 y2, .int .i64 y3, .int .i64 y4, .int .i64 y5, .int .i64 y6, .int .i64 y7, .int .i64 y8] := by rw [← hV, ← hP]; exact hY
  rw [hV] at hb
  have hVs := hb.size
  have hRP : R < P := by rw [← hP]; exact hlt
  have h := h.below hb
  have HT0 := Lib.hid (show Turns (fun b => b = R) w V from Turns.of_below hb)
  have HVE := Lib.hid hV
  have HPE := Lib.hid hP
  obtain ⟨⟨h0, h1, h2, h3, h4, h5, h6, h7, h8⟩, f0, f1, f2, f3, f4, f5, f6, f7, f8⟩ := h.one hn hk hx
  have H := Lib.hid h
  have HN := Lib.hid hn
  have HX := Lib.hid hx
  have HK := Lib.hid hk
  have HY := Lib.hid hY
  have HVS := Lib.hid hVs
  obtain ⟨x0, x1, x2, x3, x4, x5, x6, x7, x8⟩ := x
  dsimp only at h0 h1 h2 h3 h4 h5 h6 h7 h8
  have g1 : V.cell? ⟨P, 1, none⟩ = some (.int .i64 y1) := hY.cell 1 (by simp)
  have g2 : V.cell? ⟨P, 2, none⟩ = some (.int .i64 y2) := hY.cell 2 (by simp)
  have g3 : V.cell? ⟨P, 3, none⟩ = some (.int .i64 y3) := hY.cell 3 (by simp)
  have g4 : V.cell? ⟨P, 4, none⟩ = some (.int .i64 y4) := hY.cell 4 (by simp)
  have g6 : V.cell? ⟨P, 6, none⟩ = some (.int .i64 y6) := hY.cell 6 (by simp)
  have g7 : V.cell? ⟨P, 7, none⟩ = some (.int .i64 y7) := hY.cell 7 (by simp)
  have g8 : V.cell? ⟨P, 8, none⟩ = some (.int .i64 y8) := hY.cell 8 (by simp)
  have hq : ∀ u, (binOp .eql 55 (.agg #[.int .i64 x1, .int .i64 x2, .int .i64 x3]) (.agg #[.int .i64 y1, .int .i64 y2, .int .i64 y3])).run Try.prog u = .ok (.bool (x1 == y1 && x2 == y2 && x3 == y3)) u := fun u => lk_eql x1 x2 x3 y1 y2 y3 u
  have HC := Lib.hid (fun u => lcmp_gr x6 x7 x8 y6 y7 y8 u)
  obtain ⟨c, hc⟩ : ∃ c, cmp3 (x6, x7, x8) (y6, y7, y8) = c := ⟨_, rfl⟩
  rw [hc] at HC
  have HW := Lib.hid (show waitB ⟨x0, x1, x2, x3, x4, x5, x6, x7, x8⟩ ⟨y0, y1, y2, y3, y4, y5, y6, y7, y8⟩ = ((x1 == y1 && x2 == y2 && x3 == y3) && (x4 == y4) && decide (c < 0)) from by rw [← hc]; rfl)
  clear h hn hx hc hY hV hP hb hVs
  obtain ⟨b1, hb1⟩ : ∃ b, (x1 == y1 && x2 == y2 && x3 == y3) = b := ⟨_, rfl⟩
  rw [hb1] at hq HW
  clear hb1
  rcases b1 with _ | _
  · go_enter Try.func22, Try.ntmps22
    go_wp2_with fail
    rw [HVE.out, HPE.out]
    go_quiet (fail)
    go_wp2
    go_end0
    refine ⟨rfl, ?_, HT0.out.trans (Turns.drewN (Turns.refl _ V) nq)⟩
    rw [waitV, HW.out]
    exact (H.out.same (w' := V.drewN nq) (Nat.le_refl _) rfl).setSame HN.out HK.out HX.out
  · by_cases e4 : x4 = y4
    · subst e4
      have HW := Lib.hid (HW.out.trans (show (true && x4 == x4 && decide (c < 0)) = decide (c < 0) by simp))
      have d1 : (x4 == x4) = true := by simp
      have HALL := Lib.hid (fun (W : World) (hW : Below V.heap.size V W) => show W.cell? ⟨R, k * 9 + 1, none⟩ = some (.int .i64 x1) ∧ W.cell? ⟨R, k * 9 + 2, none⟩ = some (.int .i64 x2) ∧ W.cell? ⟨R, k * 9 + 3, none⟩ = some (.int .i64 x3) ∧ W.cell? ⟨R, k * 9 + 4, none⟩ = some (.int .i64 x4) ∧ W.cell? ⟨R, k * 9 + 6, none⟩ = some (.int .i64 x6) ∧ W.cell? ⟨R, k * 9 + 7, none⟩ = some (.int .i64 x7) ∧ W.cell? ⟨R, k * 9 + 8, none⟩ = some (.int .i64 x8) ∧ W.cell? ⟨P, 1, none⟩ = some (.int .i64 y1) ∧ W.cell? ⟨P, 2, none⟩ = some (.int .i64 y2) ∧ W.cell? ⟨P, 3, none⟩ = some (.int .i64 y3) ∧ W.cell? ⟨P, 4, none⟩ = some (.int .i64 x4) ∧ W.cell? ⟨P, 6, none⟩ = some (.int .i64 y6) ∧ W.cell? ⟨P, 7, none⟩ = some (.int .i64 y7) ∧ W.cell? ⟨P, 8, none⟩ = some (.int .i64 y8) from by
        have a := H.out.below hW
        have b := HY.out.next hW
        obtain ⟨⟨h0, h1, h2, h3, h4, h5, h6, h7, h8⟩, _⟩ := a.one HN.out HK.out HX.out
        exact ⟨h1, h2, h3, h4, h6, h7, h8, b.cell 1 (by simp), b.cell 2 (by simp), b.cell 3 (by simp), b.cell 4 (by simp), b.cell 6 (by simp), b.cell 7 (by simp), b.cell 8 (by simp)⟩)
      have HG := Lib.hid (Gr.refl V).drew
      have HB9 := Lib.hid (show Below V.heap.size V V.drew from (Below.refl _ _).drew)
      go_enter Try.func22, Try.ntmps22
      go_wp2_with fail
      rw [HVE.out, HPE.out]
      have hS := HALL.out _ HB9.out
      go_region_held_law (fun W => W.cell? ⟨R, k * 9 + 1, none⟩ = some (.int .i64 x1) ∧ W.cell? ⟨R, k * 9 + 2, none⟩ = some (.int .i64 x2) ∧ W.cell? ⟨R, k * 9 + 3, none⟩ = some (.int .i64 x3) ∧ W.cell? ⟨R, k * 9 + 4, none⟩ = some (.int .i64 x4) ∧ W.cell? ⟨R, k * 9 + 6, none⟩ = some (.int .i64 x6) ∧ W.cell? ⟨R, k * 9 + 7, none⟩ = some (.int .i64 x7) ∧ W.cell? ⟨R, k * 9 + 8, none⟩ = some (.int .i64 x8) ∧ W.cell? ⟨P, 1, none⟩ = some (.int .i64 y1) ∧ W.cell? ⟨P, 2, none⟩ = some (.int .i64 y2) ∧ W.cell? ⟨P, 3, none⟩ = some (.int .i64 y3) ∧ W.cell? ⟨P, 4, none⟩ = some (.int .i64 x4) ∧ W.cell? ⟨P, 6, none⟩ = some (.int .i64 y6) ∧ W.cell? ⟨P, 7, none⟩ = some (.int .i64 y7) ∧ W.cell? ⟨P, 8, none⟩ = some (.int .i64 y8)) (first | with_reducible assumption | exact HALL.out _ HB9.out | exact HALL.out _ (Below.refl _ _)) (first
        | (go_at_call 39; (with_reducible refine (HC.out _).mono ?_); rintro e v9 ⟨rfl, hg⟩; have HG := Lib.hid (HG.out.trans hg); have HB9 := Lib.hid (HB9.out.trans (hg.below.mono HB9.out.size)); have hS := HALL.out _ HB9.out; clear hg))
      all_goals
        have H9 := Lib.hid (H.out.below HB9.out)
        have hv9 := H9.out.lt
        have HY9 := Lib.hid (HY.out.next HB9.out)
        have HT9 := Lib.hid (HT0.out.trans (Turns.of_below HB9.out))
        obtain ⟨⟨h0, h1, h2, h3, h4, h5, h6, h7, h8⟩, f0, f1, f2, f3, f4, f5, f6, f7, f8⟩ := H9.out.one HN.out HK.out HX.out
        obtain ⟨_, _, _, _, _, _, _, _, _, _, _, g6, g7, g8⟩ := hS
        dsimp only at h6 h7 h8
        obtain ⟨b, hb⟩ : ∃ b, decide (c < 0) = b := ⟨_, rfl⟩
        rw [hb] at HW ⊢
        rcases b with _ | _
        · go_wp2_with fail
          go_end0
          refine ⟨rfl, ?_, HT9.out⟩
          rw [waitV, HW.out]
          exact H9.out.setSame HN.out HK.out HX.out
        · go_wp2_with fail
          go_end0
          refine ⟨rfl, ?_, ((HT9.out.setCell (.inl rfl) _).setCell (.inl rfl) _).setCell (.inl rfl) _⟩
          rw [waitV, HW.out]
          exact H9.out.three HN.out HK.out HX.out y6 y7 y8
    · have d1 : (x4 == y4) = false := by simp [e4]
      have d2 : decide (x4 = y4) = false := by simp [e4]
      go_enter Try.func22, Try.ntmps22
      go_wp2_with fail
      rw [HVE.out, HPE.out]
      go_quiet (fail)
      go_wp2
      go_end0
      refine ⟨rfl, ?_, HT0.out.trans (Turns.drewN (Turns.refl _ V) nq)⟩
      rw [waitV, HW.out, d1]
      exact (H.out.same (w' := V.drewN nq) (Nat.le_refl _) rfl).setSame HN.out HK.out HX.out
end Go.Proofs.Ytljbebeaahcjaaa
