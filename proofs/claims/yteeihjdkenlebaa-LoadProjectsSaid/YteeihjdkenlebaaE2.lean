/- load: New, meet, change, Add, Sub, Of, Over. -/
import Derived.Test.YteeihjdkenlebaaE1
namespace Go.Proofs.Yteeihjdkenlebaa
open Go.RowKit Go.Maps
set_option linter.unusedVariables false
set_option linter.unusedSimpArgs false
set_option maxRecDepth 100000

theorem wpList_delL {κ α : Type} {k e : TypeId} {kv : κ → Value} {kl : κ → Lit} {kok : κ → Prop} {R : Value → Option (DataW Unit × List MemPlace)} {ev : α → Value} {d : α → DataW Unit} {eok : α → Prop} {zero : α} {C : KeyC k kv kl kok} {E : ElC e R ev d eok zero} [DecidableEq κ] {t : TypeId} (ht : Try.prog.underlying t = some (.map k e)) {ops : Array Oper} {rest : List Oper} {o : Oper} {a : Act} {w : World} {Q : Exit → Act → World → Prop} (hw : Region.wanted o (yielded ops a.tmps) = true) (m x : Operand)
    (ho : o.op = .call { callee := .builtin .delete, args := #[m, x], argTypes := #[t, k] })
    (b n s : Nat) (f : κ → Option α) (y : κ) (hy : kok y) (hm : a.eval m = .map (some b)) (hx : a.eval x = kv y) (h : MapAt C E w b n s f)
    (hK : ∀ w' s', Hid (MapAt C E w' b n s' (delF f y)) → Hid (s' + (if (f y).isSome then 1 else 0) = s) → Hid (w.grownBy w' (some b)) → wpList Try.prog ops Q rest (a.put o.dst (.tuple #[])) w') :
    wpList Try.prog ops Q (o :: rest) a w :=
  wpList_step fun K hk => step_delL ht hw m x ho b n s f y hy hm hx h (fun w' s' h1 h2 h3 => hk _ _ (hK w' s' h1 h2 h3))
theorem ldnew_any (w : World) :
    Calls Try.prog 8 #[] w fun e w' => ∃ g b, e = .returned (.pointer (some ⟨g, 0, none⟩)) ∧ LdAt w' g b 0 0 (fun _ => none) false ∧ Below w.heap.size w w' ∧ w.heap.size ≤ g ∧ w.heap.size ≤ b := by
  have hmm := @run_makeMap Try.prog
  have hX : Blk ((w.alloc (.map #[] 0)).alloc (.cells #[.map (some w.heap.size), .bool false] LDf)) (w.heap.size + 1) LDf [.map (some w.heap.size), .bool false] := by
    rw [← sz_alloc w (.map #[] 0)]; exact Blk.new _ LDf [.map (some w.heap.size), .bool false]
  have hb := newB (w.alloc (.map #[] 0)) (.cells #[.map (some w.heap.size), .bool false] LDf)
  have HL := Lib.hid (show LdAt ((w.alloc (.map #[] 0)).alloc (.cells #[.map (some w.heap.size), .bool false] LDf)) (w.heap.size + 1) w.heap.size 0 0 (fun _ => none) false from ⟨hX, (MapAt.fresh keyIntC elIntC w).next hb, okL_none⟩)
  have HB := Lib.hid ((newB w (.map #[] 0)).trans (hb.mono (newB w (.map #[] 0)).size))
  clear hX hb
  go_enter Try.func8, Try.ntmps8
  go_wp2
  go_ret
  exact ⟨_, _, rfl, HL.out, HB.out, by omega, Nat.le_refl _⟩
theorem ldclosed_nil (w : World) :
    Calls Try.prog 35 #[.pointer none] w fun e w' => e = .returned (.bool true) ∧ w = w' := by
  go_enter Try.func35, Try.ntmps35
  go_wp2
  go_ret
  exact ⟨rfl, rfl⟩
theorem map_eq_nil (b : Nat) (w : World) : (binOp .eql 65 (.map (some b)) (.map none)).run Try.prog w = .ok (.bool false) w := by kernel_rfl
theorem ldclosed_any (w : World) (g b : Nat) (hc : w.cell? ⟨g, 0, none⟩ = some (.map (some b))) :
    Calls Try.prog 35 #[.pointer (some ⟨g, 0, none⟩)] w fun e w' => e = .returned (.bool false) ∧ w = w' := by
  have hmn := map_eq_nil b w
  go_enter Try.func35, Try.ntmps35
  go_wp2
  go_ret
  exact ⟨rfl, rfl⟩
theorem Turns.mono {S S' : Nat → Prop} {a b : World} (h : Turns S a b) (hs : ∀ k, S k → S' k) : Turns S' a b := ⟨h.os, h.tape, h.output, h.size, fun k hk hn => h.block k hk (fun e => hn (hs k e))⟩
theorem LdAt.turn {w w' : World} {g b n s : Nat} {f : Int → Option Int} {ov ov' : Bool} (h : LdAt w g b n s f ov) (hT : Turns (fun k => k = g) w w') (hb : Blk w' g LDf [.map (some b), .bool ov']) : LdAt w' g b n s f ov' :=
  ⟨hb, h.map.of_same (hT.block b h.map.lt (fun e => h.ne e.symm)), h.ok⟩
theorem ldmeet_any (w : World) (g b n s : Nat) (f : Int → Option Int) (ov : Bool) (H : LdAt w g b n s f ov) (x : Int) :
    Calls Try.prog 41 #[.pointer (some ⟨g, 0, none⟩), .int .i64 x] w fun e w' => e = .returned (.tuple #[]) ∧ LdAt w' g b n s f (ov || (x == 9007199254740991)) ∧ Turns (fun k => k = g) w w' := by
  obtain ⟨_, c1⟩ := H.at0
  have f1 := H.blk.f 1
  have HS := Lib.hid (fun v : Bool => show LdAt (w.setCell ⟨g, 1, none⟩ (.bool v)) g b n s f v ∧ Turns (fun k => k = g) w (w.setCell ⟨g, 1, none⟩ (.bool v)) from by
    have hT := (Turns.refl (fun k => k = g) w).setCell (p := ⟨g, 1, none⟩) (.inl rfl) (.bool v)
    exact ⟨H.turn hT (H.blk.set 1 (.bool v)), hT⟩)
  clear H
  rcases ov with _ | _
  · by_cases hx : x = 9007199254740991
    · have t1 : (x == 9007199254740991) = true := by simpa using hx
      have t2 : decide (x = 9007199254740991) = true := decide_eq_true hx
      rw [t1]
      clear hx
      go_enter Try.func41, Try.ntmps41
      go_wp2
      go_end0
      exact ⟨rfl, HS.out true⟩
    · have t1 : (x == 9007199254740991) = false := by simpa using hx
      have t2 : decide (x = 9007199254740991) = false := decide_eq_false hx
      rw [t1]
      clear hx
      go_enter Try.func41, Try.ntmps41
      go_wp2
      go_end0
      exact ⟨rfl, HS.out false⟩
  · rw [Bool.true_or]
    go_enter Try.func41, Try.ntmps41
    go_wp2
    go_end0
    exact ⟨rfl, HS.out true⟩
def chF (h : Int → Int → Int) (f : Int → Option Int) (i n : Int) : Int → Option Int := if 0 ≤ i then setL f i (h ((f i).getD 0) n) else f
def chO (h : Int → Int → Int) (f : Int → Option Int) (ov : Bool) (i n : Int) : Bool := ov || (near n == 9007199254740991) || (decide (0 ≤ i) && (h ((f i).getD 0) n == 9007199254740991))
/-- .. in memory behind it. -/
def ChTo (w w' : World) (g b n : Nat) (f : Int → Option Int) (ov : Bool) : Prop := ∃ n' s', n' ≤ n + 1 ∧ LdAt w' g b n' s' f ov ∧ Turns (fun k => k = g ∨ k = b) w w'
theorem wf_cap {v : Int} (h0 : 0 ≤ v) (h1 : v ≤ 9007199254740991) : (Lit.int .i64 v).wf = true := by
  have : IntKind.i64.min ≤ v ∧ v ≤ IntKind.i64.max := by
    rw [show IntKind.i64.min = -9223372036854775808 from rfl, show IntKind.i64.max = 9223372036854775807 from rfl]; omega
  simpa [Lit.wf] using this
theorem grown_turns {w w' : World} {b : Nat} (hg : w.grownBy w' (some b)) : Turns (fun k => k = b) w w' := ⟨hg.os, hg.tape, hg.output, hg.size, fun k hk hn => hg.block k hk (fun e => hn (by injection e))⟩
theorem LdAt.put {w w' : World} {g b n n' s s' : Nat} {f f' : Int → Option Int} {ov : Bool} (h : LdAt w g b n s f ov) (hg : w.grownBy w' (some b)) (hm : MapI w' b n' s' f') (hf : OkL f') : LdAt w' g b n' s' f' ov :=
  ⟨h.blk.of_same (hg.block g h.blk.lt (fun e => h.ne (by injection e))), hm, hf⟩

theorem ldadd1_any (w : World) (z : Nat) (was n : Int) (hz : w.cell? ⟨z, 0, none⟩ = some (.int .i64 n)) :
    Calls Try.prog 27 #[.int .i64 was, .pointer (some ⟨z, 0, none⟩)] w fun e w' => e = .returned (.int .i64 (add was n)) ∧ w = w' := by
  go_enter Try.func27, Try.ntmps27
  go_wp2_with (go_at_call 28; refine (add_any _ _ _).mono ?_; rintro e w' ⟨rfl, rfl⟩)
  go_ret
  exact ⟨rfl, rfl⟩
set_option maxHeartbeats 4000000 in
theorem ldchangeAdd_any (w : World) (g b n s : Nat) (f : Int → Option Int) (ov : Bool) (H : LdAt w g b n s f ov) (hn : n < 1000000) (i x : Int) (hi : (Lit.int .i64 i).wf = true) (z : Nat) (hz : Blk w z 3 [.int .i64 x]) :
    Calls Try.prog 26 #[.pointer (some ⟨g, 0, none⟩), .int .i64 i, .int .i64 x, .func (.func 27) #[] #[.pointer (some ⟨z, 0, none⟩)]] w fun e w' => e = .returned (.tuple #[]) ∧ ChTo w w' g b n (chF add f i x) (chO add f ov i x) := by
  obtain ⟨c0, c1⟩ := H.at0
  have hgz : z ≠ g := fun e => by
    subst e
    have h1 := Blk.type hz H.blk
    revert h1
    decide
  have HC := Lib.hid (ldclosed_any w g b c0)
  have HMT := Lib.hid (ldmeet_any w g b n s f ov H (near x))
  have HZ := Lib.hid hz
  have HGZ := Lib.hid hgz
  have HI := Lib.hid hi
  have HNR := Lib.hid (fun u => near_any x u)
  obtain ⟨o1, ho1⟩ : ∃ o, (ov || (near x == 9007199254740991)) = o := ⟨_, rfl⟩
  rw [ho1] at HMT
  have HO1 := Lib.hid (show chO add f ov i x = (o1 || (decide (0 ≤ i) && (add ((f i).getD 0) x == 9007199254740991))) from by rw [← ho1]; rfl)
  clear H hgz hz hi ho1
  go_enter Try.func26, Try.ntmps26
  go_wp2_with fail
  refine HC.out.mono ?_
  rintro e U ⟨rfl, rfl⟩
  go_wp2_with fail
  refine (HNR.out _).mono ?_
  rintro e U ⟨rfl, rfl⟩
  go_wp2_with fail
  refine HMT.out.mono ?_
  rintro e W1 ⟨rfl, hl, hT⟩
  have HL := Lib.hid hl
  have HT := Lib.hid hT
  have HZ1 := Lib.hid (HZ.out.of_same (hT.block z HZ.out.lt HGZ.out))
  clear hl hT c0 c1
  by_cases h0 : i < 0
  · have t0 : decide (i < 0) = true := decide_eq_true h0
    go_wp2_with fail
    ((try simp only [Exit.inBlock, Exit.then]); refine bodyPost_ret (results_none rfl _ _ _) rfl ?_)
    refine ⟨rfl, n, s, by omega, ?_, HT.out.mono fun k h => .inl h⟩
    have hf : chF add f i x = f := by unfold chF; rw [if_neg (show ¬ 0 ≤ i by omega)]
    have ho : chO add f ov i x = o1 := by rw [HO1.out, decide_eq_false (show ¬ 0 ≤ i by omega)]; simp
    rw [hf, ho]
    exact HL.out
  have t0 : decide (i < 0) = false := decide_eq_false h0
  have hi0 : 0 ≤ i := by omega
  obtain ⟨v, hv⟩ : ∃ v, (f i).getD 0 = v := ⟨_, rfl⟩
  obtain ⟨S, hS⟩ : ∃ y, add v x = y := ⟨_, rfl⟩
  have hS0 : 0 ≤ S := hS ▸ near_lo _
  have hS1 : S ≤ 9007199254740991 := hS ▸ near_hi _
  have HF := Lib.hid (show chF add f i x = setL f i S from by unfold chF; rw [if_pos hi0, hv, hS])
  have HO2 := Lib.hid (show chO add f ov i x = (o1 || (S == 9007199254740991)) from by rw [HO1.out, decide_eq_true hi0, hv, hS]; simp)
  obtain ⟨c0, c1⟩ := HL.out.at0
  have z0 : W1.cell? ⟨z, 0, none⟩ = some (.int .i64 x) := HZ1.out.cellAt rfl
  have hlk := HL.out.map.look Try.underlying65 HI.out
  rw [hv] at hlk
  have HCL := Lib.hid (ldadd1_any W1 z v x z0)
  rw [hS] at HCL
  have HM2 := Lib.hid (ldmeet_any W1 g b n s f o1 HL.out S)
  clear hv hS z0
  go_wp2_with fail
  refine HCL.out.mono ?_
  rintro e U ⟨rfl, rfl⟩
  clear hlk
  go_wp2_with fail
  refine HM2.out.mono ?_
  rintro e W2 ⟨rfl, hl, hT⟩
  have HL2 := Lib.hid hl
  have HT2 := Lib.hid (HT.out.trans hT)
  have HOK := Lib.hid (okL_set hl.ok hi0 hS0 hS1)
  clear hl hT c0 c1 HT HL HM2 HCL HMT HC
  obtain ⟨c0, c1⟩ := HL2.out.at0
  by_cases hs : S = 0
  · have t1 : decide (S = 0) = true := decide_eq_true hs
    have t2 : (S == 0) = true := t1
    have HSE := Lib.hid (show setL f i S = delF f i from if_pos hs)
    obtain ⟨W3, s3, hrun, hM3, _, hg3⟩ := HL2.out.map.delete Try.underlying65 HI.out 0
    have HM3 := Lib.hid hM3
    have HG3 := Lib.hid hg3
    clear hM3 hg3
    go_wp2_with fail
    ((try simp only [Exit.inBlock, Exit.then]); refine bodyPost_ret (results_none rfl _ _ _) rfl ?_)
    refine ⟨rfl, n, s3, by omega, ?_, (HT2.out.mono fun k h => .inl h).trans ((grown_turns HG3.out).mono fun k h => .inr h)⟩
    rw [HF.out, HO2.out]
    exact HL2.out.put HG3.out (by rw [HSE.out]; exact HM3.out) HOK.out
  · have t1 : decide (S = 0) = false := decide_eq_false hs
    have t2 : (S == 0) = false := t1
    have HSE := Lib.hid (show setL f i S = putF f i S from if_neg hs)
    obtain ⟨W3, hrun, hM3, hg3⟩ := HL2.out.map.update Try.underlying65 (by unfold maxLen; omega) HI.out (wf_cap hS0 hS1)
    have HM3 := Lib.hid hM3
    have HG3 := Lib.hid hg3
    clear hM3 hg3
    go_wp2_with fail
    go_end0
    refine ⟨rfl, n + 1, if (f i).isSome then s else s + 1, Nat.le_refl _, ?_, (HT2.out.mono fun k h => .inl h).trans ((grown_turns HG3.out).mono fun k h => .inr h)⟩
    rw [HF.out, HO2.out]
    exact HL2.out.put HG3.out (by rw [HSE.out]; exact HM3.out) HOK.out
theorem ldadd_any (w : World) (g b n s : Nat) (f : Int → Option Int) (ov : Bool) (H : LdAt w g b n s f ov) (hn : n < 1000000) (i x : Int) (hi : (Lit.int .i64 i).wf = true) :
    Calls Try.prog 10 #[.pointer (some ⟨g, 0, none⟩), .int .i64 i, .int .i64 x] w fun e w' => e = .returned (.tuple #[]) ∧ ChTo w w' g b n (chF add f i x) (chO add f ov i x) := by
  have hb := newB w (.cells #[.int .i64 x] 3)
  have hx := Blk.new w 3 [.int .i64 x]
  obtain ⟨z, hz⟩ : ∃ z, w.heap.size = z := ⟨_, rfl⟩
  obtain ⟨U, hU⟩ : ∃ U, w.alloc (.cells #[.int .i64 x] 3) = U := ⟨_, rfl⟩
  rw [hU] at hb hx
  rw [hz] at hx
  have z0 : U.cell? ⟨z, 0, none⟩ = some (.int .i64 x) := hx.cellAt rfl
  have HC := Lib.hid (ldchangeAdd_any U g b n s f ov (H.next hb) hn i x hi z hx)
  have HU := Lib.hid hU
  have HZ := Lib.hid hz
  have HB := Lib.hid hb
  clear H hb hx hU hz hi
  go_enter Try.func10, Try.ntmps10
  go_wp2_with fail
  rw [HU.out, HZ.out]
  go_wp2_with fail
  refine HC.out.mono ?_
  rintro e W ⟨rfl, n', s', h1, h2, h3⟩
  go_wp2_with fail
  go_end0
  exact ⟨rfl, n', s', h1, h2, (Turns.of_below HB.out).trans h3⟩
theorem ldadd_nil (w : World) (i x : Int) : Calls Try.prog 10 #[.pointer none, .int .i64 i, .int .i64 x] w fun e w' => e = .returned (.tuple #[]) ∧ Below w.heap.size w w' := by
  have hb := newB w (.cells #[.int .i64 x] 3)
  have z0 : (w.alloc (.cells #[.int .i64 x] 3)).cell? ⟨w.heap.size, 0, none⟩ = some (.int .i64 x) := (Blk.new w 3 [.int .i64 x]).cellAt rfl
  have HB := Lib.hid hb
  have HC := Lib.hid (fun (u : World) (z : Nat) => show Calls Try.prog 26 #[.pointer none, .int .i64 i, .int .i64 x, .func (.func 27) #[] #[.pointer (some ⟨z, 0, none⟩)]] u fun e w' => e = .returned (.tuple #[]) ∧ u = w' from by
    go_enter Try.func26, Try.ntmps26
    go_wp2_with fail
    refine (ldclosed_nil _).mono ?_
    rintro e U ⟨rfl, rfl⟩
    go_wp2_with fail
    ((try simp only [Exit.inBlock, Exit.then]); refine bodyPost_ret (results_none rfl _ _ _) rfl ?_)
    exact ⟨rfl, rfl⟩)
  clear hb
  go_enter Try.func10, Try.ntmps10
  go_wp2_with fail
  refine (HC.out _ _).mono ?_
  rintro e W ⟨rfl, rfl⟩
  go_wp2_with fail
  go_end0
  exact ⟨rfl, HB.out⟩

theorem ldsub1_any (w : World) (z : Nat) (was n : Int) (hz : w.cell? ⟨z, 0, none⟩ = some (.int .i64 n)) :
    Calls Try.prog 32 #[.int .i64 was, .pointer (some ⟨z, 0, none⟩)] w fun e w' => e = .returned (.int .i64 (sub was n)) ∧ w = w' := by
  go_enter Try.func32, Try.ntmps32
  go_wp2_with (go_at_call 33; refine (sub_any _ _ _).mono ?_; rintro e w' ⟨rfl, rfl⟩)
  go_ret
  exact ⟨rfl, rfl⟩
set_option maxHeartbeats 4000000 in
theorem ldchangeSub_any (w : World) (g b n s : Nat) (f : Int → Option Int) (ov : Bool) (H : LdAt w g b n s f ov) (hn : n < 1000000) (i x : Int) (hi : (Lit.int .i64 i).wf = true) (z : Nat) (hz : Blk w z 3 [.int .i64 x]) :
    Calls Try.prog 26 #[.pointer (some ⟨g, 0, none⟩), .int .i64 i, .int .i64 x, .func (.func 32) #[] #[.pointer (some ⟨z, 0, none⟩)]] w fun e w' => e = .returned (.tuple #[]) ∧ ChTo w w' g b n (chF sub f i x) (chO sub f ov i x) := by
  obtain ⟨c0, c1⟩ := H.at0
  have hgz : z ≠ g := fun e => by
    subst e
    have h1 := Blk.type hz H.blk
    revert h1
    decide
  have HC := Lib.hid (ldclosed_any w g b c0)
  have HMT := Lib.hid (ldmeet_any w g b n s f ov H (near x))
  have HZ := Lib.hid hz
  have HGZ := Lib.hid hgz
  have HI := Lib.hid hi
  have HNR := Lib.hid (fun u => near_any x u)
  obtain ⟨o1, ho1⟩ : ∃ o, (ov || (near x == 9007199254740991)) = o := ⟨_, rfl⟩
  rw [ho1] at HMT
  have HO1 := Lib.hid (show chO sub f ov i x = (o1 || (decide (0 ≤ i) && (sub ((f i).getD 0) x == 9007199254740991))) from by rw [← ho1]; rfl)
  clear H hgz hz hi ho1
  go_enter Try.func26, Try.ntmps26
  go_wp2_with fail
  refine HC.out.mono ?_
  rintro e U ⟨rfl, rfl⟩
  go_wp2_with fail
  refine (HNR.out _).mono ?_
  rintro e U ⟨rfl, rfl⟩
  go_wp2_with fail
  refine HMT.out.mono ?_
  rintro e W1 ⟨rfl, hl, hT⟩
  have HL := Lib.hid hl
  have HT := Lib.hid hT
  have HZ1 := Lib.hid (HZ.out.of_same (hT.block z HZ.out.lt HGZ.out))
  clear hl hT c0 c1
  by_cases h0 : i < 0
  · have t0 : decide (i < 0) = true := decide_eq_true h0
    go_wp2_with fail
    ((try simp only [Exit.inBlock, Exit.then]); refine bodyPost_ret (results_none rfl _ _ _) rfl ?_)
    refine ⟨rfl, n, s, by omega, ?_, HT.out.mono fun k h => .inl h⟩
    have hf : chF sub f i x = f := by unfold chF; rw [if_neg (show ¬ 0 ≤ i by omega)]
    have ho : chO sub f ov i x = o1 := by rw [HO1.out, decide_eq_false (show ¬ 0 ≤ i by omega)]; simp
    rw [hf, ho]
    exact HL.out
  have t0 : decide (i < 0) = false := decide_eq_false h0
  have hi0 : 0 ≤ i := by omega
  obtain ⟨v, hv⟩ : ∃ v, (f i).getD 0 = v := ⟨_, rfl⟩
  obtain ⟨S, hS⟩ : ∃ y, sub v x = y := ⟨_, rfl⟩
  have hS0 : 0 ≤ S := hS ▸ near_lo _
  have hS1 : S ≤ 9007199254740991 := hS ▸ near_hi _
  have HF := Lib.hid (show chF sub f i x = setL f i S from by unfold chF; rw [if_pos hi0, hv, hS])
  have HO2 := Lib.hid (show chO sub f ov i x = (o1 || (S == 9007199254740991)) from by rw [HO1.out, decide_eq_true hi0, hv, hS]; simp)
  obtain ⟨c0, c1⟩ := HL.out.at0
  have z0 : W1.cell? ⟨z, 0, none⟩ = some (.int .i64 x) := HZ1.out.cellAt rfl
  have hlk := HL.out.map.look Try.underlying65 HI.out
  rw [hv] at hlk
  have HCL := Lib.hid (ldsub1_any W1 z v x z0)
  rw [hS] at HCL
  have HM2 := Lib.hid (ldmeet_any W1 g b n s f o1 HL.out S)
  clear hv hS z0
  go_wp2_with fail
  refine HCL.out.mono ?_
  rintro e U ⟨rfl, rfl⟩
  clear hlk
  go_wp2_with fail
  refine HM2.out.mono ?_
  rintro e W2 ⟨rfl, hl, hT⟩
  have HL2 := Lib.hid hl
  have HT2 := Lib.hid (HT.out.trans hT)
  have HOK := Lib.hid (okL_set hl.ok hi0 hS0 hS1)
  clear hl hT c0 c1 HT HL HM2 HCL HMT HC
  obtain ⟨c0, c1⟩ := HL2.out.at0
  by_cases hs : S = 0
  · have t1 : decide (S = 0) = true := decide_eq_true hs
    have t2 : (S == 0) = true := t1
    have HSE := Lib.hid (show setL f i S = delF f i from if_pos hs)
    obtain ⟨W3, s3, hrun, hM3, _, hg3⟩ := HL2.out.map.delete Try.underlying65 HI.out 0
    have HM3 := Lib.hid hM3
    have HG3 := Lib.hid hg3
    clear hM3 hg3
    go_wp2_with fail
    ((try simp only [Exit.inBlock, Exit.then]); refine bodyPost_ret (results_none rfl _ _ _) rfl ?_)
    refine ⟨rfl, n, s3, by omega, ?_, (HT2.out.mono fun k h => .inl h).trans ((grown_turns HG3.out).mono fun k h => .inr h)⟩
    rw [HF.out, HO2.out]
    exact HL2.out.put HG3.out (by rw [HSE.out]; exact HM3.out) HOK.out
  · have t1 : decide (S = 0) = false := decide_eq_false hs
    have t2 : (S == 0) = false := t1
    have HSE := Lib.hid (show setL f i S = putF f i S from if_neg hs)
    obtain ⟨W3, hrun, hM3, hg3⟩ := HL2.out.map.update Try.underlying65 (by unfold maxLen; omega) HI.out (wf_cap hS0 hS1)
    have HM3 := Lib.hid hM3
    have HG3 := Lib.hid hg3
    clear hM3 hg3
    go_wp2_with fail
    go_end0
    refine ⟨rfl, n + 1, if (f i).isSome then s else s + 1, Nat.le_refl _, ?_, (HT2.out.mono fun k h => .inl h).trans ((grown_turns HG3.out).mono fun k h => .inr h)⟩
    rw [HF.out, HO2.out]
    exact HL2.out.put HG3.out (by rw [HSE.out]; exact HM3.out) HOK.out
theorem ldsub_any (w : World) (g b n s : Nat) (f : Int → Option Int) (ov : Bool) (H : LdAt w g b n s f ov) (hn : n < 1000000) (i x : Int) (hi : (Lit.int .i64 i).wf = true) :
    Calls Try.prog 12 #[.pointer (some ⟨g, 0, none⟩), .int .i64 i, .int .i64 x] w fun e w' => e = .returned (.tuple #[]) ∧ ChTo w w' g b n (chF sub f i x) (chO sub f ov i x) := by
  have hb := newB w (.cells #[.int .i64 x] 3)
  have hx := Blk.new w 3 [.int .i64 x]
  obtain ⟨z, hz⟩ : ∃ z, w.heap.size = z := ⟨_, rfl⟩
  obtain ⟨U, hU⟩ : ∃ U, w.alloc (.cells #[.int .i64 x] 3) = U := ⟨_, rfl⟩
  rw [hU] at hb hx
  rw [hz] at hx
  have z0 : U.cell? ⟨z, 0, none⟩ = some (.int .i64 x) := hx.cellAt rfl
  have HC := Lib.hid (ldchangeSub_any U g b n s f ov (H.next hb) hn i x hi z hx)
  have HU := Lib.hid hU
  have HZ := Lib.hid hz
  have HB := Lib.hid hb
  clear H hb hx hU hz hi
  go_enter Try.func12, Try.ntmps12
  go_wp2_with fail
  rw [HU.out, HZ.out]
  go_wp2_with fail
  refine HC.out.mono ?_
  rintro e W ⟨rfl, n', s', h1, h2, h3⟩
  go_wp2_with fail
  go_end0
  exact ⟨rfl, n', s', h1, h2, (Turns.of_below HB.out).trans h3⟩
theorem ldsub_nil (w : World) (i x : Int) : Calls Try.prog 12 #[.pointer none, .int .i64 i, .int .i64 x] w fun e w' => e = .returned (.tuple #[]) ∧ Below w.heap.size w w' := by
  have hb := newB w (.cells #[.int .i64 x] 3)
  have z0 : (w.alloc (.cells #[.int .i64 x] 3)).cell? ⟨w.heap.size, 0, none⟩ = some (.int .i64 x) := (Blk.new w 3 [.int .i64 x]).cellAt rfl
  have HB := Lib.hid hb
  have HC := Lib.hid (fun (u : World) (z : Nat) => show Calls Try.prog 26 #[.pointer none, .int .i64 i, .int .i64 x, .func (.func 32) #[] #[.pointer (some ⟨z, 0, none⟩)]] u fun e w' => e = .returned (.tuple #[]) ∧ u = w' from by
    go_enter Try.func26, Try.ntmps26
    go_wp2_with fail
    refine (ldclosed_nil _).mono ?_
    rintro e U ⟨rfl, rfl⟩
    go_wp2_with fail
    ((try simp only [Exit.inBlock, Exit.then]); refine bodyPost_ret (results_none rfl _ _ _) rfl ?_)
    exact ⟨rfl, rfl⟩)
  clear hb
  go_enter Try.func12, Try.ntmps12
  go_wp2_with fail
  refine (HC.out _ _).mono ?_
  rintro e W ⟨rfl, rfl⟩
  go_wp2_with fail
  go_end0
  exact ⟨rfl, HB.out⟩

theorem ldof_any (w : World) (g b n s : Nat) (f : Int → Option Int) (ov : Bool) (H : LdAt w g b n s f ov) (i : Int) (hi : (Lit.int .i64 i).wf = true) :
    Calls Try.prog 17 #[.pointer (some ⟨g, 0, none⟩), .int .i64 i] w fun e w' => e = .returned (.int .i64 ((f i).getD 0)) ∧ w = w' := by
  obtain ⟨c0, c1⟩ := H.at0
  have hlk := H.map.look Try.underlying65 hi
  have HC := Lib.hid (ldclosed_any w g b c0)
  clear H
  go_enter Try.func17, Try.ntmps17
  go_wp2_with (go_at_call 35; refine HC.out.mono ?_; rintro e w' ⟨rfl, rfl⟩)
  go_ret
  exact ⟨rfl, rfl⟩
theorem ldof_nil (w : World) (i : Int) : Calls Try.prog 17 #[.pointer none, .int .i64 i] w fun e w' => e = .returned (.int .i64 0) ∧ w = w' := by
  go_enter Try.func17, Try.ntmps17
  go_wp2_with (go_at_call 35; refine (ldclosed_nil _).mono ?_; rintro e w' ⟨rfl, rfl⟩)
  go_ret
  exact ⟨rfl, rfl⟩
theorem ldover_any (w : World) (g b n s : Nat) (f : Int → Option Int) (ov : Bool) (H : LdAt w g b n s f ov) :
    Calls Try.prog 16 #[.pointer (some ⟨g, 0, none⟩)] w fun e w' => e = .returned (.bool ov) ∧ w = w' := by
  obtain ⟨c0, c1⟩ := H.at0
  have HC := Lib.hid (ldclosed_any w g b c0)
  clear H
  go_enter Try.func16, Try.ntmps16
  go_wp2_with (go_at_call 35; refine HC.out.mono ?_; rintro e w' ⟨rfl, rfl⟩)
  go_ret
  exact ⟨rfl, rfl⟩
theorem ldover_nil (w : World) : Calls Try.prog 16 #[.pointer none] w fun e w' => e = .returned (.bool true) ∧ w = w' := by
  go_enter Try.func16, Try.ntmps16
  go_wp2_with (go_at_call 35; refine (ldclosed_nil _).mono ?_; rintro e w' ⟨rfl, rfl⟩)
  go_ret
  exact ⟨rfl, rfl⟩
end Go.Proofs.Yteeihjdkenlebaa
