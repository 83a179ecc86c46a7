/- meter: Check of a report; the document's Check. -/
import Derived.Test.YtgididkpgncdjaaZb
namespace Go.Proofs.Ytgididkpgncdjaa
open Go.RowKit Go.Maps
set_option linter.unusedVariables false
set_option linter.unusedSimpArgs false
set_option maxRecDepth 100000

theorem ct_boxes {w : World} {g : Nat} {x0 x1 x2 : Int} (h : Blk w g 67 [.int .u32 x0, .int .i64 x1, .int .i64 x2]) : w.cell? ⟨g, 0, none⟩ = some (.int .u32 x0) ∧ w.cell? ⟨g, 1, none⟩ = some (.int .i64 x1) ∧ w.cell? ⟨g, 2, none⟩ = some (.int .i64 x2) :=
  ⟨h.cell 0 (by simp), h.cell 1 (by simp), h.cell 2 (by simp)⟩
def isR (r : Int) : Bool := decide (0 ≤ r) && decide (r < 16)
def isCap (n : Int) : Bool := n == near n
theorem isCap_iff (n : Int) : isCap n = true ↔ 0 ≤ n ∧ n ≤ 9007199254740991 := by
  unfold isCap
  rw [beq_iff_eq]
  constructor
  · intro h; rw [h]; exact ⟨near_lo n, near_hi n⟩
  · rintro ⟨h0, h1⟩; exact (near_id h0 h1).symm
theorem misCapped_any (n : Int) (w : World) :
    Calls Try.prog 28 #[.int .i64 n] w fun e w' => e = .returned (.bool (isCap n)) ∧ w = w' := by
  go_enter Try.func28, Try.ntmps28
  go_wp2_with (go_at_call 46; refine (near_any _ _).mono ?_; rintro e w' ⟨rfl, rfl⟩)
  go_ret
  exact ⟨rfl, rfl⟩
theorem misSource_any (r : Int) (w : World) :
    Calls Try.prog 29 #[.int .i64 r] w fun e w' => e = .returned (.bool (isR r)) ∧ w = w' := by
  go_enter Try.func29, Try.ntmps29
  by_cases h0 : 0 ≤ r
  · have t0 : decide (0 ≤ r) = true := decide_eq_true h0
    go_wp2_with fail
    go_ret
    exact ⟨by unfold isR; rw [t0]; rfl, rfl⟩
  · have t0 : decide (0 ≤ r) = false := decide_eq_false h0
    go_wp2_with fail
    go_ret
    exact ⟨by unfold isR; rw [t0]; rfl, rfl⟩


/-- An element that may not be, beside those that were seen. -/
def fineCt (x : Ct) : Bool := okP x.p.a x.p.n && isCap x.c
def oddCt (f : Pf → Option Int) (x : Ct) : Bool := (f x.p).isSome || !fineCt x
/-- What was seen, each once. -/
def seenT (l : List Ct) : Pf → Option Int := fun i => if l.any (fun y => y.p == i) then some 1 else none
set_option maxHeartbeats 4000000 in
theorem modd_any (w : World) (g b n s : Nat) (f : Pf → Option Int) (x : Ct) (hx : InCt x) (hm : MapP w b n s f) (hg : w.cell? ⟨g, 0, none⟩ = some (.map (some b))) (hn : n < 1000000) (hf : ∀ v, f x.p = some v → v = 1) :
    Calls Try.prog 26 #[ctV x, .pointer (some ⟨g, 0, none⟩)] w fun e w' => e = .returned (.bool (oddCt f x)) ∧ (∃ s', MapP w' b (n + 1) s' (putF f x.p ((f x.p).getD 0 + 1))) ∧ w.grownBy w' (some b) := by
  obtain ⟨⟨xa, xn⟩, xc⟩ := x
  dsimp only at hf
  unfold InCt at hx
  dsimp only at hx
  have hA := newB w (.cells #[.int .u32 xa, .int .i64 xn, .int .i64 xc] 67)
  have hX := Blk.new w 67 [.int .u32 xa, .int .i64 xn, .int .i64 xc]
  have hGA : w.grownBy (w.alloc (.cells #[.int .u32 xa, .int .i64 xn, .int .i64 xc] 67)) (some b) := World.grownBy_alloc w _ _
  obtain ⟨A, hAE⟩ : ∃ A, w.alloc (.cells #[.int .u32 xa, .int .i64 xn, .int .i64 xc] 67) = A := ⟨_, rfl⟩
  obtain ⟨P, hPE⟩ : ∃ P, w.heap.size = P := ⟨_, rfl⟩
  rw [hAE] at hA hX hGA
  rw [hPE] at hX
  have HAE := Lib.hid hAE
  have HPE := Lib.hid hPE
  have hg1 : A.drew.cell? ⟨g, 0, none⟩ = some (.map (some b)) := (kept hA hg : A.cell? ⟨g, 0, none⟩ = some (.map (some b)))
  have hm1 : MapP A.drew b n s f := (hm.next hA).drew
  obtain ⟨x0, x1, x2⟩ := ct_boxes (show Blk A.drew P 67 [.int .u32 xa, .int .i64 xn, .int .i64 xc] from hX)
  obtain ⟨v, hv⟩ : ∃ v, (f ⟨xa, xn⟩).getD 0 = v := ⟨_, rfl⟩
  have hv01 : v = 0 ∧ (f ⟨xa, xn⟩).isSome = false ∨ v = 1 ∧ (f ⟨xa, xn⟩).isSome = true := by
    rcases hf' : f ⟨xa, xn⟩ with _ | u
    · rw [hf'] at hv; exact .inl ⟨hv.symm, rfl⟩
    · rw [hf'] at hv; exact .inr ⟨(hv.symm.trans (hf u hf')), rfl⟩
  obtain ⟨v1, hv1⟩ : ∃ v1, v + 1 = v1 := ⟨_, rfl⟩
  have hwv0 : (Lit.int .i64 v).wf = true := by rcases hv01 with ⟨rfl, _⟩ | ⟨rfl, _⟩ <;> decide
  have hwv : (Lit.int .i64 v1).wf = true := by rcases hv01 with ⟨rfl, _⟩ | ⟨rfl, _⟩ <;> (subst hv1; decide)
  have hl1 := hm1.look Try.underlying60 hx
  rw [hv] at hl1
  have hl1 : (Instr.lookup 60 (.map (some b)) (.agg #[.int .u32 xa, .int .i64 xn]) false).run Try.prog A.drew = .ok (.int .i64 v) A.drew := hl1
  obtain ⟨v0, st, w1, s1, hE, hme, hg5, hst⟩ := MapP.entry hm1 (by unfold maxLen; omega) hx (c := 0) (by rw [hv]; exact hwv0)
  have hE : (Instr.mapEntry 60 (.map (some b)) (.agg #[.int .u32 xa, .int .i64 xn])).run Try.prog A.drew = .ok (.tuple #[v0, .int .i64 st]) w1 := hE
  have hl5 := hme.look Try.underlying60 hx
  unfold putF at hl5
  rw [if_pos rfl, hv] at hl5
  have hl5 : (Instr.lookup 60 (.map (some b)) (.agg #[.int .u32 xa, .int .i64 xn]) false).run Try.prog w1 = .ok (.int .i64 v) w1 := hl5
  obtain ⟨w2, hes, ⟨s2, hm2⟩, hg6⟩ := hst w1 v1 hwv rfl
  obtain ⟨es, cl, hh⟩ := hm1.heap
  obtain ⟨es5, cl5, hh5⟩ := hme.heap
  have hS : A.drew.cell? ⟨g, 0, none⟩ = some (.map (some b)) ∧ A.drew.cell? ⟨P, 0, none⟩ = some (.int .u32 xa) ∧ A.drew.cell? ⟨P, 1, none⟩ = some (.int .i64 xn) ∧ A.drew.cell? ⟨P, 2, none⟩ = some (.int .i64 xc) := ⟨hg1, x0, x1, x2⟩
  have hgo : ∀ q k u, A.drew.cell? ⟨q, k, none⟩ = some u → w1.cell? ⟨q, k, none⟩ = some u := fun q k u h => cell_same h (hg5.block _ (World.block_lt_of_cell? _ _ h) (fun e => cell_notMap h hh (by simpa using e)))
  have hS1 : w1.cell? ⟨g, 0, none⟩ = some (.map (some b)) ∧ w1.cell? ⟨P, 0, none⟩ = some (.int .u32 xa) ∧ w1.cell? ⟨P, 1, none⟩ = some (.int .i64 xn) ∧ w1.cell? ⟨P, 2, none⟩ = some (.int .i64 xc) := ⟨hgo _ _ _ hS.1, hgo _ _ _ hS.2.1, hgo _ _ _ hS.2.2.1, hgo _ _ _ hS.2.2.2⟩
  have hgo2 : ∀ q k u, w1.cell? ⟨q, k, none⟩ = some u → w2.cell? ⟨q, k, none⟩ = some u := fun q k u h => cell_same h (hg6.block _ (World.block_lt_of_cell? _ _ h) (fun e => cell_notMap h hh5 (by simpa using e)))
  have hS2 : w2.cell? ⟨g, 0, none⟩ = some (.map (some b)) ∧ w2.cell? ⟨P, 0, none⟩ = some (.int .u32 xa) ∧ w2.cell? ⟨P, 1, none⟩ = some (.int .i64 xn) ∧ w2.cell? ⟨P, 2, none⟩ = some (.int .i64 xc) := ⟨hgo2 _ _ _ hS1.1, hgo2 _ _ _ hS1.2.1, hgo2 _ _ _ hS1.2.2.1, hgo2 _ _ _ hS1.2.2.2⟩
  have HS2 := Lib.hid hS2
  have hl2 := hm2.look Try.underlying60 hx
  unfold putF at hl2
  rw [if_pos rfl] at hl2
  have hl2 : (Instr.lookup 60 (.map (some b)) (.agg #[.int .u32 xa, .int .i64 xn]) false).run Try.prog w2 = .ok (.int .i64 v1) w2 := hl2
  have hvb : 0 ≤ v ∧ v ≤ 1 := by rcases hv01 with ⟨h, _⟩ | ⟨h, _⟩ <;> omega
  have hw1 : wrap64 (v + 1) = v1 := by rw [IntWalk.wrap64_in _ (by omega)]; exact hv1
  have hes : (Instr.entryStore 60 (.map (some b)) (.int .i64 st) (.int .i64 (IntKind.i64.wrap (v + 1)))).run Try.prog w1 = .ok () w2 := by
    rw [show IntKind.i64.wrap (v + 1) = v1 from (IntWalk.i64_left _).trans hw1]; exact hes
  have hgt : decide (1 < v1) = (f ⟨xa, xn⟩).isSome := by subst hv1; rcases hv01 with ⟨rfl, h⟩ | ⟨rfl, h⟩ <;> rw [h] <;> rfl
  have H2 := Lib.hid hm2
  have HG := Lib.hid (show w.grownBy w2 (some b) from hGA.trans (((gb_belowL (show Below A.heap.size A A.drew from (Below.refl _ _).drew)).trans hg5).trans hg6))
  have HV := Lib.hid hv
  obtain ⟨o1, ho1⟩ : ∃ o, (f ⟨xa, xn⟩).isSome = o := ⟨_, rfl⟩
  rw [ho1] at hgt
  have HO := Lib.hid ho1
  have HV1 := Lib.hid hv1
  have hE2 : (errP xa xn = 0 ∧ okP xa xn = true) ∨ (errP xa xn = 20 ∧ okP xa xn = false) := by
    unfold errP
    rcases okP xa xn with _ | _
    · exact .inr ⟨rfl, rfl⟩
    · exact .inl ⟨rfl, rfl⟩
  have HC := fun u => check_any xa xn u
  clear hm hm1 hm2 hme hf hgo hgo2 hh hh5 hg5 hg6 hst hv hwv hwv0 hg hg1 hA hGA hX x0 x1 x2 hv01 hv1 ho1 hvb hAE hPE
  go_enter Try.func26, Try.ntmps26
  go_wp2_with fail
  rw [HAE.out, HPE.out]
  go_region_held_law (fun W => W.cell? ⟨g, 0, none⟩ = some (.map (some b)) ∧ W.cell? ⟨P, 0, none⟩ = some (.int .u32 xa) ∧ W.cell? ⟨P, 1, none⟩ = some (.int .i64 xn) ∧ W.cell? ⟨P, 2, none⟩ = some (.int .i64 xc)) (with_reducible assumption) (fail)
  all_goals
    clear hS hS1 hE hl1 hl5 hes
    obtain ⟨y9, y0, y1, y2⟩ := HS2.out
    rcases hE2 with ⟨hE, hO⟩ | ⟨hE, hO⟩
    all_goals
      simp only [hE] at HC
      have HC := Lib.hid HC
      have HO2 := Lib.hid hO
      clear hE hO hS2
      go_wp2_with (first
        | (go_at_call 27; refine (HC.out _).mono ?_; rintro e w3 ⟨rfl, hb3⟩; have y2 := kept hb3 y2; have H2 := Lib.hid (H2.out.next hb3); have HG := Lib.hid (HG.out.trans (gb_belowL hb3)); clear hb3)
        | (go_at_call 28; refine (misCapped_any _ _).mono ?_; rintro e w' ⟨rfl, rfl⟩))
      all_goals
        go_ret
        refine ⟨ret_bool ?_, ⟨_, by rw [HV.out, HV1.out]; exact H2.out⟩, HG.out⟩
        unfold oddCt fineCt
        dsimp only
        rw [HO.out, HO2.out]
        simp_all
theorem any_snoc (l : List Ct) (k : Nat) (i : Pf) (hk : k < l.length) : (l.take (k + 1)).any (fun y => y.p == i) = ((l.take k).any (fun y => y.p == i) || (l.getD k Ct.zero).p == i) := by
  rw [List.take_add_one, List.any_append]
  simp [List.getD, hk]
theorem seenT_step (l : List Ct) (k : Nat) (hk : k < l.length) (hno : (seenT (l.take k) (l.getD k Ct.zero).p).isSome = false) : putF (seenT (l.take k)) (l.getD k Ct.zero).p ((seenT (l.take k) (l.getD k Ct.zero).p).getD 0 + 1) = seenT (l.take (k + 1)) := by
  funext i
  unfold putF
  have h0 : seenT (l.take k) (l.getD k Ct.zero).p = none := by simpa using hno
  rw [h0]
  unfold seenT
  rw [any_snoc l k i hk]
  by_cases e : i = (l.getD k Ct.zero).p
  · subst e
    simp
  · rw [if_neg e]
    have : ((l.getD k Ct.zero).p == i) = false := by simpa using fun h => e h.symm
    rw [this, Bool.or_false]
/-- All of them may be, beside each other. -/
def distT : List Ct → List Ct → Bool
  | _, [] => true
  | acc, x :: t => !oddCt (seenT acc) x && distT (acc ++ [x]) t
theorem distT_step (l : List Ct) (k : Nat) (hk : k < l.length) : distT (l.take k) (l.drop k) = (!oddCt (seenT (l.take k)) (l.getD k Ct.zero) && distT (l.take (k + 1)) (l.drop (k + 1))) := by
  rw [List.drop_eq_getElem_cons hk, distT, show l.getD k Ct.zero = l[k] by simp [List.getD, hk], show l.take k ++ [l[k]] = l.take (k + 1) by rw [List.take_add_one]; simp [hk]]
def okCts (l : List Ct) : Bool := distT [] l
def IdxT (b : Bool) (e : Ending) : Prop := ∃ i : Int, e = .returned (.int .i64 i) ∧ decide (0 ≤ i) = b
set_option maxHeartbeats 4000000 in
theorem mindex_any (g b : Nat) (p : Option Addr) (l : List Ct) (n c : Nat) (w : World) (hl : CtsAt w p l) (hn : l.length = n) (hm : n ≤ 1024) (hk0 : MapP w b 0 0 (fun _ => none)) (hg : w.cell? ⟨g, 0, none⟩ = some (.map (some b))) :
    Calls Try.prog 47 #[.slice p n c, .func (.func 26) #[] #[.pointer (some ⟨g, 0, none⟩)]] w fun e w' => IdxT (!okCts l) e ∧ w.grownBy w' (some b) := by
  have HL := Lib.hid hl
  have HN := Lib.hid hn
  have HG := Lib.hid hg
  obtain ⟨es, cl, hh⟩ := hk0.heap
  have HH := Lib.hid hh
  have HK := Lib.hid hk0
  clear hl hn hg hk0 hh
  go_enter Try.func47, Try.ntmps47
  go_wp2
  go_loopw [8] (fun i wr => ∃ k : Nat, k ≤ n ∧ i = .int .i64 k ∧ okCts l = distT (l.take k) (l.drop k) ∧ (∃ nn s, nn ≤ k ∧ MapP wr b nn s (seenT (l.take k))) ∧ w.grownBy wr (some b)) (fun i _ => n - (intOf i).toNat)
  case atStart => exact ⟨0, Nat.zero_le _, rfl, rfl, ⟨0, 0, Nat.le_refl _, HK.out⟩, World.grownBy.refl _ _⟩
  case round =>
    obtain ⟨k, hk, rfl, hd, ⟨nn, s, hnn, hmk⟩, hgr⟩ := hrel
    have HD := Lib.hid hd
    have HGR := Lib.hid hgr
    have HMK := Lib.hid hmk
    have HLW := Lib.hid (HL.out.turn HH.out hgr)
    have hgw : wr.cell? ⟨g, 0, none⟩ = some (.map (some b)) := cell_same HG.out (hgr.block _ (World.block_lt_of_cell? _ _ HG.out) (fun e => cell_notMap HG.out HH.out (by simpa using e)))
    have HGW := Lib.hid hgw
    clear hd hgr hmk hgw
    by_cases hlt : k < n
    · have hlt' : (k : Int) < (n : Int) := by omega
      have hin := HLW.out.in_ HN.out hlt
      obtain ⟨b', off, rfl, c0, c1, c2⟩ := ct_cell HLW.out HN.out hlt
      have hkl : k < l.length := by rw [HN.out]; exact hlt
      have HST := Lib.hid (distT_step l k hkl)
      have HSN := Lib.hid (seenT_step l k hkl)
      obtain ⟨x, hx⟩ : ∃ x, l.getD k Ct.zero = x := ⟨_, rfl⟩
      rw [hx] at c0 c1 c2 HST HSN hin
      have HC := Lib.hid (modd_any wr g b nn s _ x hin HMK.out HGW.out (by omega) (fun v hv => by unfold seenT at hv; split at hv <;> simp at hv; exact hv.symm))
      obtain ⟨o, ho⟩ : ∃ o, oddCt (seenT (l.take k)) x = o := ⟨_, rfl⟩
      rw [ho] at HC HST
      have HO := Lib.hid ho
      obtain ⟨⟨xa, xn⟩, xc⟩ := x
      dsimp only at c0 c1 c2
      clear hx ho hin
      rcases o with _ | _
      · go_wp2_with (go_at_call 26; refine HC.out.mono ?_; rintro e w2 ⟨rfl, ⟨s', hm2⟩, hg2⟩)
        go_roundw
        case rel =>
          have hno : (seenT (l.take k) ⟨xa, xn⟩).isSome = false := by
            have := HO.out
            unfold oddCt at this
            rw [Bool.or_eq_false_iff] at this
            exact this.1
          refine ⟨k + 1, by omega, by go_num, HD.out.trans HST.out, ⟨nn + 1, s', by omega, ?_⟩, HGR.out.trans hg2⟩
          rw [← HSN.out hno]
          exact hm2
        case measure => simp [intOf]; omega
      · go_wp2_with (go_at_call 26; refine HC.out.mono ?_; rintro e w2 ⟨rfl, ⟨s', hm2⟩, hg2⟩)
        go_ret
        exact ⟨⟨k, rfl, by rw [HD.out, HST.out]; simp⟩, HGR.out.trans hg2⟩
    · obtain rfl : k = n := by omega
      go_wp2
      go_ret
      refine ⟨⟨-1, rfl, ?_⟩, HGR.out⟩
      have := HD.out
      rw [List.drop_eq_nil_of_le (by rw [HN.out]; exact Nat.le_refl _)] at this
      rw [this]; rfl
theorem mcontains_any (g b : Nat) (p : Option Addr) (l : List Ct) (n c : Nat) (w : World) (hl : CtsAt w p l) (hn : l.length = n) (hm : n ≤ 1024) (hk0 : MapP w b 0 0 (fun _ => none)) (hg : w.cell? ⟨g, 0, none⟩ = some (.map (some b))) :
    Calls Try.prog 30 #[.slice p n c, .func (.func 26) #[] #[.pointer (some ⟨g, 0, none⟩)]] w fun e w' => e = .returned (.bool (!okCts l)) ∧ w.grownBy w' (some b) := by
  have HI := Lib.hid (mindex_any g b p l n c w hl hn hm hk0 hg)
  clear hl hn hk0 hm hg
  go_enter Try.func30, Try.ntmps30
  go_wp2_with fail
  refine HI.out.mono ?_; rintro e w1 ⟨⟨i, rfl, hi'⟩, hb⟩
  have HD := Lib.hid hi'
  have HB := Lib.hid hb
  clear hi' hb
  go_wp2_with fail
  go_ret
  exact ⟨ret_bool HD.out, HB.out⟩


def okRep (src seq : Int) (l : List Ct) : Bool := isR src && (isCap seq && (decide (l.length ≤ 1024) && okCts l))
set_option maxHeartbeats 4000000 in
theorem mcheck_any (src seq : Int) (p : Option Addr) (l : List Ct) (n c : Nat) (w : World) (hl : CtsAt w p l) (hn : l.length = n) (hm : n ≤ maxLen) :
    Calls Try.prog 11 #[.agg #[.int .i64 src, .int .i64 seq, .slice p n c]] w fun e w' => e = .returned (.int .i64 (if okRep src seq l then 0 else 1)) ∧ Below w.heap.size w w' := by
  have HL := Lib.hid hl
  have HN := Lib.hid hn
  unfold maxLen at hm
  have hmm := @run_makeMap Try.prog
  obtain ⟨r, hr⟩ : ∃ r : Int, (if okRep src seq l then 0 else 1) = r := ⟨_, rfl⟩
  rw [hr]
  have HRR := Lib.hid hr
  clear hr
  obtain ⟨V, hV⟩ : ∃ V, ((w.alloc (.cells #[.int .i64 src, .int .i64 seq, .slice p n c] 31)).alloc (.map #[] 0)).alloc (.cells #[.map (some (w.heap.size + 1))] 60) = V := ⟨_, rfl⟩
  have hb1 := newB w (.cells #[.int .i64 src, .int .i64 seq, .slice p n c] 31)
  have hb2 := newB (w.alloc (.cells #[.int .i64 src, .int .i64 seq, .slice p n c] 31)) (.map #[] 0)
  have hb3 := newB ((w.alloc (.cells #[.int .i64 src, .int .i64 seq, .slice p n c] 31)).alloc (.map #[] 0)) (.cells #[.map (some (w.heap.size + 1))] 60)
  have hB : Below w.heap.size w V := by rw [← hV]; exact (hb1.trans (hb2.mono hb1.size)).trans (hb3.mono (Nat.le_trans hb1.size hb2.size))
  have hX : Blk V w.heap.size 31 [.int .i64 src, .int .i64 seq, .slice p n c] := by rw [← hV]; exact ((Blk.new w _ _).next hb2).next hb3
  have hM : MapP V (w.heap.size + 1) 0 0 (fun _ => none) := by
    rw [← hV]
    have h1 := MapAt.fresh keyPfC elIntC (w.alloc (.cells #[.int .i64 src, .int .i64 seq, .slice p n c] 31))
    rw [sz_alloc] at h1
    exact h1.next hb3
  have hC : V.cell? ⟨w.heap.size + 1 + 1, 0, none⟩ = some (.map (some (w.heap.size + 1))) := by
    rw [← hV]
    have h1 := (Blk.new ((w.alloc (.cells #[.int .i64 src, .int .i64 seq, .slice p n c] 31)).alloc (.map #[] 0)) 60 [.map (some (w.heap.size + 1))]).cell 0 (by simp)
    rw [sz_alloc, sz_alloc] at h1
    exact h1
  have HCF := Lib.hid (fun h1024 : n ≤ 1024 => mcontains_any (w.heap.size + 1 + 1) (w.heap.size + 1) p l n c V (HL.out.below hB) HN.out h1024 hM hC)
  have x0 := hX.cell 0 (by simp)
  have x1 := hX.cell 1 (by simp)
  have x2 := hX.cell 2 (by simp)
  simp only [List.getD_cons_zero, List.getD_cons_succ] at x0 x1 x2
  rw [← hV] at x0 x1 x2
  have HVE := Lib.hid hV
  have HB := Lib.hid hB
  have HOK := Lib.hid (show okRep src seq l = (isR src && (isCap seq && (decide (n ≤ 1024) && okCts l))) by unfold okRep; rw [hn])
  obtain ⟨s1, hs1⟩ : ∃ s, isR src = s := ⟨_, rfl⟩
  obtain ⟨s2, hs2⟩ : ∃ s, isCap seq = s := ⟨_, rfl⟩
  obtain ⟨s4, hs4⟩ : ∃ s, okCts l = s := ⟨_, rfl⟩
  rw [hs1, hs2, hs4] at HOK
  rw [hs4] at HCF
  have HR := Lib.hid (fun u => misSource_any src u)
  have HP := Lib.hid (fun u => misCapped_any seq u)
  rw [hs1] at HR
  rw [hs2] at HP
  clear hl hn hb1 hb2 hb3 hX hM hC hV hB hs1 hs2 hs4
  by_cases h1024 : n ≤ 1024
  · have t0 : decide ((1024 : Int) < (n : Int)) = false := decide_eq_false (by omega)
    have hcf := HCF.out h1024
    rw [decide_eq_true h1024] at HOK
    have HD := Lib.hid hcf
    clear hcf HCF h1024
    rcases s1 with _ | _ <;> rcases s2 with _ | _ <;> rcases s4 with _ | _
    all_goals
      go_enter Try.func11, Try.ntmps11
      go_wp2_with (first
        | (go_at_call 29; refine (HR.out _).mono ?_; rintro e w' ⟨rfl, rfl⟩)
        | (go_at_call 28; refine (HP.out _).mono ?_; rintro e w' ⟨rfl, rfl⟩)
        | (go_at_call 30; rw [HVE.out]; refine HD.out.mono ?_; rintro e w' ⟨rfl, hg⟩))
      first
        | (rw [HVE.out]; go_ret; exact ⟨by rw [← HRR.out, HOK.out]; rfl, HB.out⟩)
        | (go_ret; exact ⟨by rw [← HRR.out, HOK.out]; rfl, HB.out.grown hg HB.out.size (fun k e => by cases e; omega)⟩)
  · have t0 : decide ((1024 : Int) < (n : Int)) = true := decide_eq_true (by omega)
    rw [decide_eq_false h1024] at HOK
    clear HCF h1024
    rcases s1 with _ | _ <;> rcases s2 with _ | _
    all_goals
      go_enter Try.func11, Try.ntmps11
      go_wp2_with (first
        | (go_at_call 29; refine (HR.out _).mono ?_; rintro e w' ⟨rfl, rfl⟩)
        | (go_at_call 28; refine (HP.out _).mono ?_; rintro e w' ⟨rfl, rfl⟩))
      rw [HVE.out]
      go_ret
      exact ⟨by rw [← HRR.out, HOK.out]; rfl, HB.out⟩


def apartT (acc : List Ct) (x : Ct) : Bool := !(acc.any fun y => y.p == x.p)
theorem apartT_step (l : List Ct) (k : Nat) (x : Ct) (hk : k < l.length) : apartT (l.drop k) x = (!((l.getD k Ct.zero).p == x.p) && apartT (l.drop (k + 1)) x) := by
  unfold apartT
  rw [List.drop_eq_getElem_cons hk, List.any_cons, show l.getD k Ct.zero = l[k] by simp [List.getD, hk]]
  simp
theorem oddCt_seen (acc : List Ct) (x : Ct) : (!oddCt (seenT acc) x) = (fineCt x && apartT acc x) := by
  unfold oddCt seenT apartT
  split
  · rename_i h; rw [h]; simp
  · rename_i h; rw [Bool.not_eq_true] at h; rw [h]; simp
set_option maxHeartbeats 8000000 in
theorem rmcheck_any (src seq : Int) (p : Option Addr) (l : List Ct) (n c : Nat) (w : World) (hl : CtsAt w p l) (hn : l.length = n) (hm : n ≤ maxLen) :
    Calls Try.prog 10 #[.agg #[.int .i64 src, .int .i64 seq, .slice p n c]] w fun e w' => e = .returned (.bool (okRep src seq l)) ∧ Below w.heap.size w w' := by
  unfold maxLen at hm
  have HL := Lib.hid hl
  have HN := Lib.hid hn
  have HOK := Lib.hid (show okRep src seq l = (isR src && (isCap seq && (decide (n ≤ 1024) && okCts l))) by unfold okRep; rw [hn])
  have HNO := Lib.hid (fun (h : ¬ (0 ≤ src ∧ src ≤ 15 ∧ 0 ≤ seq ∧ seq ≤ 9007199254740991 ∧ n ≤ 1024)) => show okRep src seq l = false from by
    rw [Bool.eq_false_iff]
    intro hk
    rw [HOK.out] at hk
    simp only [Bool.and_eq_true, decide_eq_true_eq, isCap_iff, isR] at hk
    omega)
  have HYES := Lib.hid (fun (h : 0 ≤ src ∧ src ≤ 15 ∧ 0 ≤ seq ∧ seq ≤ 9007199254740991 ∧ n ≤ 1024) => show okRep src seq l = okCts l from by
    rw [HOK.out]
    have h1 : isR src = true := by unfold isR; simp only [Bool.and_eq_true, decide_eq_true_eq]; omega
    have h2 : isCap seq = true := (isCap_iff _).2 ⟨h.2.2.1, h.2.2.2.1⟩
    rw [h1, h2, decide_eq_true h.2.2.2.2]; rfl)
  have hb1 := newB w (.cells #[.int .i64 src, .int .i64 seq, .slice p n c] 31)
  have hX := Blk.new w 31 [.int .i64 src, .int .i64 seq, .slice p n c]
  obtain ⟨V, hV⟩ : ∃ V, w.alloc (.cells #[.int .i64 src, .int .i64 seq, .slice p n c] 31) = V := ⟨_, rfl⟩
  obtain ⟨P, hP⟩ : ∃ P, w.heap.size = P := ⟨_, rfl⟩
  rw [hV] at hb1 hX
  rw [hP] at hX
  have HX := Lib.hid hX
  have HB1 := Lib.hid hb1
  have HVE := Lib.hid hV
  have HPE := Lib.hid hP
  have x0 := hX.cell 0 (by simp)
  have x1 := hX.cell 1 (by simp)
  have x2 := hX.cell 2 (by simp)
  simp only [List.getD_cons_zero, List.getD_cons_succ] at x0 x1 x2
  rw [← hV, ← hP] at x0 x1 x2
  clear hl hn hb1 hX hV hP
  go_enter Try.func10, Try.ntmps10
  go_wp2_with fail
  all_goals try (rw [HVE.out]; go_ret; exact ⟨ret_bool (HNO.out (by omega)).symm, HB1.out⟩)
  have HY := Lib.hid (HYES.out (by omega))
  have h1024 : n ≤ 1024 := by omega
  rw [HVE.out, HPE.out]
  clear x0 x1 x2 HOK HNO HYES
  go_loopw [3] (fun i wr => ∃ k : Nat, k ≤ n ∧ i = .int .i64 k ∧ okCts l = distT (l.take k) (l.drop k) ∧ Below V.heap.size V wr) (fun i _ => n - (intOf i).toNat)
  case atStart => exact ⟨0, Nat.zero_le _, rfl, rfl, Below.refl _ _⟩
  case round =>
    obtain ⟨k, hk, rfl, hokf, hB⟩ := hrel
    have HB := Lib.hid hB
    have hXk := HX.out.next hB
    have HXK := Lib.hid hXk
    have z2 := hXk.cell 2 (by simp)
    simp only [List.getD_cons_zero, List.getD_cons_succ] at z2
    have HBW := Lib.hid (HB1.out.trans (hB.mono HB1.out.size))
    by_cases hlt : k < n
    · have hLV := HL.out.below HBW.out
      obtain ⟨b, off, rfl, c0, c1, c2⟩ := ct_cell hLV HN.out hlt
      have hkl : k < l.length := by rw [HN.out]; exact hlt
      have hin := (hLV.in_ HN.out hlt)
      have hst := distT_step l k hkl
      obtain ⟨x, hx⟩ : ∃ x, l.getD k Ct.zero = x := ⟨_, rfl⟩
      rw [hx] at c0 c1 c2 hst hin
      rw [oddCt_seen] at hst
      obtain ⟨⟨xa, xn⟩, xc⟩ := x
      simp only at c0 c1 c2
      have HST := Lib.hid (hokf.trans hst)
      have hltI : (k : Int) < (n : Int) := by omega
      have hbx := newB wr (.cells #[.int .u32 xa, .int .i64 xn, .int .i64 xc] 67)
      have HXB := Lib.hid (Blk.new wr 67 [.int .u32 xa, .int .i64 xn, .int .i64 xc])
      have HBX := Lib.hid (hB.trans (hbx.mono hB.size))
      have HXK2 := Lib.hid (hXk.next hbx)
      have HTL := Lib.hid (show (l.take k).length = k by rw [List.length_take]; omega)
      have HNO := Lib.hid (fun (h : ¬(okP xa xn = true ∧ 0 ≤ xc ∧ xc ≤ 9007199254740991)) => show okCts l = false from by
        rw [HST.out, show fineCt ⟨⟨xa, xn⟩, xc⟩ = false from by
          rw [Bool.eq_false_iff]
          intro hf
          unfold fineCt at hf
          simp only [Bool.and_eq_true, decide_eq_true_eq, isCap_iff] at hf
          exact h hf]
        rfl)
      have HAP := Lib.hid (fun (h : apartT (l.take k) ⟨⟨xa, xn⟩, xc⟩ = false) => show okCts l = false from by
        rw [HST.out, h]; simp)
      have HGO := Lib.hid (fun (h : okP xa xn = true ∧ 0 ≤ xc ∧ xc ≤ 9007199254740991) (ha : apartT (l.take k) ⟨⟨xa, xn⟩, xc⟩ = true) => show okCts l = distT (l.take (k + 1)) (l.drop (k + 1)) from by
        rw [HST.out, ha, show fineCt ⟨⟨xa, xn⟩, xc⟩ = true from by
          unfold fineCt
          simp only [Bool.and_eq_true, decide_eq_true_eq, isCap_iff]
          exact h]
        rfl)
      have HC := Lib.hid (rcheck_any xa xn (wr.alloc (.cells #[.int .u32 xa, .int .i64 xn, .int .i64 xc] 67)) (InPf.addr hin).1 (InPf.addr hin).2)
      clear hokf hst hB hx hkl hbx hXk hLV hin
      go_wp2_with fail
      refine HC.out.mono ?_
      rintro e U ⟨rfl, hb⟩
      have HXB := Lib.hid (HXB.out.next hb)
      have HBX := Lib.hid (HBX.out.trans (hb.mono HBX.out.size))
      have HXK2 := Lib.hid (HXK2.out.next hb)
      clear hb HC c0 c1 c2
      obtain ⟨x0, x1, x2⟩ := ct_boxes HXB.out
      obtain ⟨o, ho⟩ : ∃ o, okP xa xn = o := ⟨_, rfl⟩
      rw [ho]
      rcases o with _ | _
      · go_wp2_with fail
        go_ret
        exact ⟨ret_bool (by rw [HY.out]; exact (HNO.out (fun h => by rw [ho] at h; cases h.1)).symm), HB1.out.trans (HBX.out.mono HB1.out.size)⟩
      have HO := Lib.hid ho
      clear ho
      go_wp2_with fail
      all_goals try (go_ret; exact ⟨ret_bool (by rw [HY.out]; exact (HNO.out (fun h => by have h1 := h.2; omega)).symm), HB1.out.trans (HBX.out.mono HB1.out.size)⟩)
      have HGO2 := Lib.hid (HGO.out ⟨HO.out, by omega, by omega⟩)
      obtain ⟨Q, hQ⟩ : ∃ Q, wr.heap.size = Q := ⟨_, rfl⟩
      rw [hQ] at HXB
      rw [hQ]
      clear x0 x1 x2 z2 HGO HNO HXK hQ
      go_loopw [5] (fun v wr => ∃ j : Nat, j ≤ k ∧ v = .int .i64 j ∧ apartT (l.take k) ⟨⟨xa, xn⟩, xc⟩ = apartT ((l.take k).drop j) ⟨⟨xa, xn⟩, xc⟩ ∧ Below U.heap.size U wr) (fun v _ => k - (intOf v).toNat)
      case atStart => exact ⟨0, Nat.zero_le _, rfl, rfl, Below.refl _ _⟩
      case round =>
        obtain ⟨j, hj, rfl, hap, hB⟩ := hrel
        have HB2 := Lib.hid (HBX.out.trans (hB.mono HBX.out.size))
        by_cases hjk : j < k
        · have hjn : j < n := by omega
          obtain ⟨b', off', hbo, c0, c1, c2⟩ := ct_cell (HL.out.below (HB1.out.trans (HB2.out.mono HB1.out.size))) HN.out hjn
          simp only [Option.some.injEq, Addr.mk.injEq, and_true] at hbo
          obtain ⟨rfl, rfl⟩ := hbo
          have hs := apartT_step (l.take k) j ⟨⟨xa, xn⟩, xc⟩ (by rw [HTL.out]; exact hjk)
          rw [show (l.take k).getD j Ct.zero = l.getD j Ct.zero by simp [List.getD, List.getElem?_take_of_lt hjk]] at hs
          obtain ⟨y, hy⟩ : ∃ y, l.getD j Ct.zero = y := ⟨_, rfl⟩
          rw [hy] at c0 c1 c2 hs
          obtain ⟨⟨ya, yn⟩, yc⟩ := y
          simp only at c0 c1 c2
          have HS := Lib.hid (hap.trans hs)
          obtain ⟨x0, x1, x2⟩ := ct_boxes (HXB.out.next hB)
          have z2 := (HXK2.out.next hB).cell 2 (by simp)
          simp only [List.getD_cons_zero, List.getD_cons_succ] at z2
          have hjI : (j : Int) < (k : Int) := by omega
          clear hy hs hap
          have hg := pfx_eqGuard
          have hq := fun u => pfx_eql ya yn xa xn u
          by_cases e1 : (⟨ya, yn⟩ : Pf) = ⟨xa, xn⟩
          · have HF := Lib.hid (HAP.out (by rw [HS.out, show ((⟨ya, yn⟩ : Pf) == ⟨xa, xn⟩) = true by simpa using e1]; rfl))
            have t1 : (ya == xa && yn == xn) = true := by cases e1; simp
            rw [t1] at hq
            clear e1 t1
            go_wp2_with fail
            go_quiet (fail)
            go_wp2_with fail
            go_ret
            exact ⟨ret_bool (by rw [HY.out]; exact HF.out.symm), HB1.out.trans ((HB2.out.trans (below_dN _ _ _)).mono HB1.out.size)⟩
          · have t1b : ((⟨ya, yn⟩ : Pf) == ⟨xa, xn⟩) = false := by simpa using e1
            have t1 : (ya == xa && yn == xn) = false := by
              rw [Bool.eq_false_iff]
              intro h
              simp only [Bool.and_eq_true, beq_iff_eq] at h
              exact e1 (by rw [h.1, h.2])
            have HF := Lib.hid (show apartT (l.take k) ⟨⟨xa, xn⟩, xc⟩ = apartT ((l.take k).drop (j + 1)) ⟨⟨xa, xn⟩, xc⟩ by rw [HS.out, t1b]; rfl)
            rw [t1] at hq
            clear e1 t1 t1b
            go_wp2_with fail
            go_quiet (fail)
            go_wp2_with fail
            go_roundw
            case rel => exact ⟨j + 1, by omega, by go_num, HF.out, hB.trans (below_dN _ _ _)⟩
            case measure => simp [intOf]; omega
        · obtain rfl : j = k := by omega
          have HA := Lib.hid (HGO2.out (by rw [hap, List.drop_eq_nil_of_le (by rw [HTL.out]; omega)]; rfl))
          clear hap hB
          go_wp2_with fail
          go_roundw
          case rel => exact ⟨j + 1, by omega, by go_num, HA.out, HB2.out⟩
          case measure => simp [intOf]; omega
    · obtain rfl : k = n := by omega
      have HF := Lib.hid (show okCts l = true by rw [hokf, List.drop_eq_nil_of_le (by rw [HN.out]; omega)]; rfl)
      clear hokf
      go_wp2
      go_ret
      exact ⟨ret_bool (by rw [HY.out, HF.out]), HBW.out⟩
end Go.Proofs.Ytgididkpgncdjaa
