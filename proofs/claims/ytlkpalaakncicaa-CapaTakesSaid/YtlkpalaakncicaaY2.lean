/- capa: what interfaces carry: values, lists, maps; the small calls. / capa: Check. / capa: Check of what a source says. / capa: the document's Check of what a source says. -/
import Derived.Test.YtlkpalaakncicaaY1
import Derived.Test.YtlkpalaakncicaaY0
import Derived.Test.YtlkpalaakncicaaWE
import Derived.Deep.RegionHeldLaw
namespace Go.Proofs.Ytlkpalaakncicaa
open Go.RowKit Go.Maps
set_option linter.unusedVariables false
set_option linter.unusedSimpArgs false
set_option maxRecDepth 100000

structure Cy where
  intro ::
  i : Int
  c : Int
  d : Bool
deriving instance DecidableEq for Cy
def cyC (x : Cy) : List Value := [.int .i64 x.i, .int .i64 x.c, .bool x.d]
abbrev cyV (x : Cy) : Value := .agg #[.int .i64 x.i, .int .i64 x.c, .bool x.d]
def cyD (x : Cy) : DataW Unit := .agg [.lit (.int .i64 x.i), .lit (.int .i64 x.c), .lit (.bool x.d)]
def Cy.zero : Cy := ⟨0, 0, false⟩
def cyElem (v : Value) : Option (DataW Unit × List MemPlace) := match v with
  | .agg cs => match cs.toList with
    | [.int .i64 a, .int .i64 b, .bool c] => some (cyD ⟨a, b, c⟩, [])
    | _ => none
  | _ => none
theorem elCyC : ElC 67 cyElem cyV cyD (fun _ => True) Cy.zero where
  made x _ := rfl
  inv v z h := by
    unfold cyElem at h
    split at h
    · rename_i cs
      split at h
      · rename_i a b c hcs
        cases h
        refine ⟨⟨a, b, c⟩, trivial, ?_, rfl⟩
        obtain ⟨l⟩ := cs
        simp only at hcs
        rw [hcs]
      · cases h
    · cases h
  inj x y h := by
    obtain ⟨a, b, c⟩ := x
    obtain ⟨a', b', c'⟩ := y
    simp [cyD] at h
    obtain ⟨rfl, rfl, rfl⟩ := h
    rfl
  zok := trivial
  zrun w := by kernel_rfl
/-- Numbers that an interface has, as it comes. -/
def InCy (x : Cy) : Prop := (Lit.int .i64 x.i).wf = true
theorem rowCy : RowC 51 67 cyC InCy Cy.zero (.agg #[.int .i64 0, .int .i64 0, .bool false]) 3 24 where
  len x := rfl
  pos := by omega
  zs := rfl
  byl := by omega
  info := by kernel_rfl
  under := Try.underlying51
  elem := by kernel_rfl
  size w := by kernel_rfl
  one x u hu := by
    simp [cyC] at hu
    rcases hu with rfl | rfl | rfl <;> rfl
abbrev CysAt (w : World) (p : Option Addr) (l : List Cy) : Prop := LAt cyC InCy Cy.zero 3 w p l
abbrev CysOwn (w : World) (B : Nat) (q : Option Addr) (n cap : Nat) (l : List Cy) : Prop := LOwn 67 cyC InCy 3 w B q n cap l
theorem cy_cell {w : World} {p : Option Addr} {l : List Cy} {n k : Nat} (h : CysAt w p l) (hn : l.length = n) (hk : k < n) : ∃ b off, p = some ⟨b, off, none⟩ ∧ w.cell? ⟨b, off + k * 3, none⟩ = some (.int .i64 (l.getD k Cy.zero).i) ∧ w.cell? ⟨b, off + k * 3 + 1, none⟩ = some (.int .i64 (l.getD k Cy.zero).c) ∧ w.cell? ⟨b, off + k * 3 + 2, none⟩ = some (.bool (l.getD k Cy.zero).d) := by
  obtain ⟨b, off, hp, hc⟩ := h.cell hn hk
  exact ⟨b, off, hp, hc 0 _ rfl, hc 1 _ rfl, hc 2 _ rfl⟩
theorem cy_boxes {w : World} {g : Nat} {x0 x1 : Int} {x2 : Bool} (h : Blk w g 67 [.int .i64 x0, .int .i64 x1, .bool x2]) : w.cell? ⟨g, 0, none⟩ = some (.int .i64 x0) ∧ w.cell? ⟨g, 1, none⟩ = some (.int .i64 x1) ∧ w.cell? ⟨g, 2, none⟩ = some (.bool x2) :=
  ⟨h.cell 0 (by simp), h.cell 1 (by simp), h.cell 2 (by simp)⟩
/-- Two of them held against each other. -/
theorem cy_under : Try.prog.underlying 67 = some (.struct (Try.prog.fieldsOf 67)) := by kernel_rfl
theorem cy_held : Try.prog.stoodInHeld 67 = false := by kernel_rfl
theorem cy_guard : Try.prog.eqGuardType Try.prog.depth 67 = false := by kernel_rfl
theorem cy_fields : (Try.prog.fieldsOf 67).toList.map (fun f => (f.name, f.type, f.offset)) = [("Iface", 3, 0), ("Cap", 3, 1), ("Drain", 4, 2)] := by kernel_rfl
theorem list_threeC {α : Type} {l : List α} (h : l.length = 3) : ∃ x y z, l = [x, y, z] := by
  rcases l with _ | ⟨x, _ | ⟨y, _ | ⟨z, _ | ⟨u, r⟩⟩⟩⟩ <;> simp at h
  exact ⟨x, y, z, rfl⟩
def eqC (x y : Cy) : Bool := x.i == y.i && (x.c == y.c && x.d == y.d)
theorem eqC_iff (x y : Cy) : eqC x y = true ↔ x = y := by
  obtain ⟨a, b, c⟩ := x
  obtain ⟨a', b', c'⟩ := y
  simp [eqC]
theorem cy_equalIn (d : Nat) (x y : Cy) (w : World) :
    (Op.equalIn (d + 1 + 1) 67 (cyV x) (cyV y)).run Try.prog w = .ok (eqC x y) w := by
  obtain ⟨x0, x1, x2⟩ := x
  obtain ⟨y0, y1, y2⟩ := y
  unfold eqC
  rw [run_equalIn_struct w (d + 1) _ _ _ cy_under cy_held]
  have hf := cy_fields
  generalize (Try.prog.fieldsOf 67).toList = fs at hf
  obtain ⟨f0, f1, f2, rfl⟩ := list_threeC (l := fs) (by simpa using congrArg List.length hf)
  simp only [List.map_cons, List.map_nil, List.cons.injEq, Prod.mk.injEq, and_true] at hf
  obtain ⟨⟨n0, t0, o0⟩, ⟨n1, t1, o1⟩, n2, t2, o2⟩ := hf
  have q0 : (Op.equalIn (d + 1) 3 (.int .i64 x0) (.int .i64 y0)).run Try.prog w = .ok (x0 == y0) w := run_equalIn_int w d _ _ _ x0 y0 Try.underlying3
  have q1 : (Op.equalIn (d + 1) 3 (.int .i64 x1) (.int .i64 y1)).run Try.prog w = .ok (x1 == y1) w := run_equalIn_int w d _ _ _ x1 y1 Try.underlying3
  have q2 : (Op.equalIn (d + 1) 4 (.bool x2) (.bool y2)).run Try.prog w = .ok (x2 == y2) w := run_equalIn_bool w d _ x2 y2 Try.underlying4
  have p0 : ∀ a b c : Value, (part 3 #[a, b, c] 0).run Try.prog w = .ok a w := fun a b c => by kernel_rfl
  have p1 : ∀ a b c : Value, (part 3 #[a, b, c] 1).run Try.prog w = .ok b w := fun a b c => by kernel_rfl
  have p2 : ∀ a b c : Value, (part 4 #[a, b, c] 2).run Try.prog w = .ok c w := fun a b c => by kernel_rfl
  simp only [Op.eqFields, n0, n1, n2, t0, t1, t2, o0, o1, o2]
  rw [if_pos (by decide), if_pos (by decide), if_pos (by decide)]
  simp only [Sem.run_bind, p0, q0, Result.andThen_ok]
  rcases x0 == y0 with _ | _
  · simp [Sem.run_pure]
  · simp only [Bool.not_true, Bool.false_eq_true, if_false, Sem.run_bind, p1, q1, Result.andThen_ok]
    rcases x1 == y1 with _ | _
    · simp [Sem.run_pure]
    · simp only [Bool.not_true, Bool.false_eq_true, if_false, Sem.run_bind, p2, q2, Result.andThen_ok]
      rcases x2 == y2 with _ | _ <;> simp [Sem.run_pure]
theorem cy_equal (x y : Cy) (w : World) : (Op.equalIn 10000 67 (cyV x) (cyV y)).run Try.prog w = .ok (eqC x y) w := cy_equalIn 9998 x y w
theorem cy_eql (x y : Cy) (w : World) : (binOp .eql 67 (cyV x) (cyV y)).run Try.prog w = .ok (.bool (eqC x y)) w := by
  rw [run_eql_struct, cy_equal]; rfl
theorem cy_neq (x y : Cy) (w : World) : (binOp .neq 67 (cyV x) (cyV y)).run Try.prog w = .ok (.bool (!eqC x y)) w := by
  rw [run_neq_struct, cy_equal]; rfl
theorem cy_eqGuard (op : BinOp) (x y : Operand) (xs ys : Array Value) (w : World) : (eqGuard op 67 x y (.agg xs) (.agg ys)).run Try.prog w = .ok () w := run_eqGuard_agg w op _ x y xs ys cy_guard

def isCap (n : Int) : Bool := n == near n
theorem isCap_iff (n : Int) : isCap n = true ↔ 0 ≤ n ∧ n ≤ 9007199254740991 := by
  unfold isCap
  rw [beq_iff_eq]
  constructor
  · intro h; rw [h]; exact ⟨near_lo n, near_hi n⟩
  · rintro ⟨h0, h1⟩; exact (near_id h0 h1).symm
theorem cisCapped_any (n : Int) (w : World) :
    Calls Try.prog 46 #[.int .i64 n] w fun e w' => e = .returned (.bool (isCap n)) ∧ w = w' := by
  go_enter Try.func46, Try.ntmps46
  go_wp2_with (go_at_call 64; refine (near_any _ _).mono ?_; rintro e w' ⟨rfl, rfl⟩)
  go_ret
  exact ⟨rfl, rfl⟩
theorem cisSource_any (r : Int) (w : World) :
    Calls Try.prog 47 #[.int .i64 r] w fun e w' => e = .returned (.bool (isR r)) ∧ w = w' := by
  go_enter Try.func47, Try.ntmps47
  by_cases h0 : 0 ≤ r
  · have t0 : decide (0 ≤ r) = true := decide_eq_true h0
    go_wp2_with fail
    go_ret
    exact ⟨by unfold isR; rw [t0]; rfl, rfl⟩
  · have t0 : decide (0 ≤ r) = false := decide_eq_false h0
    go_wp2_with fail
    go_ret
    exact ⟨by unfold isR; rw [t0]; rfl, rfl⟩
end Go.Proofs.Ytlkpalaakncicaa
namespace Go.Proofs.Ytlkpalaakncicaa
open Go.RowKit Go.Maps
set_option linter.unusedVariables false
set_option linter.unusedSimpArgs false
set_option maxRecDepth 100000

abbrev MapI (w : World) (b n s : Nat) (f : Int → Option Int) : Prop := MapAt keyIntC elIntC w b n s f
/-- An element that may not be, beside those that were seen. -/
def fineCy (x : Cy) : Bool := decide (0 ≤ x.i) && (decide (x.i ≤ 4294967295) && isCap x.c)
def oddCy (f : Int → Option Int) (x : Cy) : Bool := (f x.i).isSome || !fineCy x
/-- What was seen, each once. -/
def seenC (l : List Cy) : Int → Option Int := fun i => if l.any (fun y => y.i == i) then some 1 else none
set_option maxHeartbeats 4000000 in
theorem codd_any (w : World) (g b n s : Nat) (f : Int → Option Int) (x : Cy) (hx : InCy x) (hm : MapI w b n s f) (hg : w.cell? ⟨g, 0, none⟩ = some (.map (some b))) (hn : n < 1000000) (hf : ∀ v, f x.i = some v → v = 1) :
    Calls Try.prog 45 #[cyV x, .pointer (some ⟨g, 0, none⟩)] w fun e w' => e = .returned (.bool (oddCy f x)) ∧ (∃ s', MapI w' b (n + 1) s' (putF f x.i ((f x.i).getD 0 + 1))) ∧ w.grownBy w' (some b) := by
  obtain ⟨xi, xc, xd⟩ := x
  dsimp only at hf
  unfold InCy at hx
  dsimp only at hx
  have hA := newB w (.cells #[.int .i64 xi, .int .i64 xc, .bool xd] 67)
  obtain ⟨x0, x1, x2⟩ := cy_boxes (Blk.new w 67 [.int .i64 xi, .int .i64 xc, .bool xd])
  have hg1 := kept hA hg
  have hm1 := hm.next hA
  obtain ⟨v, hv⟩ : ∃ v, (f xi).getD 0 = v := ⟨_, rfl⟩
  have hv01 : v = 0 ∧ (f xi).isSome = false ∨ v = 1 ∧ (f xi).isSome = true := by
    rcases hf' : f xi with _ | u
    · rw [hf'] at hv; exact .inl ⟨hv.symm, rfl⟩
    · rw [hf'] at hv; exact .inr ⟨(hv.symm.trans (hf u hf')), rfl⟩
  obtain ⟨v1, hv1⟩ : ∃ v1, v + 1 = v1 := ⟨_, rfl⟩
  have hwv : (Lit.int .i64 v1).wf = true := by rcases hv01 with ⟨rfl, _⟩ | ⟨rfl, _⟩ <;> (subst hv1; decide)
  have hl1 := hm1.look Try.underlying100 hx
  rw [hv] at hl1
  obtain ⟨w2, hu, hm2, hgr⟩ := hm1.update Try.underlying100 (by unfold maxLen; omega) hx (a := v1) hwv
  obtain ⟨es, cl, hh⟩ := hm1.heap
  have hb2 : ∀ k u, (w.alloc (.cells #[.int .i64 xi, .int .i64 xc, .bool xd] 67)).cell? ⟨w.heap.size, k, none⟩ = some u → w2.cell? ⟨w.heap.size, k, none⟩ = some u := fun k u h => cell_same h (hgr.block _ (World.block_lt_of_cell? _ _ h) (fun e => cell_notMap h hh (by simpa using e)))
  have y0 := hb2 0 _ x0
  have y1 := hb2 1 _ x1
  have hg2 : w2.cell? ⟨g, 0, none⟩ = some (.map (some b)) := cell_same hg1 (hgr.block _ (World.block_lt_of_cell? _ _ hg1) (fun e => cell_notMap hg1 hh (by simpa using e)))
  have hl2 := hm2.look Try.underlying100 hx
  unfold putF at hl2
  rw [if_pos rfl] at hl2
  have hl2 : (Instr.lookup 100 (.map (some b)) (.int .i64 xi) false).run Try.prog w2 = .ok (.int .i64 v1) w2 := hl2
  have hvb : 0 ≤ v ∧ v ≤ 1 := by rcases hv01 with ⟨h, _⟩ | ⟨h, _⟩ <;> omega
  have hw1 : wrap64 (v + 1) = v1 := by rw [IntWalk.wrap64_in _ (by omega)]; exact hv1
  have hgt : decide (1 < v1) = (f xi).isSome := by subst hv1; rcases hv01 with ⟨rfl, h⟩ | ⟨rfl, h⟩ <;> rw [h] <;> rfl
  have H2 := Lib.hid hm2
  have HG := Lib.hid (show w.grownBy w2 (some b) from (World.grownBy_alloc w _ _).trans hgr)
  have HV := Lib.hid hv
  obtain ⟨o1, ho1⟩ : ∃ o, (f xi).isSome = o := ⟨_, rfl⟩
  rw [ho1] at hgt
  have HO := Lib.hid ho1
  have HV1 := Lib.hid hv1
  clear hm hm1 hm2 hf hgr hh hb2 hv x2 hwv hg hA hv01 hv1 ho1 hvb
  go_enter Try.func45, Try.ntmps45
  go_wp2_with (go_at_call 46; refine (cisCapped_any _ _).mono ?_; rintro e w' ⟨rfl, rfl⟩)
  all_goals
    go_ret
    refine ⟨ret_bool ?_, ⟨_, by rw [HV.out, HV1.out]; exact H2.out⟩, HG.out⟩
    unfold oddCy fineCy
    rw [HO.out]
    first
      | (simp_all; done)
      | (simp_all; omega)
      | (rw [decide_eq_true (by omega : 0 ≤ xi), decide_eq_true (by omega : xi ≤ 4294967295)]; simp_all)
theorem any_snoc (l : List Cy) (k : Nat) (i : Int) (hk : k < l.length) : (l.take (k + 1)).any (fun y => y.i == i) = ((l.take k).any (fun y => y.i == i) || (l.getD k Cy.zero).i == i) := by
  rw [List.take_add_one, List.any_append]
  simp [List.getD, hk]
theorem seenC_step (l : List Cy) (k : Nat) (hk : k < l.length) (hno : (seenC (l.take k) (l.getD k Cy.zero).i).isSome = false) : putF (seenC (l.take k)) (l.getD k Cy.zero).i ((seenC (l.take k) (l.getD k Cy.zero).i).getD 0 + 1) = seenC (l.take (k + 1)) := by
  funext i
  unfold putF
  have h0 : seenC (l.take k) (l.getD k Cy.zero).i = none := by simpa using hno
  rw [h0]
  unfold seenC
  rw [any_snoc l k i hk]
  by_cases e : i = (l.getD k Cy.zero).i
  · subst e
    simp
  · rw [if_neg e]
    have : ((l.getD k Cy.zero).i == i) = false := by simpa using fun h => e h.symm
    rw [this, Bool.or_false]
/-- All of them may be, beside each other. -/
def distC : List Cy → List Cy → Bool
  | _, [] => true
  | acc, x :: t => !oddCy (seenC acc) x && distC (acc ++ [x]) t
theorem distC_step (l : List Cy) (k : Nat) (hk : k < l.length) : distC (l.take k) (l.drop k) = (!oddCy (seenC (l.take k)) (l.getD k Cy.zero) && distC (l.take (k + 1)) (l.drop (k + 1))) := by
  rw [List.drop_eq_getElem_cons hk, distC, show l.getD k Cy.zero = l[k] by simp [List.getD, hk], show l.take k ++ [l[k]] = l.take (k + 1) by rw [List.take_add_one]; simp [hk]]
def okCys (l : List Cy) : Bool := distC [] l
def IdxC (b : Bool) (e : Ending) : Prop := ∃ i : Int, e = .returned (.int .i64 i) ∧ decide (0 ≤ i) = b
set_option maxHeartbeats 4000000 in
theorem cindex_any (g b : Nat) (p : Option Addr) (l : List Cy) (n c : Nat) (w : World) (hl : CysAt w p l) (hn : l.length = n) (hm : n ≤ 256) (hk0 : MapI w b 0 0 (fun _ => none)) (hg : w.cell? ⟨g, 0, none⟩ = some (.map (some b))) :
    Calls Try.prog 65 #[.slice p n c, .func (.func 45) #[] #[.pointer (some ⟨g, 0, none⟩)]] w fun e w' => IdxC (!okCys l) e ∧ w.grownBy w' (some b) := by
  have HL := Lib.hid hl
  have HN := Lib.hid hn
  have HG := Lib.hid hg
  obtain ⟨es, cl, hh⟩ := hk0.heap
  have HH := Lib.hid hh
  have HK := Lib.hid hk0
  clear hl hn hg hk0 hh
  go_enter Try.func65, Try.ntmps65
  go_wp2
  go_loopw [8] (fun i wr => ∃ k : Nat, k ≤ n ∧ i = .int .i64 k ∧ okCys l = distC (l.take k) (l.drop k) ∧ (∃ nn s, nn ≤ k ∧ MapI wr b nn s (seenC (l.take k))) ∧ w.grownBy wr (some b)) (fun i _ => n - (intOf i).toNat)
  case atStart => exact ⟨0, Nat.zero_le _, rfl, rfl, ⟨0, 0, Nat.le_refl _, HK.out⟩, World.grownBy.refl _ _⟩
  case round =>
    obtain ⟨k, hk, rfl, hd, ⟨nn, s, hnn, hmk⟩, hgr⟩ := hrel
    have HD := Lib.hid hd
    have HGR := Lib.hid hgr
    have HMK := Lib.hid hmk
    have HLW := Lib.hid (HL.out.turn HH.out hgr)
    have hgw : wr.cell? ⟨g, 0, none⟩ = some (.map (some b)) := cell_same HG.out (hgr.block _ (World.block_lt_of_cell? _ _ HG.out) (fun e => cell_notMap HG.out HH.out (by simpa using e)))
    have HGW := Lib.hid hgw
    clear hd hgr hmk hgw
    by_cases hlt : k < n
    · have hlt' : (k : Int) < (n : Int) := by omega
      have hin := HLW.out.in_ HN.out hlt
      obtain ⟨b', off, rfl, c0, c1, c2⟩ := cy_cell HLW.out HN.out hlt
      have hkl : k < l.length := by rw [HN.out]; exact hlt
      have HST := Lib.hid (distC_step l k hkl)
      have HSN := Lib.hid (seenC_step l k hkl)
      obtain ⟨x, hx⟩ : ∃ x, l.getD k Cy.zero = x := ⟨_, rfl⟩
      rw [hx] at c0 c1 c2 HST HSN hin
      have HC := Lib.hid (codd_any wr g b nn s _ x hin HMK.out HGW.out (by omega) (fun v hv => by unfold seenC at hv; split at hv <;> simp at hv; exact hv.symm))
      obtain ⟨o, ho⟩ : ∃ o, oddCy (seenC (l.take k)) x = o := ⟨_, rfl⟩
      rw [ho] at HC HST
      have HO := Lib.hid ho
      obtain ⟨xi, xc, xd⟩ := x
      dsimp only at c0 c1 c2
      clear hx ho hin
      rcases o with _ | _
      · go_wp2_with (go_at_call 45; refine HC.out.mono ?_; rintro e w2 ⟨rfl, ⟨s', hm2⟩, hg2⟩)
        go_roundw
        case rel =>
          have hno : (seenC (l.take k) xi).isSome = false := by
            have := HO.out
            unfold oddCy at this
            rw [Bool.or_eq_false_iff] at this
            exact this.1
          refine ⟨k + 1, by omega, by go_num, HD.out.trans HST.out, ⟨nn + 1, s', by omega, ?_⟩, HGR.out.trans hg2⟩
          rw [← HSN.out hno]
          exact hm2
        case measure => simp [intOf]; omega
      · go_wp2_with (go_at_call 45; refine HC.out.mono ?_; rintro e w2 ⟨rfl, ⟨s', hm2⟩, hg2⟩)
        go_ret
        exact ⟨⟨k, rfl, by rw [HD.out, HST.out]; simp⟩, HGR.out.trans hg2⟩
    · obtain rfl : k = n := by omega
      go_wp2
      go_ret
      refine ⟨⟨-1, rfl, ?_⟩, HGR.out⟩
      have := HD.out
      rw [List.drop_eq_nil_of_le (by rw [HN.out]; exact Nat.le_refl _)] at this
      rw [this]; rfl
theorem ccontains_any (g b : Nat) (p : Option Addr) (l : List Cy) (n c : Nat) (w : World) (hl : CysAt w p l) (hn : l.length = n) (hm : n ≤ 256) (hk0 : MapI w b 0 0 (fun _ => none)) (hg : w.cell? ⟨g, 0, none⟩ = some (.map (some b))) :
    Calls Try.prog 48 #[.slice p n c, .func (.func 45) #[] #[.pointer (some ⟨g, 0, none⟩)]] w fun e w' => e = .returned (.bool (!okCys l)) ∧ w.grownBy w' (some b) := by
  have HI := Lib.hid (cindex_any g b p l n c w hl hn hm hk0 hg)
  clear hl hn hk0 hm hg
  go_enter Try.func48, Try.ntmps48
  go_wp2_with fail
  refine HI.out.mono ?_; rintro e w1 ⟨⟨i, rfl, hi'⟩, hb⟩
  have HD := Lib.hid hi'
  have HB := Lib.hid hb
  clear hi' hb
  go_wp2_with fail
  go_ret
  exact ⟨ret_bool HD.out, HB.out⟩
end Go.Proofs.Ytlkpalaakncicaa
namespace Go.Proofs.Ytlkpalaakncicaa
open Go.RowKit Go.Maps
set_option linter.unusedVariables false
set_option linter.unusedSimpArgs false
set_option maxRecDepth 100000

def okCar (src seq : Int) (l : List Cy) : Bool := isR src && (isCap seq && (decide (l.length ≤ 256) && okCys l))
set_option maxHeartbeats 4000000 in
theorem ccheck_any (src seq : Int) (p : Option Addr) (l : List Cy) (n c : Nat) (w : World) (hl : CysAt w p l) (hn : l.length = n) (hm : n ≤ maxLen) :
    Calls Try.prog 22 #[.agg #[.int .i64 src, .int .i64 seq, .slice p n c]] w fun e w' => e = .returned (.int .i64 (if okCar src seq l then 0 else 1)) ∧ Below w.heap.size w w' := by
  have HL := Lib.hid hl
  have HN := Lib.hid hn
  unfold maxLen at hm
  have hmm := @run_makeMap Try.prog
  obtain ⟨r, hr⟩ : ∃ r : Int, (if okCar src seq l then 0 else 1) = r := ⟨_, rfl⟩
  rw [hr]
  have HRR := Lib.hid hr
  clear hr
  obtain ⟨V, hV⟩ : ∃ V, ((w.alloc (.cells #[.int .i64 src, .int .i64 seq, .slice p n c] 53)).alloc (.map #[] 0)).alloc (.cells #[.map (some (w.heap.size + 1))] 100) = V := ⟨_, rfl⟩
  have hb1 := newB w (.cells #[.int .i64 src, .int .i64 seq, .slice p n c] 53)
  have hb2 := newB (w.alloc (.cells #[.int .i64 src, .int .i64 seq, .slice p n c] 53)) (.map #[] 0)
  have hb3 := newB ((w.alloc (.cells #[.int .i64 src, .int .i64 seq, .slice p n c] 53)).alloc (.map #[] 0)) (.cells #[.map (some (w.heap.size + 1))] 100)
  have hB : Below w.heap.size w V := by rw [← hV]; exact (hb1.trans (hb2.mono hb1.size)).trans (hb3.mono (Nat.le_trans hb1.size hb2.size))
  have hX : Blk V w.heap.size 53 [.int .i64 src, .int .i64 seq, .slice p n c] := by rw [← hV]; exact ((Blk.new w _ _).next hb2).next hb3
  have hM : MapI V (w.heap.size + 1) 0 0 (fun _ => none) := by
    rw [← hV]
    have h1 := MapAt.fresh keyIntC elIntC (w.alloc (.cells #[.int .i64 src, .int .i64 seq, .slice p n c] 53))
    rw [sz_alloc] at h1
    exact h1.next hb3
  have hC : V.cell? ⟨w.heap.size + 1 + 1, 0, none⟩ = some (.map (some (w.heap.size + 1))) := by
    rw [← hV]
    have h1 := (Blk.new ((w.alloc (.cells #[.int .i64 src, .int .i64 seq, .slice p n c] 53)).alloc (.map #[] 0)) 100 [.map (some (w.heap.size + 1))]).cell 0 (by simp)
    rw [sz_alloc, sz_alloc] at h1
    exact h1
  have HCF := Lib.hid (fun h256 : n ≤ 256 => ccontains_any (w.heap.size + 1 + 1) (w.heap.size + 1) p l n c V (HL.out.below hB) HN.out h256 hM hC)
  have x0 := hX.cell 0 (by simp)
  have x1 := hX.cell 1 (by simp)
  have x2 := hX.cell 2 (by simp)
  simp only [List.getD_cons_zero, List.getD_cons_succ] at x0 x1 x2
  rw [← hV] at x0 x1 x2
  have HVE := Lib.hid hV
  have HB := Lib.hid hB
  have HOK := Lib.hid (show okCar src seq l = (isR src && (isCap seq && (decide (n ≤ 256) && okCys l))) by unfold okCar; rw [hn])
  obtain ⟨s1, hs1⟩ : ∃ s, isR src = s := ⟨_, rfl⟩
  obtain ⟨s2, hs2⟩ : ∃ s, isCap seq = s := ⟨_, rfl⟩
  obtain ⟨s4, hs4⟩ : ∃ s, okCys l = s := ⟨_, rfl⟩
  rw [hs1, hs2, hs4] at HOK
  rw [hs4] at HCF
  have HR := Lib.hid (fun u => cisSource_any src u)
  have HP := Lib.hid (fun u => cisCapped_any seq u)
  rw [hs1] at HR
  rw [hs2] at HP
  clear hl hn hb1 hb2 hb3 hX hM hC hV hB hs1 hs2 hs4
  by_cases h256 : n ≤ 256
  · have t0 : decide ((256 : Int) < (n : Int)) = false := decide_eq_false (by omega)
    have hcf := HCF.out h256
    rw [decide_eq_true h256] at HOK
    have HD := Lib.hid hcf
    clear hcf HCF h256
    rcases s1 with _ | _ <;> rcases s2 with _ | _ <;> rcases s4 with _ | _
    all_goals
      go_enter Try.func22, Try.ntmps22
      go_wp2_with (first
        | (go_at_call 47; refine (HR.out _).mono ?_; rintro e w' ⟨rfl, rfl⟩)
        | (go_at_call 46; refine (HP.out _).mono ?_; rintro e w' ⟨rfl, rfl⟩)
        | (go_at_call 48; rw [HVE.out]; refine HD.out.mono ?_; rintro e w' ⟨rfl, hg⟩))
      first
        | (rw [HVE.out]; go_ret; exact ⟨by rw [← HRR.out, HOK.out]; rfl, HB.out⟩)
        | (go_ret; exact ⟨by rw [← HRR.out, HOK.out]; rfl, HB.out.grown hg HB.out.size (fun k e => by cases e; omega)⟩)
  · have t0 : decide ((256 : Int) < (n : Int)) = true := decide_eq_true (by omega)
    rw [decide_eq_false h256] at HOK
    clear HCF h256
    rcases s1 with _ | _ <;> rcases s2 with _ | _
    all_goals
      go_enter Try.func22, Try.ntmps22
      go_wp2_with (first
        | (go_at_call 47; refine (HR.out _).mono ?_; rintro e w' ⟨rfl, rfl⟩)
        | (go_at_call 46; refine (HP.out _).mono ?_; rintro e w' ⟨rfl, rfl⟩))
      rw [HVE.out]
      go_ret
      exact ⟨by rw [← HRR.out, HOK.out]; rfl, HB.out⟩
end Go.Proofs.Ytlkpalaakncicaa
namespace Go.Proofs.Ytlkpalaakncicaa
open Go.RowKit Go.Maps
set_option linter.unusedVariables false
set_option linter.unusedSimpArgs false
set_option maxRecDepth 100000

def apartC (acc : List Cy) (x : Cy) : Bool := !(acc.any fun y => y.i == x.i)
theorem apartC_step (l : List Cy) (k : Nat) (x : Cy) (hk : k < l.length) : apartC (l.drop k) x = (!((l.getD k Cy.zero).i == x.i) && apartC (l.drop (k + 1)) x) := by
  unfold apartC
  rw [List.drop_eq_getElem_cons hk, List.any_cons, show l.getD k Cy.zero = l[k] by simp [List.getD, hk]]
  simp
theorem oddCy_seen (acc : List Cy) (x : Cy) : (!oddCy (seenC acc) x) = (fineCy x && apartC acc x) := by
  unfold oddCy seenC apartC
  split
  · rename_i h; rw [h]; simp
  · rename_i h; rw [Bool.not_eq_true] at h; rw [h]; simp
set_option maxHeartbeats 8000000 in
theorem rccheck_any (src seq : Int) (p : Option Addr) (l : List Cy) (n c : Nat) (w : World) (hl : CysAt w p l) (hn : l.length = n) (hm : n ≤ maxLen) :
    Calls Try.prog 23 #[.agg #[.int .i64 src, .int .i64 seq, .slice p n c]] w fun e w' => e = .returned (.bool (okCar src seq l)) ∧ Below w.heap.size w w' := by
  unfold maxLen at hm
  have HL := Lib.hid hl
  have HN := Lib.hid hn
  have HOK := Lib.hid (show okCar src seq l = (isR src && (isCap seq && (decide (n ≤ 256) && okCys l))) by unfold okCar; rw [hn])
  have HNO := Lib.hid (fun (h : ¬ (0 ≤ src ∧ src ≤ 15 ∧ 0 ≤ seq ∧ seq ≤ 9007199254740991 ∧ n ≤ 256)) => show okCar src seq l = false from by
    rw [Bool.eq_false_iff]
    intro hk
    rw [HOK.out] at hk
    simp only [Bool.and_eq_true, decide_eq_true_eq, isCap_iff, isR] at hk
    omega)
  have HYES := Lib.hid (fun (h : 0 ≤ src ∧ src ≤ 15 ∧ 0 ≤ seq ∧ seq ≤ 9007199254740991 ∧ n ≤ 256) => show okCar src seq l = okCys l from by
    rw [HOK.out]
    have h1 : isR src = true := by unfold isR; simp only [Bool.and_eq_true, decide_eq_true_eq]; omega
    have h2 : isCap seq = true := (isCap_iff _).2 ⟨h.2.2.1, h.2.2.2.1⟩
    rw [h1, h2, decide_eq_true h.2.2.2.2]; rfl)
  have hb1 := newB w (.cells #[.int .i64 src, .int .i64 seq, .slice p n c] 53)
  have hX := Blk.new w 53 [.int .i64 src, .int .i64 seq, .slice p n c]
  obtain ⟨V, hV⟩ : ∃ V, w.alloc (.cells #[.int .i64 src, .int .i64 seq, .slice p n c] 53) = V := ⟨_, rfl⟩
  obtain ⟨P, hP⟩ : ∃ P, w.heap.size = P := ⟨_, rfl⟩
  rw [hV] at hb1 hX
  rw [hP] at hX
  have HX := Lib.hid hX
  have HB1 := Lib.hid hb1
  have HVE := Lib.hid hV
  have HPE := Lib.hid hP
  have x0 := hX.cell 0 (by simp)
  have x1 := hX.cell 1 (by simp)
  have x2 := hX.cell 2 (by simp)
  simp only [List.getD_cons_zero, List.getD_cons_succ] at x0 x1 x2
  rw [← hV, ← hP] at x0 x1 x2
  clear hl hn hb1 hX hV hP
  go_enter Try.func23, Try.ntmps23
  go_wp2_with fail
  all_goals try (rw [HVE.out]; go_ret; exact ⟨ret_bool (HNO.out (by omega)).symm, HB1.out⟩)
  have HY := Lib.hid (HYES.out (by omega))
  have h256 : n ≤ 256 := by omega
  rw [HVE.out, HPE.out]
  clear x0 x1 x2 HOK HNO HYES
  go_loopw [3] (fun i wr => ∃ k : Nat, k ≤ n ∧ i = .int .i64 k ∧ okCys l = distC (l.take k) (l.drop k) ∧ Below V.heap.size V wr) (fun i _ => n - (intOf i).toNat)
  case atStart => exact ⟨0, Nat.zero_le _, rfl, rfl, Below.refl _ _⟩
  case round =>
    obtain ⟨k, hk, rfl, hokf, hB⟩ := hrel
    have HB := Lib.hid hB
    have hXk := HX.out.next hB
    have HXK := Lib.hid hXk
    have z2 := hXk.cell 2 (by simp)
    simp only [List.getD_cons_zero, List.getD_cons_succ] at z2
    have HBW := Lib.hid (HB1.out.trans (hB.mono HB1.out.size))
    by_cases hlt : k < n
    · have hLV := HL.out.below HBW.out
      obtain ⟨b, off, rfl, c0, c1, c2⟩ := cy_cell hLV HN.out hlt
      have hkl : k < l.length := by rw [HN.out]; exact hlt
      have hst := distC_step l k hkl
      obtain ⟨x, hx⟩ : ∃ x, l.getD k Cy.zero = x := ⟨_, rfl⟩
      rw [hx] at c0 c1 c2 hst
      rw [oddCy_seen] at hst
      obtain ⟨xi, xc, xd⟩ := x
      simp only at c0 c1 c2
      have HST := Lib.hid (hokf.trans hst)
      have hltI : (k : Int) < (n : Int) := by omega
      have hbx := newB wr (.cells #[.int .i64 xi, .int .i64 xc, .bool xd] 67)
      have HXB := Lib.hid (Blk.new wr 67 [.int .i64 xi, .int .i64 xc, .bool xd])
      have HBX := Lib.hid (hB.trans (hbx.mono hB.size))
      have HXK2 := Lib.hid (hXk.next hbx)
      have HTL := Lib.hid (show (l.take k).length = k by rw [List.length_take]; omega)
      have HNO := Lib.hid (fun (h : ¬(0 ≤ xi ∧ xi ≤ 4294967295 ∧ 0 ≤ xc ∧ xc ≤ 9007199254740991)) => show okCys l = false from by
        rw [HST.out, show fineCy ⟨xi, xc, xd⟩ = false from by
          rw [Bool.eq_false_iff]
          intro hf
          unfold fineCy at hf
          simp only [Bool.and_eq_true, decide_eq_true_eq, isCap_iff] at hf
          exact h hf]
        rfl)
      have HAP := Lib.hid (fun (h : apartC (l.take k) ⟨xi, xc, xd⟩ = false) => show okCys l = false from by
        rw [HST.out, h]; simp)
      have HGO := Lib.hid (fun (h : 0 ≤ xi ∧ xi ≤ 4294967295 ∧ 0 ≤ xc ∧ xc ≤ 9007199254740991) (ha : apartC (l.take k) ⟨xi, xc, xd⟩ = true) => show okCys l = distC (l.take (k + 1)) (l.drop (k + 1)) from by
        rw [HST.out, ha, show fineCy ⟨xi, xc, xd⟩ = true from by
          unfold fineCy
          simp only [Bool.and_eq_true, decide_eq_true_eq, isCap_iff]
          exact h]
        rfl)
      clear hokf hst hB hx hkl hbx hXk hLV
      go_wp2_with fail
      all_goals try (go_ret; exact ⟨ret_bool (by rw [HY.out]; exact (HNO.out (by omega)).symm), HB1.out.trans (HBX.out.mono HB1.out.size)⟩)
      have HGO2 := Lib.hid (HGO.out (by omega))
      obtain ⟨Q, hQ⟩ : ∃ Q, wr.heap.size = Q := ⟨_, rfl⟩
      obtain ⟨U, hU⟩ : ∃ U, wr.alloc (.cells #[.int .i64 xi, .int .i64 xc, .bool xd] 67) = U := ⟨_, rfl⟩
      rw [hU, hQ] at HXB
      rw [hU] at HBX HXK2
      rw [hU, hQ]
      clear c0 c1 c2 z2 HGO HNO HXK hU hQ
      go_loopw [5] (fun v wr => ∃ j : Nat, j ≤ k ∧ v = .int .i64 j ∧ apartC (l.take k) ⟨xi, xc, xd⟩ = apartC ((l.take k).drop j) ⟨xi, xc, xd⟩ ∧ Below U.heap.size U wr) (fun v _ => k - (intOf v).toNat)
      case atStart => exact ⟨0, Nat.zero_le _, rfl, rfl, Below.refl _ _⟩
      case round =>
        obtain ⟨j, hj, rfl, hap, hB⟩ := hrel
        have HB2 := Lib.hid (HBX.out.trans (hB.mono HBX.out.size))
        by_cases hjk : j < k
        · have hjn : j < n := by omega
          obtain ⟨b', off', hbo, c0, c1, c2⟩ := cy_cell (HL.out.below (HB1.out.trans (HB2.out.mono HB1.out.size))) HN.out hjn
          simp only [Option.some.injEq, Addr.mk.injEq, and_true] at hbo
          obtain ⟨rfl, rfl⟩ := hbo
          have hs := apartC_step (l.take k) j ⟨xi, xc, xd⟩ (by rw [HTL.out]; exact hjk)
          rw [show (l.take k).getD j Cy.zero = l.getD j Cy.zero by simp [List.getD, List.getElem?_take_of_lt hjk]] at hs
          obtain ⟨y, hy⟩ : ∃ y, l.getD j Cy.zero = y := ⟨_, rfl⟩
          rw [hy] at c0 c1 c2 hs
          obtain ⟨yi, yc, yd⟩ := y
          simp only at c0 c1 c2
          have HS := Lib.hid (hap.trans hs)
          obtain ⟨x0, x1, x2⟩ := cy_boxes (HXB.out.next hB)
          have z2 := (HXK2.out.next hB).cell 2 (by simp)
          simp only [List.getD_cons_zero, List.getD_cons_succ] at z2
          have hjI : (j : Int) < (k : Int) := by omega
          clear hy hs hap
          by_cases e1 : yi = xi
          · have HF := Lib.hid (HAP.out (by rw [HS.out, show (yi == xi) = true by simpa using e1]; rfl))
            have t1 : decide (yi = xi) = true := decide_eq_true e1
            have t1b : (yi == xi) = true := by simpa using e1
            clear e1
            go_wp2_with fail
            go_quiet (fail)
            go_wp2_with fail
            go_ret
            exact ⟨ret_bool (by rw [HY.out]; exact HF.out.symm), HB1.out.trans ((HB2.out.trans (below_dN _ _ _)).mono HB1.out.size)⟩
          · have t1 : decide (yi = xi) = false := decide_eq_false e1
            have t1b : (yi == xi) = false := by simpa using e1
            have HF := Lib.hid (show apartC (l.take k) ⟨xi, xc, xd⟩ = apartC ((l.take k).drop (j + 1)) ⟨xi, xc, xd⟩ by rw [HS.out, t1b]; rfl)
            clear e1
            go_wp2_with fail
            go_quiet (fail)
            go_wp2_with fail
            go_roundw
            case rel => exact ⟨j + 1, by omega, by go_num, HF.out, hB.trans (below_dN _ _ _)⟩
            case measure => simp [intOf]; omega
        · obtain rfl : j = k := by omega
          have HA := Lib.hid (HGO2.out (by rw [hap, List.drop_eq_nil_of_le (by rw [HTL.out]; omega)]; rfl))
          clear hap hB
          go_wp2_with fail
          go_roundw
          case rel => exact ⟨j + 1, by omega, by go_num, HA.out, HB2.out⟩
          case measure => simp [intOf]; omega
    · obtain rfl : k = n := by omega
      have HF := Lib.hid (show okCys l = true by rw [hokf, List.drop_eq_nil_of_le (by rw [HN.out]; omega)]; rfl)
      clear hokf
      go_wp2
      go_ret
      exact ⟨ret_bool (by rw [HY.out, HF.out]), HBW.out⟩
end Go.Proofs.Ytlkpalaakncicaa
