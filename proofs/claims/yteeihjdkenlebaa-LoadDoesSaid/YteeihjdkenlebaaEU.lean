/- load: LoadDoes' walk. -/
import Derived.Test.YteeihjdkenlebaaET
import Derived.Deep.RegionHeldLaw
namespace Go.Proofs.Yteeihjdkenlebaa
open Go.ChangeShapes Go.WideShapes Go.ChangeAt Go.RowKit Go.Maps Go.Joins Go.Deep
set_option linter.unusedVariables false
set_option linter.unusedSimpArgs false
set_option maxRecDepth 100000

structure O3 where
  intro ::
  k : Int
  i : Int
  n : Int
def O3.zero : O3 := ⟨0, 0, 0⟩
def opC (x : O3) : List Value := [.int .i64 x.k, .int .i64 x.i, .int .i64 x.n]
def InO3 (x : O3) : Prop := (Lit.int .i64 x.k).wf = true ∧ (Lit.int .i64 x.i).wf = true ∧ (Lit.int .i64 x.n).wf = true
theorem rowO3 : RowC 22 31 opC InO3 O3.zero (.agg #[.int .i64 0, .int .i64 0, .int .i64 0]) 3 24 where
  len x := rfl
  pos := by omega
  zs := rfl
  byl := by omega
  info := by kernel_rfl
  under := Try.underlying22
  elem := by kernel_rfl
  size w := by kernel_rfl
  one x u hu := by
    simp [opC] at hu
    rcases hu with rfl | rfl | rfl <;> rfl
abbrev OpsAt (w : World) (p : Option Addr) (l : List O3) : Prop := LAt opC InO3 O3.zero 3 w p l
theorem op3_cell {w : World} {p : Option Addr} {l : List O3} {n k : Nat} (h : OpsAt w p l) (hn : l.length = n) (hk : k < n) : ∃ b off, p = some ⟨b, off, none⟩ ∧ w.cell? ⟨b, off + k * 3, none⟩ = some (.int .i64 (l.getD k O3.zero).k) ∧ w.cell? ⟨b, off + k * 3 + 1, none⟩ = some (.int .i64 (l.getD k O3.zero).i) ∧ w.cell? ⟨b, off + k * 3 + 2, none⟩ = some (.int .i64 (l.getD k O3.zero).n) := by
  obtain ⟨b, off, rfl, hc⟩ := h.cell hn hk
  exact ⟨b, off, rfl, hc 0 _ rfl, hc 1 _ rfl, hc 2 _ rfl⟩
/-- A field of a struct that is read. -/
theorem fieldU {H : Type} {enc : TypeId × Value → H} {w : World} {base : Nat} {spare : Nat → Bool} {held : Bool} {fuel : Nat} {t : TypeId} {cs : List Value} {x : DataW H × List MemPlace} {FL : List (TypeId × Nat)}
    (hu : Try.prog.underlying t = some (.struct (Try.prog.fieldsOf t))) (hf : (Try.prog.fieldsOf t).toList.map (fun f => (f.type, f.offset)) = FL) (h : DataW.trod enc Try.prog w base spare held fuel t cs = some x) {j : Nat} {ty : TypeId} {off : Nat} (hj : FL[j]? = some (ty, off)) :
    ∃ n y, DataW.trod enc Try.prog w base spare held n ty ((cs.drop off).take (Try.prog.cellsOf ty)) = some y := by
  obtain ⟨xs, n, _, rfl, _, hlen, hx⟩ := DataW.trod_struct hu h
  rw [← hf, List.getElem?_map] at hj
  obtain ⟨f, hfj, he⟩ := Option.map_eq_some_iff.1 hj
  simp only [Prod.mk.injEq] at he
  obtain ⟨rfl, rfl⟩ := he
  rw [Array.getElem?_toList] at hfj
  have h1 := hx j f hfj
  have hjl : j < xs.length := by
    rw [hlen]
    obtain ⟨h, _⟩ := Array.getElem?_eq_some_iff.1 hfj
    exact h
  rw [List.getElem?_eq_getElem hjl] at h1
  exact ⟨n, _, h1⟩
theorem u_op3 : Try.prog.underlying 31 = some (.struct (Try.prog.fieldsOf 31)) := by kernel_rfl
theorem f_op3 : (Try.prog.fieldsOf 31).toList.map (fun f => (f.type, f.offset)) = [(3, 0), (3, 1), (3, 2)] := by kernel_rfl
theorem op3_cells : Try.prog.cellsOf 31 = 3 := by kernel_rfl
theorem rd_op3 {H : Type} {enc : TypeId × Value → H} {w : World} {base : Nat} {spare : Nat → Bool} {held : Bool} {fuel : Nat} {cs : List Value} {x : DataW H × List MemPlace} (hl : cs.length = 3)
    (h : DataW.trod enc Try.prog w base spare held fuel 31 cs = some x) : ∃ m : O3, InO3 m ∧ cs = opC m := by
  obtain ⟨c0, c1, c2, rfl⟩ : ∃ c0 c1 c2, cs = [c0, c1, c2] := by
    match cs, hl with
    | [c0, c1, c2], _ => exact ⟨c0, c1, c2, rfl⟩
  obtain ⟨_, _, g0⟩ := fieldU u_op3 f_op3 h (j := 0) rfl
  obtain ⟨_, _, g1⟩ := fieldU u_op3 f_op3 h (j := 1) rfl
  obtain ⟨_, _, g2⟩ := fieldU u_op3 f_op3 h (j := 2) rfl
  rw [inta_cells] at g0 g1 g2
  simp only [List.drop_zero, List.drop_succ_cons, List.take_succ_cons, List.take_zero] at g0 g1 g2
  obtain ⟨a, e0, _, w0⟩ := DataW.trod_int Try.underlying3 g0
  obtain ⟨b, e1, _, w1⟩ := DataW.trod_int Try.underlying3 g1
  obtain ⟨c, e2, _, w2⟩ := DataW.trod_int Try.underlying3 g2
  simp only [List.cons.injEq, and_true] at e0 e1 e2
  exact ⟨⟨a, b, c⟩, ⟨w0, w1, w2⟩, by rw [e0, e1, e2]; rfl⟩
structure OpsArg (w : World) (x : Option Addr × List O3 × Nat) : Prop where
  at_ : OpsAt w x.1 x.2.1
  le : x.2.1.length ≤ x.2.2
  max : x.2.2 ≤ maxLen
theorem open_op3s {H : Type} {enc : TypeId × Value → H} {w : World} {base b0 : Nat} {spare : Nat → Bool} {held : Bool} {r : Reach} {v : Value} {d : DataW H} {p : List MemPlace} (hv : Value.okWide Try.prog w r b0 22 v) (h : DataW.Trod enc Try.prog w base spare held 22 v d p) :
    ∃ x : Option Addr × List O3 × Nat, v = .slice x.1 x.2.1.length x.2.2 ∧ OpsArg w x := by
  obtain ⟨a0, len0, cap0, rfl⟩ := okWide_slice Try.underlying22 hv
  obtain ⟨fuel, hf⟩ := h
  obtain ⟨x, e, h1, _, h3, h4⟩ := open_listL rowO3 op3_cells (okA := InO3) (fun _ h => h) (fun fuel cs y hl h => rd_op3 hl h) (show DataW.trod enc Try.prog w base spare held fuel 22 [.slice a0 len0 cap0] = some (d, p) from hf)
  exact ⟨x, e, h1, h3, h4⟩
/-- As long as they are not over, no number is at the cap. -/
def NoMax (f : Int → Option Int) (ov : Bool) : Prop := ov = false → ∀ i v, f i = some v → v ≠ 9007199254740991
def WfK (f : Int → Option Int) : Prop := ∀ i v, f i = some v → (Lit.int .i64 i).wf = true
theorem setL_some {f : Int → Option Int} {i v j u : Int} (h : setL f i v j = some u) : (j = i ∧ u = v) ∨ f j = some u := by
  unfold setL at h
  split at h
  · unfold delF at h
    split at h
    · cases h
    · exact .inr h
  · unfold putF at h
    split at h
    · rename_i e; simp only [Option.some.injEq] at h; exact .inl ⟨e, h.symm⟩
    · exact .inr h
theorem chF_some {h : Int → Int → Int} {f : Int → Option Int} {i n j u : Int} (e : chF h f i n j = some u) : (0 ≤ i ∧ j = i ∧ u = h ((f i).getD 0) n) ∨ f j = some u := by
  unfold chF at e
  split at e
  · rename_i h0
    rcases setL_some e with ⟨a, b⟩ | a
    · exact .inl ⟨h0, a, b⟩
    · exact .inr a
  · exact .inr e
theorem WfK.ch {f : Int → Option Int} (hf : WfK f) (h : Int → Int → Int) {i : Int} (hi : (Lit.int .i64 i).wf = true) (n : Int) : WfK (chF h f i n) := fun j v e => by
  rcases chF_some e with ⟨_, rfl, _⟩ | a
  · exact hi
  · exact hf j v a
theorem NoMax.add {f : Int → Option Int} {ov : Bool} (hf : NoMax f ov) (i n : Int) : NoMax (chF add f i n) (chO add f ov i n) := fun ho j v e => by
  unfold chO at ho
  simp only [Bool.or_eq_false_iff, Bool.and_eq_false_iff, decide_eq_false_iff_not, beq_eq_false_iff_ne] at ho
  rcases chF_some e with ⟨h0, _, rfl⟩ | a
  · rcases ho.2 with h | h
    · exact absurd h0 h
    · exact h
  · exact hf ho.1.1 j v a
theorem sub_lt {f : Int → Option Int} (hO : OkL f) (hf : NoMax f false) (i n : Int) : sub ((f i).getD 0) n ≠ 9007199254740991 := by
  have h0 := near_lo n
  have hb := loadV_bd hO i
  have hv : (f i).getD 0 ≠ 9007199254740991 := by
    rcases hi : f i with _ | v
    · simp
    · exact hf rfl i v hi
  obtain ⟨v, hv'⟩ : ∃ v, (f i).getD 0 = v := ⟨_, rfl⟩
  rw [hv'] at hb hv ⊢
  unfold sub
  rw [near_id hb.1 hb.2]
  unfold near at h0 ⊢
  split <;> split at * <;> (try split) <;> (try split at *) <;> omega
theorem NoMax.sub_over {f : Int → Option Int} {ov : Bool} (hO : OkL f) (hf : NoMax f ov) (i n : Int) : chO sub f ov i n = (ov || (near n == 9007199254740991)) := by
  unfold chO
  rcases ov with _ | _
  · have h := sub_lt hO hf i n
    rw [show (sub ((f i).getD 0) n == 9007199254740991) = false from by simpa using h]
    simp
  · simp
theorem NoMax.sub {f : Int → Option Int} {ov : Bool} (hO : OkL f) (hf : NoMax f ov) (i n : Int) : NoMax (chF sub f i n) (ov || (near n == 9007199254740991)) := fun ho j v e => by
  simp only [Bool.or_eq_false_iff] at ho
  obtain ⟨rfl, ho⟩ := ho
  rcases chF_some e with ⟨h0, _, rfl⟩ | a
  · exact sub_lt hO hf i n
  · exact hf rfl j v a
theorem Blk.beyondL {w : World} {g : Nat} {t : TypeId} {vs : List Value} (h : Blk w g t vs) (j : Nat) (hj : vs.length ≤ j) : w.cell? ⟨g, j, none⟩ = none := by
  obtain ⟨cs, hh, hs, _⟩ := h
  have : cs[j]? = none := Array.getElem?_eq_none (by omega)
  simp [World.cell?, hh, this]
/-- The document's loads beside the program's: what turns there does not turn here. -/
theorem RlAt.apart {w w' : World} {X : Nat} {q : Option Addr} {L : List Lo} {n cap : Nat} {ov : Bool} (h : RlAt w X q L n cap ov) {g b n1 s1 : Nat} {f : Int → Option Int} {ov1 : Bool} (hl : LdAt w g b n1 s1 f ov1) (hT : Turns (fun k => k = g ∨ k = b) w w') (hX : X ≠ g) (hXb : X ≠ b) : RlAt w' X q L n cap ov := by
  refine ⟨h.blk.of_same (hT.block X h.blk.lt (fun e => e.elim hX hXb)), ?_, h.len, h.ne⟩
  rcases L with _ | ⟨x, t⟩
  · exact LAt.nil _ _ _ _ _ _
  · refine h.at_.turns hT ?_
    intro c off hq
    subst hq
    obtain ⟨c', off', e, d0, d1⟩ := lo_cell (k := 0) h.at_ h.len (by rw [← h.len]; simp)
    simp only [Option.some.injEq, Addr.mk.injEq, and_true] at e
    obtain ⟨rfl, rfl⟩ := e
    rintro (e | e)
    · subst e
      obtain ⟨c0, c1⟩ := hl.at0
      rcases off with _ | _ | off
      · rw [show 0 + 0 * 2 = 0 by omega, c0] at d0; cases d0
      · rw [show 0 + 1 + 0 * 2 = 1 by omega, c1] at d0; cases d0
      · rw [hl.blk.beyondL _ (by simp)] at d0; cases d0
    · subst e
      obtain ⟨es, cc, hm⟩ := hl.map.heap
      exact cell_notMap d0 hm rfl
set_option maxHeartbeats 8000000 in
theorem lddoes_walk (w : World) (p : Option Addr) (l : List O3) (n c : Nat) (hat : OpsAt w p l) (hn : l.length = n) (hm : n ≤ maxLen) (N M : Int) :
    Calls Try.prog 3 #[.slice p n c, .int .i64 N, .int .i64 M] w fun e w' => e = .returned (.bool true) ∧ Below w.heap.size w w' := by
  unfold maxLen at hm
  have HAT := Lib.hid hat
  have HN := Lib.hid hn
  have HLV := Lib.hid lives21_any
  clear hat hn
  go_enter Try.func3, Try.ntmps3
  go_wp2_with fail
  refine (ldnew_any _).mono ?_
  rintro e W0 ⟨g, b, rfl, hl, hB, hg, hb⟩
  have hB0 := newB W0 (.cells #[.slice none 0 0, .bool false] RLf)
  have hX := Blk.new W0 RLf [.slice none 0 0, .bool false]
  obtain ⟨X, hXE⟩ : ∃ X, W0.heap.size = X := ⟨_, rfl⟩
  obtain ⟨U0, hU0⟩ : ∃ U, W0.alloc (.cells #[.slice none 0 0, .bool false] RLf) = U := ⟨_, rfl⟩
  change Blk (W0.alloc (.cells #[.slice none 0 0, .bool false] RLf)) _ _ _ at hX
  rw [hU0] at hB0 hX
  have HX0 := Lib.hid (show RlAt U0 X none [] 0 0 false from ⟨hXE ▸ hX, LAt.nil _ _ _ _ _ _, rfl, fun b off e => by cases e⟩)
  have HL0 := Lib.hid (hl.next hB0)
  have HG := Lib.hid (show w.heap.size ≤ g ∧ w.heap.size ≤ b ∧ X ≠ g ∧ X ≠ b ∧ w.heap.size ≤ X ∧ X < U0.heap.size from by
    have h1 := hl.blk.lt
    have h2 := hl.map.lt
    have h3 := hB.size
    have h4 := hX.lt
    omega)
  have HB0 := Lib.hid (hB.trans (hB0.mono hB.size))
  have HU0 := Lib.hid hU0
  have HXE := Lib.hid hXE
  clear hl hB hg hb hB0 hX hU0 hXE
  go_wp2_with fail
  rw [HU0.out, HXE.out]
  refine (HLV.out U0).mono ?_
  rintro e W2 ⟨rfl, hB⟩
  have HL2 := Lib.hid (HL0.out.next hB)
  have HX2 := Lib.hid (HX0.out.next hB)
  have HB2 := Lib.hid (HB0.out.trans (hB.mono HB0.out.size))
  clear hB HL0 HX0 HB0
  go_wp2_with fail
  go_loopw [9] (fun iv wr => ∃ k : Nat, k ≤ n ∧ k ≤ 80 ∧ iv = .int .i64 k ∧ (∃ f ov n1 s1, n1 ≤ k ∧ LdAt wr g b n1 s1 f ov ∧ NoMax f ov ∧ WfK f ∧ ∃ q L n2 cap, n2 ≤ k ∧ RlAt wr X q L n2 cap ov ∧ AllL f L) ∧ Below w.heap.size w wr) (fun iv _ => n - (intOf iv).toNat)
  case atStart => exact ⟨0, Nat.zero_le _, by omega, rfl, ⟨fun _ => none, false, 0, 0, Nat.le_refl _, HL2.out, fun _ i v h => (by cases h), fun i v h => (by cases h), none, [], 0, 0, Nat.le_refl _, HX2.out, ⟨List.Pairwise.nil, fun i v => ⟨fun h => by simp at h, fun h => by cases h⟩⟩⟩, HB2.out⟩
  case round =>
    obtain ⟨k, hk, hk8, rfl, ⟨f, ov, n1, s1, hn1, hl, hnm, hwf, q, L, n2, cap, hn2, hrl, hal⟩, hB⟩ := hrel
    have HN1 := Lib.hid hn1
    have HN2 := Lib.hid hn2
    have HNM := Lib.hid hnm
    have HWF := Lib.hid hwf
    have HLl := Lib.hid hl
    have HRL := Lib.hid hrl
    have HAL := Lib.hid hal
    have HB := Lib.hid hB
    clear hn1 hn2 hnm hwf hl hrl hal hB
    by_cases hlt : k < n
    · have hltI : (k : Int) < (n : Int) := by omega
      have t1 : decide ((k : Int) < (n : Int)) = true := decide_eq_true hltI
      by_cases h80 : k < 80
      · have h80I : (k : Int) < 80 := by omega
        have t2 : decide ((k : Int) < 80) = true := decide_eq_true h80I
        obtain ⟨Q, off, rfl, c0, c1, c2⟩ := op3_cell (HAT.out.below HB.out) HN.out hlt
        obtain ⟨x, hx⟩ : ∃ x, l.getD k O3.zero = x := ⟨_, rfl⟩
        rw [hx] at c0 c1 c2
        have hxm : x ∈ l := by rw [← hx]; simp [List.getD, show k < l.length by have := HN.out; omega]
        have HXI := Lib.hid (HAT.out.ok x hxm)
        clear hx hxm
        obtain ⟨xk, xi, xn⟩ := x
        dsimp only at c0 c1 c2 HXI
        have hV := newB wr (.cells #[.int .i64 xk, .int .i64 xi, .int .i64 xn] 31)
        have hO := Blk.new wr 31 [.int .i64 xk, .int .i64 xi, .int .i64 xn]
        obtain ⟨O, hOE⟩ : ∃ O, wr.heap.size = O := ⟨_, rfl⟩
        obtain ⟨V, hVE⟩ : ∃ V, wr.alloc (.cells #[.int .i64 xk, .int .i64 xi, .int .i64 xn] 31) = V := ⟨_, rfl⟩
        change Blk (wr.alloc (.cells #[.int .i64 xk, .int .i64 xi, .int .i64 xn] 31)) _ _ _ at hO
        rw [hVE] at hV hO
        rw [hOE] at hO
        have HLV2 := Lib.hid (HLl.out.next hV)
        have HRV := Lib.hid (HRL.out.next hV)
        have HBV := Lib.hid (HB.out.trans (hV.mono HB.out.size))
        have HO := Lib.hid hO
        have HOW := Lib.hid (show w.heap.size ≤ O ∧ O ≠ g ∧ O ≠ b ∧ O ≠ X from by
          have h1 := HLl.out.blk.lt
          have h2 := HLl.out.map.lt
          have h3 := HRL.out.blk.lt
          have h4 := HB.out.size
          omega)
        have HVE := Lib.hid hVE
        have HOE := Lib.hid hOE
        clear hV hO hOE hVE HLl HRL
        by_cases hk1 : xk = 1
        · subst hk1
          have m0 : V.cell? ⟨O, 0, none⟩ = some (.int .i64 1) := HO.out.cellAt rfl
          have m1 : V.cell? ⟨O, 1, none⟩ = some (.int .i64 xi) := HO.out.cellAt rfl
          have m2 : V.cell? ⟨O, 2, none⟩ = some (.int .i64 xn) := HO.out.cellAt rfl
          go_wp2_with fail
          rw [HVE.out, HOE.out]
          go_wp2_with fail
          refine (ldadd_any V g b n1 s1 _ _ HLV2.out (by have := HN1.out; omega) xi xn HXI.out.2.1).mono ?_
          rintro e W4 ⟨rfl, n3, s3, hn3, hl, hT⟩
          have HO4 := Lib.hid (HO.out.of_same (hT.block O HO.out.lt (by have := HOW.out; rintro (e | e) <;> omega)))
          have HR4 := Lib.hid (HRV.out.apart HLV2.out hT HG.out.2.2.1 HG.out.2.2.2.1)
          have HB4 := Lib.hid (HBV.out.trans (hT.below HBV.out.size fun k hk => by have h1 := HG.out; rcases hk with rfl | rfl <;> omega))
          have HN3 := Lib.hid (show n3 ≤ k + 1 from by have := HN1.out; omega)
          have HL4 := Lib.hid hl
          clear hn3 hl hT m0 m1 m2
          have m1 : W4.cell? ⟨O, 1, none⟩ = some (.int .i64 xi) := HO4.out.cellAt rfl
          have m2 : W4.cell? ⟨O, 2, none⟩ = some (.int .i64 xn) := HO4.out.cellAt rfl
          go_wp2_with fail
          refine (rladd2_any W4 X q L n2 cap ov HR4.out (by have := HN2.out; omega) f HAL.out xi xn HXI.out.2.1).mono ?_
          rintro e W5 ⟨rfl, q', L', n', cap', hrl, hal, hn', hT⟩
          have HO5 := Lib.hid (HO4.out.of_same (hT.block O HO4.out.lt (by have := HOW.out; intro e; omega)))
          have HL5 := Lib.hid (HL4.out.apart hT (by have := HG.out; intro e; omega) (by have := HG.out; intro e; omega))
          have HB5 := Lib.hid (HB4.out.trans (hT.below HB4.out.size fun k hk => by have h1 := HG.out; omega))
          have HNM5 := Lib.hid (HNM.out.add xi xn)
          have HWF5 := Lib.hid (HWF.out.ch add HXI.out.2.1 xn)
          obtain ⟨F, hF⟩ : ∃ F, chF add f xi xn = F := ⟨_, rfl⟩
          obtain ⟨OV, hOV⟩ : ∃ OV, chO add f ov xi xn = OV := ⟨_, rfl⟩
          rw [hF] at HL5 HNM5 HWF5 hal
          rw [hOV] at HL5 HNM5 hrl
          have HN4 := Lib.hid (show n' ≤ k + 1 from by have := HN2.out; omega)
          have HR5 := Lib.hid hrl
          have HA5 := Lib.hid hal
          clear hrl hal hn' hT hF hOV m1 m2 HL4 HR4 HO4 HB4 HLV2 HRV HBV HO
          have HSX := Lib.hid (fun (u : World) (hu : Below W5.heap.size W5 u) => show u.cell? ⟨X, 0, none⟩ = some (.slice q' n' cap') ∧ u.cell? ⟨X, 1, none⟩ = some (.bool OV) ∧ u.cell? ⟨O, 1, none⟩ = some (.int .i64 xi) from ⟨(HR5.out.blk.next hu).cellAt rfl, (HR5.out.blk.next hu).cellAt rfl, (HO5.out.next hu).cellAt rfl⟩)
          have HBD := Lib.hid (show Below W5.heap.size W5 W5.drew from (Below.refl _ _).drew)
          have HALL := Lib.hid (fun (u : World) (hu : Below W5.heap.size W5 u) => ldall_any u g b n3 s3 _ _ (HL5.out.next hu) (by have := HN3.out; omega) HWF5.out)
          have HOVR := Lib.hid (fun (u : World) (hu : Below W5.heap.size W5 u) => ldover_any u g b n3 s3 _ _ (HL5.out.next hu))
          obtain ⟨v, hv⟩ : ∃ v, (F xi).getD 0 = v := ⟨_, rfl⟩
          obtain ⟨ft, hft⟩ : ∃ v, fitsV F OV xi N M = v := ⟨_, rfl⟩
          have HOF1 := Lib.hid (fun (u : World) (hu : Below W5.heap.size W5 u) => show Calls Try.prog 17 #[.pointer (some ⟨g, 0, none⟩), .int .i64 xi] u fun e w' => e = .returned (.int .i64 v) ∧ u = w' from hv ▸ ldof_any u g b n3 s3 _ _ (HL5.out.next hu) xi HXI.out.2.1)
          have HOF2 := Lib.hid (fun (u : World) (hu : Below W5.heap.size W5 u) => show Calls Try.prog 18 #[.pointer (some ⟨X, 0, none⟩), .int .i64 xi] u fun e w' => e = .returned (.int .i64 v) ∧ u = w' from hv ▸ rlof_any u X q' L' n' cap' OV (HR5.out.next hu) (by have := HN4.out; omega) F HA5.out xi)
          have HFT1 := Lib.hid (fun (u : World) (hu : Below W5.heap.size W5 u) => show Calls Try.prog 19 #[.pointer (some ⟨g, 0, none⟩), .int .i64 xi, .int .i64 N, .int .i64 M] u fun e w' => e = .returned (.bool ft) ∧ u = w' from hft ▸ ldfits_any u g b n3 s3 _ _ (HL5.out.next hu) xi N M HXI.out.2.1)
          have HFT2 := Lib.hid (fun (u : World) (hu : Below W5.heap.size W5 u) => show Calls Try.prog 20 #[.pointer (some ⟨X, 0, none⟩), .int .i64 xi, .int .i64 N, .int .i64 M] u fun e w' => e = .returned (.bool ft) ∧ u = w' from hft ▸ rlfits_any u X q' L' n' cap' OV (HR5.out.next hu) (by have := HN4.out; omega) F HA5.out xi N M)
          have HSAM := Lib.hid (fun (u : World) (hu : Below W5.heap.size W5 u) (q4 : Option Addr) (c4 : Nat) (l4 : List Lo) (h4 : AllL F l4) (ha : LosAt u q4 l4) (h5 : l4.length ≤ n3) => show Calls Try.prog 14 #[.slice q4 l4.length c4, .slice q' n' cap'] u fun e w' => e = .returned (.bool true) ∧ Below u.heap.size u w' from by
            have e : l4 = L' := allL_unique h4 HA5.out
            have hl := HR5.out.len
            have h6 := rsameL_yes q4 q' l4 l4.length c4 cap' u ha (by rw [e]; exact HR5.out.at_.below hu) rfl (by unfold maxLen; have := HN3.out; omega)
            rw [show n' = l4.length by rw [e, hl]]
            exact h6)
          have hS : W5.drew.cell? ⟨X, 0, none⟩ = some (.slice q' n' cap') ∧ W5.drew.cell? ⟨X, 1, none⟩ = some (.bool OV) ∧ W5.drew.cell? ⟨O, 1, none⟩ = some (.int .i64 xi) := HSX.out _ HBD.out
          clear hv hft
          have tov : (OV != OV) = false := by simp
          have tv : (v != v) = false := by simp
          have tft : (ft != ft) = false := by simp
          go_wp2_with fail
          go_region_held_law (fun W => W.cell? ⟨X, 0, none⟩ = some (.slice q' n' cap') ∧ W.cell? ⟨X, 1, none⟩ = some (.bool OV) ∧ W.cell? ⟨O, 1, none⟩ = some (.int .i64 xi)) (with_reducible assumption) (first | (go_at_call 15; refine (HALL.out W5.drew HBD.out).mono ?_; rintro e u2 ⟨q4, c4, l4, rfl, ha4, hat4, hc4, hn4, h⟩; have HB6 := Lib.hid (HBD.out.trans (h.mono HBD.out.size)); have hS4 := HSX.out u2 HB6.out; have HSM := Lib.hid (HSAM.out u2 HB6.out q4 c4 l4 ha4 hat4 hn4); clear h ha4 hat4 hc4 hn4) | (go_at_call 14; refine HSM.out.mono ?_; rintro e u3 ⟨rfl, h⟩; have HB7 := Lib.hid (HB6.out.trans (h.mono HB6.out.size)); have hS5 := HSX.out u3 HB7.out; clear h) | (go_at_call 16; refine (HOVR.out u3 HB7.out).mono ?_; rintro e w' ⟨rfl, rfl⟩) | (go_at_call 17; refine (HOF1.out u3 HB7.out).mono ?_; rintro e w' ⟨rfl, rfl⟩) | (go_at_call 18; refine (HOF2.out u3 HB7.out).mono ?_; rintro e w' ⟨rfl, rfl⟩) | (go_at_call 19; refine (HFT1.out u3 HB7.out).mono ?_; rintro e w' ⟨rfl, rfl⟩) | (go_at_call 20; refine (HFT2.out u3 HB7.out).mono ?_; rintro e w' ⟨rfl, rfl⟩))
          all_goals
            have HBZ := Lib.hid (HB5.out.trans (HB7.out.mono HB5.out.size))
            have HLZ := Lib.hid (HL5.out.next HB7.out)
            have HRZ := Lib.hid (HR5.out.next HB7.out)
            clear hS hS4 hS5 HB6 HB7 HSM HALL HOVR HOF1 HOF2 HFT1 HFT2 HSAM HSX HBD HB5 HL5 HR5
            go_wp2_with fail
            go_roundw
            case rel => exact ⟨k + 1, by omega, by omega, by go_num, ⟨F, OV, n3, s3, HN3.out, HLZ.out, HNM5.out, HWF5.out, q', L', n', cap', HN4.out, HRZ.out, HA5.out⟩, HBZ.out⟩
            case measure => simp [intOf]; omega
        by_cases hk2 : xk = 2
        · subst hk2
          have m0 : V.cell? ⟨O, 0, none⟩ = some (.int .i64 2) := HO.out.cellAt rfl
          have m1 : V.cell? ⟨O, 1, none⟩ = some (.int .i64 xi) := HO.out.cellAt rfl
          have m2 : V.cell? ⟨O, 2, none⟩ = some (.int .i64 xn) := HO.out.cellAt rfl
          go_wp2_with fail
          rw [HVE.out, HOE.out]
          go_wp2_with fail
          refine (ldsub_any V g b n1 s1 _ _ HLV2.out (by have := HN1.out; omega) xi xn HXI.out.2.1).mono ?_
          rintro e W4 ⟨rfl, n3, s3, hn3, hl, hT⟩
          have HO4 := Lib.hid (HO.out.of_same (hT.block O HO.out.lt (by have := HOW.out; rintro (e | e) <;> omega)))
          have HR4 := Lib.hid (HRV.out.apart HLV2.out hT HG.out.2.2.1 HG.out.2.2.2.1)
          have HB4 := Lib.hid (HBV.out.trans (hT.below HBV.out.size fun k hk => by have h1 := HG.out; rcases hk with rfl | rfl <;> omega))
          have HN3 := Lib.hid (show n3 ≤ k + 1 from by have := HN1.out; omega)
          have HL4 := Lib.hid hl
          clear hn3 hl hT m0 m1 m2
          have m1 : W4.cell? ⟨O, 1, none⟩ = some (.int .i64 xi) := HO4.out.cellAt rfl
          have m2 : W4.cell? ⟨O, 2, none⟩ = some (.int .i64 xn) := HO4.out.cellAt rfl
          go_wp2_with fail
          refine (rlsub2_any W4 X q L n2 cap ov HR4.out (by have := HN2.out; omega) f HAL.out xi xn HXI.out.2.1).mono ?_
          rintro e W5 ⟨rfl, q', L', n', cap', hrl, hal, hn', hT⟩
          have HO5 := Lib.hid (HO4.out.of_same (hT.block O HO4.out.lt (by have := HOW.out; intro e; omega)))
          have HL5 := Lib.hid (HL4.out.apart hT (by have := HG.out; intro e; omega) (by have := HG.out; intro e; omega))
          have HB5 := Lib.hid (HB4.out.trans (hT.below HB4.out.size fun k hk => by have h1 := HG.out; omega))
          rw [HNM.out.sub_over HLV2.out.ok] at HL5
          have HNM5 := Lib.hid (HNM.out.sub HLV2.out.ok xi xn)
          have HWF5 := Lib.hid (HWF.out.ch sub HXI.out.2.1 xn)
          obtain ⟨F, hF⟩ : ∃ F, chF sub f xi xn = F := ⟨_, rfl⟩
          obtain ⟨OV, hOV⟩ : ∃ OV, (ov || (near xn == 9007199254740991)) = OV := ⟨_, rfl⟩
          rw [hF] at HL5 HNM5 HWF5 hal
          rw [hOV] at HL5 HNM5 hrl
          have HN4 := Lib.hid (show n' ≤ k + 1 from by have := HN2.out; omega)
          have HR5 := Lib.hid hrl
          have HA5 := Lib.hid hal
          clear hrl hal hn' hT hF hOV m1 m2 HL4 HR4 HO4 HB4 HLV2 HRV HBV HO
          have HSX := Lib.hid (fun (u : World) (hu : Below W5.heap.size W5 u) => show u.cell? ⟨X, 0, none⟩ = some (.slice q' n' cap') ∧ u.cell? ⟨X, 1, none⟩ = some (.bool OV) ∧ u.cell? ⟨O, 1, none⟩ = some (.int .i64 xi) from ⟨(HR5.out.blk.next hu).cellAt rfl, (HR5.out.blk.next hu).cellAt rfl, (HO5.out.next hu).cellAt rfl⟩)
          have HBD := Lib.hid (show Below W5.heap.size W5 W5.drew from (Below.refl _ _).drew)
          have HALL := Lib.hid (fun (u : World) (hu : Below W5.heap.size W5 u) => ldall_any u g b n3 s3 _ _ (HL5.out.next hu) (by have := HN3.out; omega) HWF5.out)
          have HOVR := Lib.hid (fun (u : World) (hu : Below W5.heap.size W5 u) => ldover_any u g b n3 s3 _ _ (HL5.out.next hu))
          obtain ⟨v, hv⟩ : ∃ v, (F xi).getD 0 = v := ⟨_, rfl⟩
          obtain ⟨ft, hft⟩ : ∃ v, fitsV F OV xi N M = v := ⟨_, rfl⟩
          have HOF1 := Lib.hid (fun (u : World) (hu : Below W5.heap.size W5 u) => show Calls Try.prog 17 #[.pointer (some ⟨g, 0, none⟩), .int .i64 xi] u fun e w' => e = .returned (.int .i64 v) ∧ u = w' from hv ▸ ldof_any u g b n3 s3 _ _ (HL5.out.next hu) xi HXI.out.2.1)
          have HOF2 := Lib.hid (fun (u : World) (hu : Below W5.heap.size W5 u) => show Calls Try.prog 18 #[.pointer (some ⟨X, 0, none⟩), .int .i64 xi] u fun e w' => e = .returned (.int .i64 v) ∧ u = w' from hv ▸ rlof_any u X q' L' n' cap' OV (HR5.out.next hu) (by have := HN4.out; omega) F HA5.out xi)
          have HFT1 := Lib.hid (fun (u : World) (hu : Below W5.heap.size W5 u) => show Calls Try.prog 19 #[.pointer (some ⟨g, 0, none⟩), .int .i64 xi, .int .i64 N, .int .i64 M] u fun e w' => e = .returned (.bool ft) ∧ u = w' from hft ▸ ldfits_any u g b n3 s3 _ _ (HL5.out.next hu) xi N M HXI.out.2.1)
          have HFT2 := Lib.hid (fun (u : World) (hu : Below W5.heap.size W5 u) => show Calls Try.prog 20 #[.pointer (some ⟨X, 0, none⟩), .int .i64 xi, .int .i64 N, .int .i64 M] u fun e w' => e = .returned (.bool ft) ∧ u = w' from hft ▸ rlfits_any u X q' L' n' cap' OV (HR5.out.next hu) (by have := HN4.out; omega) F HA5.out xi N M)
          have HSAM := Lib.hid (fun (u : World) (hu : Below W5.heap.size W5 u) (q4 : Option Addr) (c4 : Nat) (l4 : List Lo) (h4 : AllL F l4) (ha : LosAt u q4 l4) (h5 : l4.length ≤ n3) => show Calls Try.prog 14 #[.slice q4 l4.length c4, .slice q' n' cap'] u fun e w' => e = .returned (.bool true) ∧ Below u.heap.size u w' from by
            have e : l4 = L' := allL_unique h4 HA5.out
            have hl := HR5.out.len
            have h6 := rsameL_yes q4 q' l4 l4.length c4 cap' u ha (by rw [e]; exact HR5.out.at_.below hu) rfl (by unfold maxLen; have := HN3.out; omega)
            rw [show n' = l4.length by rw [e, hl]]
            exact h6)
          have hS : W5.drew.cell? ⟨X, 0, none⟩ = some (.slice q' n' cap') ∧ W5.drew.cell? ⟨X, 1, none⟩ = some (.bool OV) ∧ W5.drew.cell? ⟨O, 1, none⟩ = some (.int .i64 xi) := HSX.out _ HBD.out
          clear hv hft
          have tov : (OV != OV) = false := by simp
          have tv : (v != v) = false := by simp
          have tft : (ft != ft) = false := by simp
          go_wp2_with fail
          go_region_held_law (fun W => W.cell? ⟨X, 0, none⟩ = some (.slice q' n' cap') ∧ W.cell? ⟨X, 1, none⟩ = some (.bool OV) ∧ W.cell? ⟨O, 1, none⟩ = some (.int .i64 xi)) (with_reducible assumption) (first | (go_at_call 15; refine (HALL.out W5.drew HBD.out).mono ?_; rintro e u2 ⟨q4, c4, l4, rfl, ha4, hat4, hc4, hn4, h⟩; have HB6 := Lib.hid (HBD.out.trans (h.mono HBD.out.size)); have hS4 := HSX.out u2 HB6.out; have HSM := Lib.hid (HSAM.out u2 HB6.out q4 c4 l4 ha4 hat4 hn4); clear h ha4 hat4 hc4 hn4) | (go_at_call 14; refine HSM.out.mono ?_; rintro e u3 ⟨rfl, h⟩; have HB7 := Lib.hid (HB6.out.trans (h.mono HB6.out.size)); have hS5 := HSX.out u3 HB7.out; clear h) | (go_at_call 16; refine (HOVR.out u3 HB7.out).mono ?_; rintro e w' ⟨rfl, rfl⟩) | (go_at_call 17; refine (HOF1.out u3 HB7.out).mono ?_; rintro e w' ⟨rfl, rfl⟩) | (go_at_call 18; refine (HOF2.out u3 HB7.out).mono ?_; rintro e w' ⟨rfl, rfl⟩) | (go_at_call 19; refine (HFT1.out u3 HB7.out).mono ?_; rintro e w' ⟨rfl, rfl⟩) | (go_at_call 20; refine (HFT2.out u3 HB7.out).mono ?_; rintro e w' ⟨rfl, rfl⟩))
          all_goals
            have HBZ := Lib.hid (HB5.out.trans (HB7.out.mono HB5.out.size))
            have HLZ := Lib.hid (HL5.out.next HB7.out)
            have HRZ := Lib.hid (HR5.out.next HB7.out)
            clear hS hS4 hS5 HB6 HB7 HSM HALL HOVR HOF1 HOF2 HFT1 HFT2 HSAM HSX HBD HB5 HL5 HR5
            go_wp2_with fail
            go_roundw
            case rel => exact ⟨k + 1, by omega, by omega, by go_num, ⟨F, OV, n3, s3, HN3.out, HLZ.out, HNM5.out, HWF5.out, q', L', n', cap', HN4.out, HRZ.out, HA5.out⟩, HBZ.out⟩
            case measure => simp [intOf]; omega
        have q1 : (xk == 1) = false := by simpa using hk1
        have q2 : (xk == 2) = false := by simpa using hk2
        have q3 : decide (xk = 1) = false := decide_eq_false hk1
        have q4 : decide (xk = 2) = false := decide_eq_false hk2
        clear hk1 hk2
        have m0 : V.cell? ⟨O, 0, none⟩ = some (.int .i64 xk) := HO.out.cellAt rfl
        go_wp2_with fail
        rw [HVE.out, HOE.out]
        go_wp2_with fail
        clear m0
        obtain ⟨W5, hW5⟩ : ∃ W, V = W := ⟨_, rfl⟩
        obtain ⟨F, hF⟩ : ∃ F, f = F := ⟨_, rfl⟩
        obtain ⟨OV, hOV⟩ : ∃ OV, ov = OV := ⟨_, rfl⟩
        obtain ⟨n3, hn3⟩ : ∃ x, n1 = x := ⟨_, rfl⟩
        obtain ⟨s3, hs3⟩ : ∃ x, s1 = x := ⟨_, rfl⟩
        obtain ⟨q', hq'⟩ : ∃ x, q = x := ⟨_, rfl⟩
        obtain ⟨L', hL'⟩ : ∃ x, L = x := ⟨_, rfl⟩
        obtain ⟨n', hn'⟩ : ∃ x, n2 = x := ⟨_, rfl⟩
        obtain ⟨cap', hc'⟩ : ∃ x, cap = x := ⟨_, rfl⟩
        have HN3 := Lib.hid (show n3 ≤ k + 1 from by have := HN1.out; omega)
        have HN4 := Lib.hid (show n' ≤ k + 1 from by have := HN2.out; omega)
        have HL5 := Lib.hid HLV2.out
        have HNM5 := Lib.hid HNM.out
        have HWF5 := Lib.hid HWF.out
        have HR5 := Lib.hid HRV.out
        have HA5 := Lib.hid HAL.out
        have HB5 := Lib.hid HBV.out
        have HO5 := Lib.hid HO.out
        clear HLV2 HRV HBV HO
        rw [hn3, hs3, hF, hOV, hW5] at HL5
        rw [hF, hOV] at HNM5
        rw [hF] at HWF5
        rw [hF, hL'] at HA5
        rw [hW5, hq', hL', hn', hc', hOV] at HR5
        rw [hW5] at HB5 HO5 ⊢
        clear hn3 hs3 hF hOV hW5 hq' hL' hn' hc'
        have HSX := Lib.hid (fun (u : World) (hu : Below W5.heap.size W5 u) => show u.cell? ⟨X, 0, none⟩ = some (.slice q' n' cap') ∧ u.cell? ⟨X, 1, none⟩ = some (.bool OV) ∧ u.cell? ⟨O, 1, none⟩ = some (.int .i64 xi) from ⟨(HR5.out.blk.next hu).cellAt rfl, (HR5.out.blk.next hu).cellAt rfl, (HO5.out.next hu).cellAt rfl⟩)
        have HBD := Lib.hid (show Below W5.heap.size W5 W5.drew from (Below.refl _ _).drew)
        have HALL := Lib.hid (fun (u : World) (hu : Below W5.heap.size W5 u) => ldall_any u g b n3 s3 _ _ (HL5.out.next hu) (by have := HN3.out; omega) HWF5.out)
        have HOVR := Lib.hid (fun (u : World) (hu : Below W5.heap.size W5 u) => ldover_any u g b n3 s3 _ _ (HL5.out.next hu))
        obtain ⟨v, hv⟩ : ∃ v, (F xi).getD 0 = v := ⟨_, rfl⟩
        obtain ⟨ft, hft⟩ : ∃ v, fitsV F OV xi N M = v := ⟨_, rfl⟩
        have HOF1 := Lib.hid (fun (u : World) (hu : Below W5.heap.size W5 u) => show Calls Try.prog 17 #[.pointer (some ⟨g, 0, none⟩), .int .i64 xi] u fun e w' => e = .returned (.int .i64 v) ∧ u = w' from hv ▸ ldof_any u g b n3 s3 _ _ (HL5.out.next hu) xi HXI.out.2.1)
        have HOF2 := Lib.hid (fun (u : World) (hu : Below W5.heap.size W5 u) => show Calls Try.prog 18 #[.pointer (some ⟨X, 0, none⟩), .int .i64 xi] u fun e w' => e = .returned (.int .i64 v) ∧ u = w' from hv ▸ rlof_any u X q' L' n' cap' OV (HR5.out.next hu) (by have := HN4.out; omega) F HA5.out xi)
        have HFT1 := Lib.hid (fun (u : World) (hu : Below W5.heap.size W5 u) => show Calls Try.prog 19 #[.pointer (some ⟨g, 0, none⟩), .int .i64 xi, .int .i64 N, .int .i64 M] u fun e w' => e = .returned (.bool ft) ∧ u = w' from hft ▸ ldfits_any u g b n3 s3 _ _ (HL5.out.next hu) xi N M HXI.out.2.1)
        have HFT2 := Lib.hid (fun (u : World) (hu : Below W5.heap.size W5 u) => show Calls Try.prog 20 #[.pointer (some ⟨X, 0, none⟩), .int .i64 xi, .int .i64 N, .int .i64 M] u fun e w' => e = .returned (.bool ft) ∧ u = w' from hft ▸ rlfits_any u X q' L' n' cap' OV (HR5.out.next hu) (by have := HN4.out; omega) F HA5.out xi N M)
        have HSAM := Lib.hid (fun (u : World) (hu : Below W5.heap.size W5 u) (q4 : Option Addr) (c4 : Nat) (l4 : List Lo) (h4 : AllL F l4) (ha : LosAt u q4 l4) (h5 : l4.length ≤ n3) => show Calls Try.prog 14 #[.slice q4 l4.length c4, .slice q' n' cap'] u fun e w' => e = .returned (.bool true) ∧ Below u.heap.size u w' from by
          have e : l4 = L' := allL_unique h4 HA5.out
          have hl := HR5.out.len
          have h6 := rsameL_yes q4 q' l4 l4.length c4 cap' u ha (by rw [e]; exact HR5.out.at_.below hu) rfl (by unfold maxLen; have := HN3.out; omega)
          rw [show n' = l4.length by rw [e, hl]]
          exact h6)
        have hS : W5.drew.cell? ⟨X, 0, none⟩ = some (.slice q' n' cap') ∧ W5.drew.cell? ⟨X, 1, none⟩ = some (.bool OV) ∧ W5.drew.cell? ⟨O, 1, none⟩ = some (.int .i64 xi) := HSX.out _ HBD.out
        clear hv hft
        have tov : (OV != OV) = false := by simp
        have tv : (v != v) = false := by simp
        have tft : (ft != ft) = false := by simp
        go_wp2_with fail
        go_region_held_law (fun W => W.cell? ⟨X, 0, none⟩ = some (.slice q' n' cap') ∧ W.cell? ⟨X, 1, none⟩ = some (.bool OV) ∧ W.cell? ⟨O, 1, none⟩ = some (.int .i64 xi)) (with_reducible assumption) (first | (go_at_call 15; refine (HALL.out W5.drew HBD.out).mono ?_; rintro e u2 ⟨q4, c4, l4, rfl, ha4, hat4, hc4, hn4, h⟩; have HB6 := Lib.hid (HBD.out.trans (h.mono HBD.out.size)); have hS4 := HSX.out u2 HB6.out; have HSM := Lib.hid (HSAM.out u2 HB6.out q4 c4 l4 ha4 hat4 hn4); clear h ha4 hat4 hc4 hn4) | (go_at_call 14; refine HSM.out.mono ?_; rintro e u3 ⟨rfl, h⟩; have HB7 := Lib.hid (HB6.out.trans (h.mono HB6.out.size)); have hS5 := HSX.out u3 HB7.out; clear h) | (go_at_call 16; refine (HOVR.out u3 HB7.out).mono ?_; rintro e w' ⟨rfl, rfl⟩) | (go_at_call 17; refine (HOF1.out u3 HB7.out).mono ?_; rintro e w' ⟨rfl, rfl⟩) | (go_at_call 18; refine (HOF2.out u3 HB7.out).mono ?_; rintro e w' ⟨rfl, rfl⟩) | (go_at_call 19; refine (HFT1.out u3 HB7.out).mono ?_; rintro e w' ⟨rfl, rfl⟩) | (go_at_call 20; refine (HFT2.out u3 HB7.out).mono ?_; rintro e w' ⟨rfl, rfl⟩))
        all_goals
          have HBZ := Lib.hid (HB5.out.trans (HB7.out.mono HB5.out.size))
          have HLZ := Lib.hid (HL5.out.next HB7.out)
          have HRZ := Lib.hid (HR5.out.next HB7.out)
          clear hS hS4 hS5 HB6 HB7 HSM HALL HOVR HOF1 HOF2 HFT1 HFT2 HSAM HSX HBD HB5 HL5 HR5
          go_wp2_with fail
          go_roundw
          case rel => exact ⟨k + 1, by omega, by omega, by go_num, ⟨F, OV, n3, s3, HN3.out, HLZ.out, HNM5.out, HWF5.out, q', L', n', cap', HN4.out, HRZ.out, HA5.out⟩, HBZ.out⟩
          case measure => simp [intOf]; omega
      · obtain rfl : k = 80 := by omega
        go_wp2_with fail
        go_ret
        exact ⟨rfl, HB.out⟩
    · obtain rfl : k = n := by omega
      have hkI : ¬ (k : Int) < (k : Int) := by omega
      go_wp2_with fail
      go_ret
      exact ⟨rfl, HB.out⟩
theorem lddoes_arg (w : World) (x : Option Addr × List O3 × Nat) (g : OpsArg w x) (N : Int) (hN : (Lit.int .i64 N).wf = true) (M : Int) (hM : (Lit.int .i64 M).wf = true) :
    Calls Try.prog 3 #[.slice x.1 x.2.1.length x.2.2, .int .i64 N, .int .i64 M] w fun e w' => e = .returned (.bool true) ∧ Below w.heap.size w w' :=
  lddoes_walk w x.1 x.2.1 _ x.2.2 g.at_ rfl (Nat.le_trans g.le g.max) N M
end Go.Proofs.Yteeihjdkenlebaa
