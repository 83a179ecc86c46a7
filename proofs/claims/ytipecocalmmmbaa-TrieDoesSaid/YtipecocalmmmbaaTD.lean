/- trie: Within at int. -/
import Derived.Test.YtipecocalmmmbaaTC
import Derived.Stop.RegionWithIn
import Derived.Maps.AppendAt
namespace Go.Proofs.Ytipecocalmmmbaa
open Go.RowKit Go.Shelf
set_option linter.unusedVariables false
set_option linter.unusedSimpArgs false

attribute [local go_sem] Oper.semAt_some
attribute [local go_sem, local simp] wide_fn
attribute [local go_sem] encMT

theorem infoPfx : (Try.prog.info? 32).map (fun i => (i.zero, i.size, i.bytes)) = some (some (.agg #[.int .u32 0, .int .i64 0]), 2, 16) := by kernel_rfl
/-- A row of prefixes. -/
def pC (p : Int × Int) : List Value := [.int .u32 p.1, .int .i64 p.2]
def pcells (ps : List (Int × Int)) : List Value := ps.flatMap pC
theorem pcells_snoc (ps : List (Int × Int)) (p : Int × Int) : pcells (ps ++ [p]) = pcells ps ++ pC p := by unfold pcells; rw [List.flatMap_append]; simp
theorem pcells_len : ∀ ps : List (Int × Int), (pcells ps).length = ps.length * 2
  | [] => rfl
  | p :: ps => by have := pcells_len ps; unfold pcells at *; rw [List.flatMap_cons, List.length_append, this]; simp [pC]; omega
def tkey (e : TE) : Int × Int := (e.a, e.n)
theorem row_own {W W' : World} {row : Option Nat} {base : Nat} {e : TypeId} {size : Nat} {v : Value} {k : Nat} {xs : List Value} (h : W.ownsRow base e size v k xs) (hg : W.grownBy W' row)
    (hr : ∀ r, row = some r → ∃ o : Obj, W.heap[r]? = some o ∧ o.isCells = false) : W'.ownsRow base e size v k xs := by
  refine h.kept hg ?_
  rcases h.2 with ⟨rfl, _⟩ | ⟨g, cap, cur, rfl, _, hgb, _⟩
  · exact .inl rfl
  · refine .inr fun e' => ?_
    obtain ⟨o, ho, hw⟩ := hr g (by simpa [Value.ownBlock] using e'.symm)
    rw [hgb] at ho; cases ho; cases hw
theorem row_form {W : World} {base : Nat} {e : TypeId} {size : Nat} {v : Value} {k : Nat} {xs : List Value} (h : W.ownsRow base e size v k xs) : ∃ p c, v = .slice p k c := by
  rcases h.2 with ⟨rfl, rfl, _⟩ | ⟨g, cap, cur, rfl, _⟩
  · exact ⟨none, 0, rfl⟩
  · exact ⟨_, _, rfl⟩
theorem subA_le (L : List TE) (x : Int) (d : Nat) : (subA L x d).length ≤ L.length := by
  unfold subA
  have := List.length_filter_le (fun e : MT L => inSub x d e.1) L.attach
  rwa [List.length_attach] at this
theorem stepIn_append {F : Fence} {n : Nat} {P : Program} {ops : Array Oper} {o : Oper} {a : Act} {w : World} {K : Act → World → Prop} {Q : Exit → Act → World → Prop} {E : Prop} (hgd : o.guard = none) (s x : Operand) {t1 t2 : TypeId}
    (ho : o.op = .call { callee := .builtin .append, args := #[s, x], argTypes := #[t1, t2] }) (v u : Value) (hs : a.eval s = v) (hx : a.eval x = u) (v' : Value) (w' : World) (hrun : (Builtin.append_ #[t1, t2] o.type #[v, u]).run P w = .ok v' w') (h : K (a.put o.dst v') w') :
    if Region.wanted o (yielded ops a.tmps) = true then Oper.wpIn F n P o a w K Q else E := by
  rw [if_pos (by simp [Region.wanted, hgd])]
  unfold Oper.wpIn
  refine ⟨?_, ?_⟩
  · simp [Oper.about, ho, resolve, Target.leads, Sem.run_pure]
  · rw [Oper.semAt_plain F _ _ (by rw [ho]; intro c hc'; cases hc')]
    simp [execOp, ho, resolve, invoke, builtin, hs, hx, hrun, Result.andThen]
    exact h
theorem KeepsOthersGrown (W : World) (a : Addr) (v : Value) : W.grownBy (W.setCell a v) (some a.block) :=
  ⟨rfl, rfl, rfl, by simp [World.setCell], fun k _ hk => Below.heap_setCell _ _ _ k (fun e => hk (by rw [e]))⟩
theorem row_ne {W : World} {base : Nat} {e t : TypeId} {size g : Nat} {v : Value} {k : Nat} {xs vs : List Value} (h : W.ownsRow base e size v k xs) (hb : Blk W g t vs) (ht : t ≠ e) : v.ownBlock ≠ some g := fun e' => by
  rcases h.2 with ⟨rfl, _⟩ | ⟨g', cap, cur, rfl, _, hgb, _⟩
  · simp [Value.ownBlock] at e'
  · have : g' = g := by simpa [Value.ownBlock] using e'
    subst this
    obtain ⟨cs, h1, _⟩ := hb
    rw [hgb] at h1
    injection h1 with h1
    injection h1 with _ h2
    exact ht h2.symm
theorem sub_of {TR ND TH : TypeId} {w : World} {B t r : Nat} {s : Int} {N : Int → Nat → Option Nat} {L : List TE} (h : TrAt TR ND TH w B t r s N L) (a n : Int) :
    ∃ (x : Int) (d : Nat), d ≤ 33 ∧ atN N a n = N x d ∧ (subA L x d).map (fun e => tkey e.1) = (L.filter (fun e => withinP a n e.a e.n)).map tkey := by
  have hm : ∀ x d, (subA L x d).map (fun e => tkey e.1) = (L.filter (inSub x d)).map tkey := fun x d => by rw [← subA_val, List.map_map]; rfl
  unfold atN
  rcases hk : okP a n with _ | _
  · have hno : N 0 33 = none := by
      rcases hc : N 0 33 with _ | c
      · rfl
      · have := (h.fit _ _ _ hc).d32; omega
    refine ⟨0, 33, by omega, by rw [hno]; rfl, ?_⟩
    rw [h.sub_none hno, within_none h.tl hk]; rfl
  · obtain ⟨_, n0, n1⟩ := okP_parts hk
    exact ⟨a, n.toNat, by omega, by rw [if_pos rfl], by rw [hm, within_sub h.tl hk]⟩
set_option maxRecDepth 100000 in
set_option maxHeartbeats 8000000 in
theorem within_int (w : World) (B t r : Nat) (s : Int) (N : Int → Nat → Option Nat) (L : List TE) (h : TrAt TRi NDi THi w B t r s N L) (a n : Int) (a0 : 0 ≤ a) (a1 : a < 4294967296) (hl : L.length ≤ 1000000) :
    Calls Try.prog 22 #[.pointer (some ⟨t, 0, none⟩), .agg #[.int .u32 a, .int .i64 n]] w fun e w' => ∃ (ps : List (Int × Int)) (q : Option Addr) (c : Nat), ps = (L.filter (fun e => withinP a n e.a e.n)).map tkey ∧ e = .returned (.slice q ps.length c) ∧ w'.ownsRow w.heap.size 32 2 (.slice q ps.length c) ps.length (pcells ps) ∧ Below w.heap.size w w' := by
  refine (callsIn_wide (n := 6)).1 ?_
  have hdd : ∀ k : Nat, (Fence.wide.depth.isSome = true → 1 ≤ k) := fun k h => by cases h
  obtain ⟨x, d, hd, hat, hsub⟩ := sub_of h a n
  have HAT := Lib.hid (fun (U : World) (hU : Below w.heap.size w U) => at_int U B t r s N L (h.below hU) a n a0 a1)
  rw [hat] at HAT
  have HE := Lib.hid (show EaS TRi NDi THi w B t r s N L (fun _ => False) w.heap.size from ⟨h, fun k hk => ⟨by
    rcases hk with hk | ⟨e, he, rfl⟩
    · exact h.inLt hk
    · exact (h.thing e he).2.1.lt, id⟩⟩)
  have hlen := Nat.le_trans (subA_le L x d) hl
  have HSUB := Lib.hid hsub
  have HL := Lib.hid hlen
  have HD := Lib.hid hd
  have HH := Lib.hid h
  obtain ⟨P, hP⟩ : ∃ P, w.heap.size = P := ⟨_, rfl⟩
  obtain ⟨V, hV⟩ : ∃ V, (w.alloc (.cells #[.int .u32 a, .int .i64 n] 32)).alloc (.cells #[.slice none 0 0] 41) = V := ⟨_, rfl⟩
  have hB : Below w.heap.size w V := by rw [← hV]; exact two_below _ _ _
  have hp : Blk V P 32 [.int .u32 a, .int .i64 n] := by rw [← hV, ← hP]; exact (Blk.new w 32 [.int .u32 a, .int .i64 n]).alloc _
  have hr : Blk V (P + 1) 41 [.slice none 0 0] := by
    have := Blk.new (w.alloc (.cells #[.int .u32 a, .int .i64 n] 32)) 41 [.slice none 0 0]
    rw [sz_alloc, hP] at this
    rw [← hV]; exact this
  have p0 : V.cell? ⟨P, 0, none⟩ = some (.int .u32 a) := hp.cell 0 (by simp)
  have p1 : V.cell? ⟨P, 1, none⟩ = some (.int .i64 n) := hp.cell 1 (by simp)
  have HV := Lib.hid hV
  have HP := Lib.hid hP
  have HALL := Lib.hid (show Below w.heap.size w V ∧ Blk V (P + 1) 41 [.slice none 0 0] from ⟨hB, hr⟩)
  clear hV hP hB hp hr hat hsub hlen hd h hl
  refine callsIn_of_wp_marks Try.func22 rfl trivial ?_ rfl
  simp only [Try.ntmps22, List.size_toArray, List.length_cons, List.length_nil, Nat.reduceAdd, Nat.reduceSub, Array.replicate_succ, Array.replicate_zero, List.push_toArray, List.append_toArray, List.nil_append, List.cons_append]
  gi_wp2_with fail
  rw [HV.out, HP.out]
  refine (callsIn_wide.2 (HAT.out V HALL.out.1)).mono ?_
  rintro e w1 ⟨rfl, hb⟩
  have HAL1 := Lib.hid (show Below w.heap.size w w1 ∧ Blk w1 (P + 1) 41 [.slice none 0 0] from ⟨HALL.out.1.trans (hb.mono HALL.out.1.size), HALL.out.2.next hb⟩)
  clear hb p0 p1
  obtain ⟨pp, hpp⟩ : ∃ p : Option Addr, optP (N x d) = .pointer p := ⟨_, rfl⟩
  rw [hpp]
  gi_wp2_with fail
  refine (callsIn_wide.2 (things_int w1 pp)).mono ?_
  obtain ⟨Bn, hBn⟩ : ∃ X, w1.heap.size = X := ⟨_, rfl⟩
  obtain ⟨V2, hV2⟩ : ∃ V, w1.alloc (.cells #[.pointer pp] 57) = V := ⟨_, rfl⟩
  have hB2 : Below w1.heap.size w1 V2 := by rw [← hV2]; exact newB _ _
  have hbn : Blk V2 Bn 57 [.pointer pp] := by rw [← hV2, ← hBn]; exact Blk.new w1 57 [.pointer pp]
  have hbc : V2.cell? ⟨Bn, 0, none⟩ = some (optP (N x d)) := by rw [hpp]; exact hbn.cell 0 (by simp)
  have HAL2 := Lib.hid (show Below w.heap.size w V2 ∧ Blk V2 (P + 1) 41 [.slice none 0 0] from ⟨HAL1.out.1.trans (hB2.mono HAL1.out.1.size), HAL1.out.2.next hB2⟩)
  have HE2 := Lib.hid (show EaS TRi NDi THi V2 B t r s N L (fun _ => False) w.heap.size from ⟨HE.out.tr.below HAL2.out.1, HE.out.inM⟩)
  rintro e w2 ⟨rfl, rfl⟩
  rw [hV2, hBn]
  clear hB2 hbn hV2 hBn hpp
  have HBC := Lib.hid hbc
  clear hbc
  gi_wp2_with fail
  refine wpIn_rangeFunc_ownF rfl (by omega) (gf := 60) (lb := #[.pointer (some ⟨Bn, 0, none⟩)]) rfl trivial (enters_of Try.func60 (by kernel_rfl) rfl)
    (things1_int _ V2 B t r s N L (fun _ => False) w.heap.size HE2.out HAL2.out.1.size x d HD.out Bn HBC.out) kpX_t (kpX_b HAL2.out.1.size) (Below.refl _ _) (fun _ => rfl)
    (fun pre W => (∃ v, Blk W (P + 1) 41 [v] ∧ W.ownsRow w.heap.size 32 2 v pre.length (pcells (pre.map (fun e => tkey e.1))) ∧ (v = .slice none 0 0 ↔ pre = [])) ∧ Below w.heap.size w W)
    (fun _ _ _ => False)
    ?hI ?hIx ?h0 ?a₁ ?assign ?body ?done ?stop
  case hI =>
    rintro s A C row ⟨⟨v, hv, hr, hn⟩, hB⟩ hg hr'
    exact ⟨⟨v, hv.own hg (fun r e => (hr' r e).2), row_own hr hg (fun r e => (hr' r e).2), hn⟩, hB.grown hg hB.size (fun k e => Nat.le_trans HAL2.out.1.size (hr' k e).1)⟩
  case hIx => intro c s A C row hs; exact hs.elim
  case h0 => exact ⟨⟨.slice none 0 0, HAL2.out.2, World.ownsRow_nil _ _ _ _, by simp⟩, HAL2.out.1⟩
  case assign =>
    intro l x W K hK
    gi_wp2
    exact hK
  case body =>
    rintro l pre ⟨⟨xa, xn, xv, xg⟩, hx⟩ W ⟨⟨v, hv, hr, hn⟩, hB⟩ hlt
    obtain ⟨p, c, rfl⟩ := row_form hr
    have hg := (HE.out.tr.thing _ hx).2.1.below hB (HE.out.tr.thing _ hx).2.1.lt
    dsimp only at hg
    have r0 : W.cell? ⟨P + 1, 0, none⟩ = some (.slice p pre.length c) := hv.cell 0 (by simp)
    have f0 : W.frozen? ⟨P + 1, 0, none⟩ = false := hv.f 0
    have g0 : W.cell? ⟨xg, 0, none⟩ = some (.int .u32 xa) := hg.cell 0 (by simp)
    have g1 : W.cell? ⟨xg, 1, none⟩ = some (.int .i64 xn) := hg.cell 1 (by simp)
    obtain ⟨k, hk⟩ : ∃ k, pre.length = k := ⟨_, rfl⟩
    obtain ⟨i0, hi, hz0, hz1, hz2⟩ := info_parts infoPfx
    obtain ⟨U, hU⟩ : ∃ U, (W.alloc (.cells #[.int .u32 xa, .int .i64 xn] 32)).drew = U := ⟨_, rfl⟩
    have hUb : Blk U W.heap.size 32 [.int .u32 xa, .int .i64 xn] := by rw [← hU]; exact (Blk.new W 32 [.int .u32 xa, .int .i64 xn]).drew
    have hrow : U.ownsRow w.heap.size 32 2 (.slice p k c) k (pcells (pre.map (fun e => tkey e.1))) := by rw [← hU, ← hk]; exact World.ownsRow.drew (hr.alloc _)
    have hkb : k < 1000000 := by have := HL.out; omega
    obtain ⟨v', w', hrun, q1, q2, q3⟩ := run_append_own (P := Try.prog) (w := U) w.heap.size 41 41 32 i0 (.agg #[.int .u32 0, .int .i64 0]) 2 16 Try.underlying41 hi hz0 hz1 hz2 rfl (by omega) _ k _ hrow ⟨W.heap.size, 0, none⟩ 1 1 [.int .u32 xa, .int .i64 xn] rfl
      (fun j u hj => by
        match j, hj with
        | 0, hj => injection hj with hj; subst hj; exact hUb.cell 0 (by simp)
        | 1, hj => injection hj with hj; subst hj; exact hUb.cell 1 (by simp)
        | j + 2, hj => cases hj) (by intro u hu; simp at hu; rcases hu with rfl | rfl <;> rfl) (by unfold maxLen; omega) (by omega) (by rw [← hU]; exact Nat.le_trans hB.size (by simp))
    have hUv : Blk U (P + 1) 41 [.slice p k c] := by rw [← hU, ← hk]; exact (hv.alloc _).drew
    have hne := row_ne hrow hUv (by decide)
    have hwv : Blk w' (P + 1) 41 [.slice p k c] := hUv.of_same (q2.block _ hUv.lt (fun e => hne e.symm))
    obtain ⟨p', c', rfl⟩ := row_form q1
    have s0 : w'.cell? ⟨P + 1, 0, none⟩ = some (.slice p k c) := hwv.cell 0 (by simp)
    have sf : w'.frozen? ⟨P + 1, 0, none⟩ = false := hwv.f 0
    have hBU : Below w.heap.size w U := by rw [← hU]; exact (hB.alloc hB.size _).drew
    have hBW' : Below w.heap.size w w' := hBU.grown q2 hBU.size (fun g e => by
      rcases hrow.2 with ⟨h1, _⟩ | ⟨g', cap, cur, h1, hb', _⟩
      · rw [h1] at e; simp [Value.ownBlock] at e
      · rw [h1] at e
        have : g' = g := by simpa [Value.ownBlock] using e
        omega)
    have HF := Lib.hid (show KeepsOthers W (w'.setCell ⟨P + 1, 0, none⟩ (.slice p' (k + 1) c')) ∧ KpX (fun _ => False) w.heap.size W (w'.setCell ⟨P + 1, 0, none⟩ (.slice p' (k + 1) c')) ∧
        (∃ v, Blk (w'.setCell ⟨P + 1, 0, none⟩ (.slice p' (k + 1) c')) (P + 1) 41 [v] ∧ (w'.setCell ⟨P + 1, 0, none⟩ (.slice p' (k + 1) c')).ownsRow w.heap.size 32 2 v (pre ++ [(⟨⟨xa, xn, xv, xg⟩, hx⟩ : MT L)]).length (pcells ((pre ++ [(⟨⟨xa, xn, xv, xg⟩, hx⟩ : MT L)]).map (fun e => tkey e.1))) ∧ (v = .slice none 0 0 ↔ pre ++ [(⟨⟨xa, xn, xv, xg⟩, hx⟩ : MT L)] = [])) ∧ Below w.heap.size w (w'.setCell ⟨P + 1, 0, none⟩ (.slice p' (k + 1) c')) from by
      have hPB : w.heap.size ≤ P + 1 := by have := HP.out; omega
      have hBS := hBW'.setCell (p := ⟨P + 1, 0, none⟩) hPB (.slice p' (k + 1) c')
      have hne' := row_ne q1 hwv (by decide)
      refine ⟨?_, ⟨?_, fun i hi _ => (hBS.block i hi).trans (hB.block i hi).symm⟩, ⟨.slice p' (k + 1) c', hwv.set 0 _, ?_, by simp⟩, hBS⟩
      · have k1 : KeepsOthers W U := by rw [← hU]; exact KeepsOthers.trans (KeepsOthers.alloc W _) ⟨Nat.le_refl _, fun _ _ h _ => h⟩
        refine (k1.trans (KeepsOthers.of_grownBy q2 fun j o e ho => ?_)).trans (KeepsOthers.setCell _ _ _)
        rcases hrow.2 with ⟨h1, _⟩ | ⟨g', cap, cur, h1, _, hgb, _⟩
        · rw [h1] at e; simp [Value.ownBlock] at e
        · rw [h1] at e
          have : g' = j := by simpa [Value.ownBlock] using e
          subst this
          rw [hgb] at ho; cases ho; rfl
      · have h1 : W.heap.size ≤ U.heap.size := by rw [← hU]; simp
        have h2 := q2.size
        simp [World.setCell]; omega
      · rw [List.length_append, List.map_append, hk]
        show World.ownsRow _ _ _ _ _ (k + 1) (pcells (pre.map (fun e => tkey e.1) ++ [(xa, xn)]))
        rw [pcells_snoc]
        exact q1.kept (KeepsOthersGrown w' _ _) (.inr (fun e => hne' e)))
    rw [hk] at r0
    clear hv hr hn hB hlt hg hi hz0 hz1 hz2 hUb hrow q1 q2 q3 hUv hne hwv hBU hBW'
    subst hU
    have r0a := kept (newB W (.cells #[.int .u32 xa, .int .i64 xn] 32)) r0
    have HRUN := Lib.hid hrun
    clear hrun
    gi_wp2
    refine wpIn_region_any (by kernel_rfl) ?_
    change wpAnyIn _ _ _ _ _ _ _ _ _ (World.drew _)
    refine wpAnyIn_ready (rs := [0, 1]) (by kernel_rfl) (by simp) ?_
    refine AllReadyIn.cons rfl (fun K hK => ?_) ?_
    · go_simp
      refine hK _ _ ?_
      clear hK K
      refine wpAnyIn_ready (rs := [1]) (by kernel_rfl) (by simp) ?_
      refine AllReadyIn.cons rfl (fun K hK => ?_) ?_
      · go_simp
        refine hK _ _ ?_
        clear hK K
        refine wpAnyIn_ready (rs := [2]) (by kernel_rfl) (by simp) ?_
        refine AllReadyIn.cons rfl (fun K hK => ?_) ?_
        · go_simp
          refine hK _ _ ?_
          clear hK K
          refine wpAnyIn_ready (rs := [3]) (by kernel_rfl) (by simp) ?_
          refine AllReadyIn.cons rfl (fun K hK => ?_) ?_
          · go_simp
            refine hK _ _ ?_
            clear hK K
            refine wpAnyIn_ready (rs := [4]) (by kernel_rfl) (by simp) ?_
            refine AllReadyIn.cons rfl (fun K hK => ?_) ?_
            · go_simp
              refine hK _ _ ?_
              clear hK K
              refine wpAnyIn_ready (rs := [5]) (by kernel_rfl) (by simp) ?_
              refine AllReadyIn.cons rfl (fun K hK => ?_) ?_
              · go_simp
                refine hK _ _ ?_
                clear hK K
                refine wpAnyIn_ready (rs := [6]) (by kernel_rfl) (by simp) ?_
                refine AllReadyIn.cons rfl (fun K hK => ?_) ?_
                · refine stepIn_append rfl (.tmp 12) (.tmp 17) rfl _ _ rfl rfl _ _ HRUN.out ?_
                  go_simp
                  refine hK _ _ ?_
                  clear hK K
                  refine wpAnyIn_ready (rs := [7]) (by kernel_rfl) (by simp) ?_
                  refine AllReadyIn.cons rfl (fun K hK => ?_) ?_
                  · go_simp
                    refine hK _ _ ?_
                    clear hK K
                    refine wpAnyIn_done (by kernel_rfl) ?_ _
                    gi_wp2
                    exact HF.out
                  exact AllReadyIn.nil
                exact AllReadyIn.nil
              exact AllReadyIn.nil
            exact AllReadyIn.nil
          exact AllReadyIn.nil
        exact AllReadyIn.nil
      exact AllReadyIn.nil
    refine AllReadyIn.cons rfl (fun K hK => ?_) ?_
    · go_simp
      refine hK _ _ ?_
      clear hK K
      refine wpAnyIn_ready (rs := [0, 2]) (by kernel_rfl) (by simp) ?_
      refine AllReadyIn.cons rfl (fun K hK => ?_) ?_
      · go_simp
        refine hK _ _ ?_
        clear hK K
        refine wpAnyIn_ready (rs := [2]) (by kernel_rfl) (by simp) ?_
        refine AllReadyIn.cons rfl (fun K hK => ?_) ?_
        · go_simp
          refine hK _ _ ?_
          clear hK K
          refine wpAnyIn_ready (rs := [3]) (by kernel_rfl) (by simp) ?_
          refine AllReadyIn.cons rfl (fun K hK => ?_) ?_
          · go_simp
            refine hK _ _ ?_
            clear hK K
            refine wpAnyIn_ready (rs := [4]) (by kernel_rfl) (by simp) ?_
            refine AllReadyIn.cons rfl (fun K hK => ?_) ?_
            · go_simp
              refine hK _ _ ?_
              clear hK K
              refine wpAnyIn_ready (rs := [5]) (by kernel_rfl) (by simp) ?_
              refine AllReadyIn.cons rfl (fun K hK => ?_) ?_
              · go_simp
                refine hK _ _ ?_
                clear hK K
                refine wpAnyIn_ready (rs := [6]) (by kernel_rfl) (by simp) ?_
                refine AllReadyIn.cons rfl (fun K hK => ?_) ?_
                · refine stepIn_append rfl (.tmp 12) (.tmp 17) rfl _ _ rfl rfl _ _ HRUN.out ?_
                  go_simp
                  refine hK _ _ ?_
                  clear hK K
                  refine wpAnyIn_ready (rs := [7]) (by kernel_rfl) (by simp) ?_
                  refine AllReadyIn.cons rfl (fun K hK => ?_) ?_
                  · go_simp
                    refine hK _ _ ?_
                    clear hK K
                    refine wpAnyIn_done (by kernel_rfl) ?_ _
                    gi_wp2
                    exact HF.out
                  exact AllReadyIn.nil
                exact AllReadyIn.nil
              exact AllReadyIn.nil
            exact AllReadyIn.nil
          exact AllReadyIn.nil
        exact AllReadyIn.nil
      refine AllReadyIn.cons rfl (fun K hK => ?_) ?_
      · go_simp
        refine hK _ _ ?_
        clear hK K
        refine wpAnyIn_ready (rs := [0, 3]) (by kernel_rfl) (by simp) ?_
        refine AllReadyIn.cons rfl (fun K hK => ?_) ?_
        · go_simp
          refine hK _ _ ?_
          clear hK K
          refine wpAnyIn_ready (rs := [3]) (by kernel_rfl) (by simp) ?_
          refine AllReadyIn.cons rfl (fun K hK => ?_) ?_
          · go_simp
            refine hK _ _ ?_
            clear hK K
            refine wpAnyIn_ready (rs := [4]) (by kernel_rfl) (by simp) ?_
            refine AllReadyIn.cons rfl (fun K hK => ?_) ?_
            · go_simp
              refine hK _ _ ?_
              clear hK K
              refine wpAnyIn_ready (rs := [5]) (by kernel_rfl) (by simp) ?_
              refine AllReadyIn.cons rfl (fun K hK => ?_) ?_
              · go_simp
                refine hK _ _ ?_
                clear hK K
                refine wpAnyIn_ready (rs := [6]) (by kernel_rfl) (by simp) ?_
                refine AllReadyIn.cons rfl (fun K hK => ?_) ?_
                · refine stepIn_append rfl (.tmp 12) (.tmp 17) rfl _ _ rfl rfl _ _ HRUN.out ?_
                  go_simp
                  refine hK _ _ ?_
                  clear hK K
                  refine wpAnyIn_ready (rs := [7]) (by kernel_rfl) (by simp) ?_
                  refine AllReadyIn.cons rfl (fun K hK => ?_) ?_
                  · go_simp
                    refine hK _ _ ?_
                    clear hK K
                    refine wpAnyIn_done (by kernel_rfl) ?_ _
                    gi_wp2
                    exact HF.out
                  exact AllReadyIn.nil
                exact AllReadyIn.nil
              exact AllReadyIn.nil
            exact AllReadyIn.nil
          exact AllReadyIn.nil
        refine AllReadyIn.cons rfl (fun K hK => ?_) ?_
        · go_simp
          refine hK _ _ ?_
          clear hK K
          refine wpAnyIn_ready (rs := [0, 4]) (by kernel_rfl) (by simp) ?_
          refine AllReadyIn.cons rfl (fun K hK => ?_) ?_
          · go_simp
            refine hK _ _ ?_
            clear hK K
            refine wpAnyIn_ready (rs := [4]) (by kernel_rfl) (by simp) ?_
            refine AllReadyIn.cons rfl (fun K hK => ?_) ?_
            · go_simp
              refine hK _ _ ?_
              clear hK K
              refine wpAnyIn_ready (rs := [5]) (by kernel_rfl) (by simp) ?_
              refine AllReadyIn.cons rfl (fun K hK => ?_) ?_
              · go_simp
                refine hK _ _ ?_
                clear hK K
                refine wpAnyIn_ready (rs := [6]) (by kernel_rfl) (by simp) ?_
                refine AllReadyIn.cons rfl (fun K hK => ?_) ?_
                · refine stepIn_append rfl (.tmp 12) (.tmp 17) rfl _ _ rfl rfl _ _ HRUN.out ?_
                  go_simp
                  refine hK _ _ ?_
                  clear hK K
                  refine wpAnyIn_ready (rs := [7]) (by kernel_rfl) (by simp) ?_
                  refine AllReadyIn.cons rfl (fun K hK => ?_) ?_
                  · go_simp
                    refine hK _ _ ?_
                    clear hK K
                    refine wpAnyIn_done (by kernel_rfl) ?_ _
                    gi_wp2
                    exact HF.out
                  exact AllReadyIn.nil
                exact AllReadyIn.nil
              exact AllReadyIn.nil
            exact AllReadyIn.nil
          refine AllReadyIn.cons rfl (fun K hK => ?_) ?_
          · go_simp
            refine hK _ _ ?_
            clear hK K
            refine wpAnyIn_ready (rs := [0, 5]) (by kernel_rfl) (by simp) ?_
            refine AllReadyIn.cons rfl (fun K hK => ?_) ?_
            · go_simp
              refine hK _ _ ?_
              clear hK K
              refine wpAnyIn_ready (rs := [5]) (by kernel_rfl) (by simp) ?_
              refine AllReadyIn.cons rfl (fun K hK => ?_) ?_
              · go_simp
                refine hK _ _ ?_
                clear hK K
                refine wpAnyIn_ready (rs := [6]) (by kernel_rfl) (by simp) ?_
                refine AllReadyIn.cons rfl (fun K hK => ?_) ?_
                · refine stepIn_append rfl (.tmp 12) (.tmp 17) rfl _ _ rfl rfl _ _ HRUN.out ?_
                  go_simp
                  refine hK _ _ ?_
                  clear hK K
                  refine wpAnyIn_ready (rs := [7]) (by kernel_rfl) (by simp) ?_
                  refine AllReadyIn.cons rfl (fun K hK => ?_) ?_
                  · go_simp
                    refine hK _ _ ?_
                    clear hK K
                    refine wpAnyIn_done (by kernel_rfl) ?_ _
                    gi_wp2
                    exact HF.out
                  exact AllReadyIn.nil
                exact AllReadyIn.nil
              exact AllReadyIn.nil
            refine AllReadyIn.cons rfl (fun K hK => ?_) ?_
            · go_simp
              refine hK _ _ ?_
              clear hK K
              refine wpAnyIn_ready (rs := [0]) (by kernel_rfl) (by simp) ?_
              refine AllReadyIn.cons rfl (fun K hK => ?_) ?_
              · go_simp
                refine hK _ _ ?_
                clear hK K
                refine wpAnyIn_ready (rs := [6]) (by kernel_rfl) (by simp) ?_
                refine AllReadyIn.cons rfl (fun K hK => ?_) ?_
                · refine stepIn_append rfl (.tmp 12) (.tmp 17) rfl _ _ rfl rfl _ _ HRUN.out ?_
                  go_simp
                  refine hK _ _ ?_
                  clear hK K
                  refine wpAnyIn_ready (rs := [7]) (by kernel_rfl) (by simp) ?_
                  refine AllReadyIn.cons rfl (fun K hK => ?_) ?_
                  · go_simp
                    refine hK _ _ ?_
                    clear hK K
                    refine wpAnyIn_done (by kernel_rfl) ?_ _
                    gi_wp2
                    exact HF.out
                  exact AllReadyIn.nil
                exact AllReadyIn.nil
              exact AllReadyIn.nil
            exact AllReadyIn.nil
          exact AllReadyIn.nil
        exact AllReadyIn.nil
      exact AllReadyIn.nil
    exact AllReadyIn.nil
  case done =>
    rintro D ys W hD rfl ⟨⟨v, hv, hr, hn⟩, hB⟩ hK
    obtain ⟨p, c, rfl⟩ := row_form hr
    have r0 : W.cell? ⟨P + 1, 0, none⟩ = some (.slice p (subA L x d).length c) := hv.cell 0 (by simp)
    have HF := Lib.hid (show W.ownsRow w.heap.size 32 2 (.slice p (subA L x d).length c) (subA L x d).length (pcells ((subA L x d).map (fun e => tkey e.1))) ∧ Below w.heap.size w W from ⟨hr, hB⟩)
    obtain ⟨z, hz⟩ : ∃ z, (subA L x d).length = z := ⟨_, rfl⟩
    have HZ := Lib.hid hz
    rw [hz] at r0 HF
    clear hv hr hn hB hz
    gi_wp2
    refine ⟨by simp, .inl ⟨_, _, rfl, run_takeDeferred hK, ?_⟩⟩
    refine ⟨_, results_tmp rfl _ _ _, (subA L x d).map (fun e => tkey e.1), p, c, HSUB.out, ?_, ?_, ?_⟩
    · rw [List.length_map, HZ.out]; rfl
    · rw [List.length_map, HZ.out]
      exact row_own HF.out.1 (grownBy_putObj' _ D (.deferred none)) (fun r e => by cases e; exact ⟨_, hK, rfl⟩)
    · exact HF.out.2.trans (belowK_b (w := w) (Nat.le_refl _) _ D _ _ (Nat.le_trans HAL2.out.1.size hD) hK rfl rfl)
  case stop =>
    rintro D c pre W hD _ h _
    exact h.elim
end Go.Proofs.Ytipecocalmmmbaa
