/- trie: Longest at string. -/
import Derived.Test.YtipecocalmmmbaaT6s
namespace Go.Proofs.Ytipecocalmmmbaa
open Go.RowKit Go.Shelf
set_option linter.unusedVariables false
set_option linter.unusedSimpArgs false

attribute [local go_sem] Oper.semAt_some
attribute [local go_sem, local simp] wide_fn
attribute [local go_sem] encPN encMT

set_option maxRecDepth 100000 in
set_option maxHeartbeats 8000000 in
theorem longest_str (w : World) (B t r : Nat) (s : Int) (N : Int → Nat → Option Nat) (L : List TE) (h : TrAt TRs NDs THs w B t r s N L) (hval : ∀ e ∈ L, ∃ x, e.v = .string x) (a : Int) (a0 : 0 ≤ a) (a1 : a < 4294967296) :
    Calls Try.prog 30 #[.pointer (some ⟨t, 0, none⟩), .int .u32 a] w fun e w' => e = .returned (.tuple #[.agg (lP (lngTo L a 33)).toArray, lV (.string ⟨#[]⟩) (lngTo L a 33), .bool (lngTo L a 33).isSome]) ∧ Below w.heap.size w w' := by
  refine (callsIn_wide (n := 6)).1 ?_
  have hdd : ∀ k : Nat, (Fence.wide.depth.isSome = true → 1 ≤ k) := fun k h => by cases h
  obtain ⟨P, hP⟩ : ∃ P, w.heap.size = P := ⟨_, rfl⟩
  obtain ⟨V, hV⟩ : ∃ V, ((w.alloc (.cells #[.int .u32 0, .int .i64 0] 32)).alloc (.cells #[.string ⟨#[]⟩] 9)).alloc (.cells #[.bool false] 4) = V := ⟨_, rfl⟩
  have hB : Below w.heap.size w V := by rw [← hV]; exact (two_below w _ _).alloc (by simp; omega) _
  have hL0 : LnS V P 9 (.string ⟨#[]⟩) none := by
    rw [← hV, ← hP]
    refine ⟨((Blk.new w 32 [.int .u32 0, .int .i64 0]).alloc _).alloc _, ?_, ?_⟩
    · have := (Blk.new (w.alloc (.cells #[.int .u32 0, .int .i64 0] 32)) 9 [.string ⟨#[]⟩]).alloc (.cells #[.bool false] 4)
      rw [sz_alloc] at this; exact this
    · have := Blk.new ((w.alloc (.cells #[.int .u32 0, .int .i64 0] 32)).alloc (.cells #[.string ⟨#[]⟩] 9)) 4 [.bool false]
      rw [sz_alloc, sz_alloc] at this; exact this
  have HV := Lib.hid hV
  have HP := Lib.hid hP
  have HALL := Lib.hid (show Below w.heap.size w V ∧ LnS V P 9 (.string ⟨#[]⟩) none ∧ TrAt TRs NDs THs V B t r s N L from ⟨hB, hL0, h.below hB⟩)
  have HMK := Lib.hid (make_any a 32 V)
  rw [mk_32 a0 a1, show cl 32 = 32 from by decide] at HMK
  have HH := Lib.hid (show TrAt TRs NDs THs w B t r s N L from h)
  have HVAL := Lib.hid hval
  clear hV hP hB hL0 h hval
  refine callsIn_of_wp_marks Try.func30 rfl trivial ?_ rfl
  simp only [Try.ntmps30, List.size_toArray, List.length_cons, List.length_nil, Nat.reduceAdd, Nat.reduceSub, Array.replicate_succ, Array.replicate_zero, List.push_toArray, List.append_toArray, List.nil_append, List.cons_append]
  gi_wp2_with fail
  rw [HV.out, HP.out]
  refine (callsIn_wide.2 HMK.out).mono ?_
  rintro e w1 ⟨rfl, hb⟩
  have HAL1 := Lib.hid (show Below w.heap.size w w1 ∧ LnS w1 P 9 (.string ⟨#[]⟩) none ∧ TrAt TRs NDs THs w1 B t r s N L from ⟨HALL.out.1.trans (hb.mono HALL.out.1.size), HALL.out.2.1.below (w := w) hb, HALL.out.2.2.below hb⟩)
  clear hb
  gi_wp2_with fail
  refine (callsIn_wide.2 (along_str w1 t a 32)).mono ?_
  obtain ⟨Bt, hBt⟩ : ∃ X, w1.heap.size = X := ⟨_, rfl⟩
  obtain ⟨Bp, hBp⟩ : ∃ X, X = Bt + 1 := ⟨_, rfl⟩
  obtain ⟨V2, hV2⟩ : ∃ V, (w1.alloc (.cells #[.pointer (some ⟨t, 0, none⟩)] 64)).alloc (.cells #[.int .u32 a, .int .i64 32] 32) = V := ⟨_, rfl⟩
  have hB2 : Below w1.heap.size w1 V2 := by rw [← hV2]; exact two_below _ _ _
  have hbt : Blk V2 Bt 64 [.pointer (some ⟨t, 0, none⟩)] := by rw [← hV2, ← hBt]; exact (Blk.new w1 64 [.pointer (some ⟨t, 0, none⟩)]).alloc _
  have hbp : Blk V2 Bp 32 [.int .u32 a, .int .i64 32] := by
    have := Blk.new (w1.alloc (.cells #[.pointer (some ⟨t, 0, none⟩)] 64)) 32 [.int .u32 a, .int .i64 32]
    rw [sz_alloc, hBt, ← hBp] at this
    rw [← hV2]; exact this
  have hsz : V2.heap.size = Bp + 1 := by rw [← hV2, sz_alloc, sz_alloc, hBt, hBp]
  have HAL2 := Lib.hid (show Below w.heap.size w V2 ∧ LnS V2 P 9 (.string ⟨#[]⟩) none ∧ TrAt TRs NDs THs V2 B t r s N L from ⟨HAL1.out.1.trans (hB2.mono HAL1.out.1.size), HAL1.out.2.1.below (w := w) hB2, HAL1.out.2.2.below hB2⟩)
  have HPl := Lib.hid (show P + 2 < Bt from by rw [← hBt]; exact HAL1.out.2.1.b.lt)
  have HAl := Lib.hid (show AlS TRs NDs THs V2 B t r s N L a 32 Bt Bp (fun k => P ≤ k ∧ k ≤ P + 2) (Bp + 1) from ⟨HAL2.out.2.2, hbt.cell 0 (by simp), hbp, fun k hk => by
    rcases hk with hk | rfl
    · have h1 := HAL1.out.2.2.inLt hk
      have h2 := HH.out.inLt hk
      have h3 := HP.out
      refine ⟨by omega, ?_⟩
      show ¬ (P ≤ k ∧ k ≤ P + 2)
      omega
    · refine ⟨by omega, ?_⟩
      show ¬ (P ≤ k ∧ k ≤ P + 2)
      have := HPl.out; omega⟩)
  rintro e w2 ⟨rfl, rfl⟩
  rw [hV2, hBt, ← hBp]
  have HSZ := Lib.hid hsz
  clear hB2 hbt hbp hsz hV2 hBt
  have HBP := Lib.hid hBp
  clear hBp
  gi_wp2_with fail
  refine wpIn_rangeFunc_ownF rfl (by omega) (gf := 65) (lb := #[.pointer (some ⟨Bt, 0, none⟩), .pointer (some ⟨Bp, 0, none⟩)]) rfl trivial (enters_of Try.func65 (by kernel_rfl) rfl)
    (along1_str _ V2 B t r s N L a 32 Bt Bp (fun k => P ≤ k ∧ k ≤ P + 2) (Bp + 1) HAl.out (by omega) a0 a1) kpX_t (kpX_b (by rw [HSZ.out]; exact Nat.le_refl _)) (Below.refl _ _) (fun _ => rfl)
    (fun pre W => LnS W P 9 (.string ⟨#[]⟩) (lngL L pre) ∧ Below w.heap.size w W)
    (fun _ _ _ => False)
    ?hI ?hIx ?h0 ?a₁ ?assign ?body ?done ?stop
  case hI =>
    intro s A C row hs hg hr
    exact ⟨hs.1.own hg (fun r e => (hr r e).2), hs.2.grown hg hs.2.size (fun k e => Nat.le_trans HAL2.out.1.size (hr k e).1)⟩
  case hIx => intro c s A C row hs; exact hs.elim
  case h0 => exact ⟨HAL2.out.2.1, HAL2.out.1⟩
  case assign =>
    intro l x W K hK
    gi_wp2
    exact hK
  case body =>
    rintro l pre ⟨⟨d, b⟩, hx⟩ W ⟨hL, hB⟩ _
    have hsn := lngL_snoc L pre (⟨(d, b), hx⟩ : PN N a)
    dsimp only at hsn
    have hnb := (HH.out.node _ _ _ hx.2).below hB (HH.out.node _ _ _ hx.2).lt
    have b0 : W.cell? ⟨b, 0, none⟩ = some (optP ((atT L (mk a d) d).map TE.g)) := hnb.cell 0 (by simp)
    rcases hat : atT L (mk a d) d with _ | e
    · rw [hat] at b0 hsn
      change W.cell? ⟨b, 0, none⟩ = some (.pointer none) at b0
      have HF := Lib.hid (show LnS W P 9 (.string ⟨#[]⟩) (lngL L (pre ++ [(⟨(d, b), hx⟩ : PN N a)])) ∧ Below w.heap.size w W from ⟨by rw [hsn]; exact hL, hB⟩)
      clear hsn hnb hat hL hB
      gi_wp2
      exact ⟨KeepsOthers.refl _, KpX.refl _ _ _, HF.out⟩
    · rw [hat] at b0 hsn
      obtain ⟨he, hea, hen⟩ := atT_some hat
      have hg := (HH.out.thing e he).2.1.below hB (HH.out.thing e he).2.1.lt
      obtain ⟨ex, hex⟩ := HVAL.out e he
      obtain ⟨ea, en, ev, eg⟩ := e
      obtain rfl : ev = .string ex := hex
      change W.cell? ⟨b, 0, none⟩ = some (.pointer (some ⟨eg, 0, none⟩)) at b0
      dsimp only at hg
      have g0 : W.cell? ⟨eg, 0, none⟩ = some (.int .u32 ea) := hg.cell 0 (by simp)
      have g1 : W.cell? ⟨eg, 1, none⟩ = some (.int .i64 en) := hg.cell 1 (by simp)
      have g2 : W.cell? ⟨eg, 2, none⟩ = some (.string ex) := hg.cell 2 (by simp)
      obtain ⟨q, hq⟩ : ∃ q, lngL L pre = q := ⟨_, rfl⟩
      rw [hq] at hL
      obtain ⟨u0, u1, hu⟩ : ∃ u0 u1, lP q = [u0, u1] := by cases q <;> exact ⟨_, _, rfl⟩
      have hLp := hL.p
      rw [hu] at hLp
      have P0 : W.cell? ⟨P, 0, none⟩ = some u0 := hLp.cell 0 (by simp)
      have P1 : W.cell? ⟨P, 1, none⟩ = some u1 := hLp.cell 1 (by simp)
      have F0 := hLp.f 0
      have F1 := hLp.f 1
      obtain ⟨v0, hv0⟩ : ∃ v, lV (.string ⟨#[]⟩) q = v := ⟨_, rfl⟩
      have hLx := hL.x
      rw [hv0] at hLx
      have X0 : W.cell? ⟨P + 1, 0, none⟩ = some v0 := hLx.cell 0 (by simp)
      have FX := hLx.f 0
      have B0 : W.cell? ⟨P + 2, 0, none⟩ = some (.bool q.isSome) := hL.b.cell 0 (by simp)
      have FB := hL.b.f 0
      have HLL := Lib.hid (show Blk W P 32 [u0, u1] ∧ Blk W (P + 1) 9 [v0] ∧ Blk W (P + 2) 4 [.bool q.isSome] ∧ Below w.heap.size w W from ⟨hLp, hLx, hL.b, hB⟩)
      have hne : b ≠ P ∧ eg ≠ P := by
        have h1 := HH.out.inLt (.inr ⟨_, _, hx.2⟩)
        have h2 := (HH.out.thing _ he).2.1.lt
        have h3 := HP.out
        dsimp only at h1 h2
        omega
      have HPB := HP.out
      obtain ⟨W4, hW4⟩ : ∃ W4, (((W.setCell ⟨P, 0, none⟩ (.int .u32 ea)).setCell ⟨P, 1, none⟩ (.int .i64 en)).setCell ⟨P + 1, 0, none⟩ (.string ex)).setCell ⟨P + 1 + 1, 0, none⟩ (.bool true) = W4 := ⟨_, rfl⟩
      have HF := Lib.hid (show KeepsOthers W W4.drew ∧ KpX (fun k => P ≤ k ∧ k ≤ P + 2) (Bp + 1) W W4.drew ∧ LnS W4.drew P 9 (.string ⟨#[]⟩) (lngL L (pre ++ [(⟨(d, b), hx⟩ : PN N a)])) ∧ Below w.heap.size w W4.drew from by
        rw [hsn, ← hW4]
        refine ⟨?_, ?_, ⟨?_, ?_, ?_⟩, ?_⟩
        · exact ((((KeepsOthers.setCell W _ _).trans (KeepsOthers.setCell _ _ _)).trans (KeepsOthers.setCell _ _ _)).trans (KeepsOthers.setCell _ _ _)).trans (KeepsOthers.drew _)
        · exact ((((KpX.refl _ _ W).setCell (p := ⟨P, 0, none⟩) (.inl ⟨Nat.le_refl _, by show P ≤ P + 2; omega⟩) _).setCell (p := ⟨P, 1, none⟩) (.inl ⟨Nat.le_refl _, by show P ≤ P + 2; omega⟩) _).setCell (p := ⟨P + 1, 0, none⟩) (.inl ⟨by show P ≤ P + 1; omega, by show P + 1 ≤ P + 2; omega⟩) _).setCell (p := ⟨P + 1 + 1, 0, none⟩) (.inl ⟨by show P ≤ P + 1 + 1; omega, by show P + 1 + 1 ≤ P + 2; omega⟩) _
        · exact (((hLp.set 0 _).set 1 _).setOther (by show P ≠ P + 1; omega) _).setOther (by show P ≠ P + 1 + 1; omega) _
        · exact (((hLx.setOther (by show P + 1 ≠ P; omega) _).setOther (by show P + 1 ≠ P; omega) _).set 0 _).setOther (by show P + 1 ≠ P + 1 + 1; omega) _
        · exact (((hL.b.setOther (by show P + 2 ≠ P; omega) _).setOther (by show P + 2 ≠ P; omega) _).setOther (by show P + 2 ≠ P + 1; omega) _).set 0 _
        · exact ((((hB.setCell (p := ⟨P, 0, none⟩) (by show w.heap.size ≤ P; omega) _).setCell (p := ⟨P, 1, none⟩) (by show w.heap.size ≤ P; omega) _).setCell (p := ⟨P + 1, 0, none⟩) (by show w.heap.size ≤ P + 1; omega) _).setCell (p := ⟨P + 1 + 1, 0, none⟩) (by show w.heap.size ≤ P + 1 + 1; omega) _).drew)
      subst hW4
      clear hL hLp hLx hg hnb hat hea hen he hB hsn hq hu hv0
      gi_wp2
      refine wpIn_region_any (by kernel_rfl) (wpAnyIn_round (.inr ⟨l, rfl⟩) (fun i o ho => (List.all_eq_true.1 (show List.all _ noDefer = true by kernel_rfl)) o (by rw [List.getElem?_toArray] at ho; exact List.mem_of_getElem? ho)) _ _ _ _ ?_)
      change wpAny _ _ _ _ _ _ _ (World.drew W)
      refine wpAny_take (i := 0) (v := ?_) rfl (by kernel_rfl) (by kernel_rfl) (by kernel_rfl) (fun _ _ _ h => h) (Or.inl ⟨by rfl, fun w => by go_simp; first | done | with_reducible rfl⟩) ?_
      refine wpAny_take (i := 1) (v := ?_) rfl (by kernel_rfl) (by kernel_rfl) (by kernel_rfl) (fun _ _ _ h => h) (Or.inl ⟨by rfl, fun w => by go_simp; first | done | with_reducible rfl⟩) ?_
      refine wpAny_take (i := 2) (v := ?_) rfl (by kernel_rfl) (by kernel_rfl) (by kernel_rfl) (fun _ _ _ h => h) (Or.inl ⟨by rfl, fun w => by go_simp; first | done | with_reducible rfl⟩) ?_
      refine wpAny_take (i := 7) (v := ?_) rfl (by kernel_rfl) (by kernel_rfl) (by kernel_rfl) (fun _ _ _ h => h) (Or.inl ⟨by rfl, fun w => by go_simp; first | done | with_reducible rfl⟩) ?_
      refine wpAny_take (i := 8) (v := ?_) rfl (by kernel_rfl) (by kernel_rfl) (by kernel_rfl) (fun _ _ _ h => h) (Or.inl ⟨by rfl, fun w => by go_simp; first | done | with_reducible rfl⟩) ?_
      refine wpAny_take (i := 9) (v := ?_) rfl (by kernel_rfl) (by kernel_rfl) (by kernel_rfl) (fun _ _ _ h => h) (Or.inl ⟨by rfl, fun w => by go_simp; first | done | with_reducible rfl⟩) ?_
      refine wpAny_ready (rs := [3, 10]) (by kernel_rfl) (by simp) ?_
      refine AllReady.cons rfl (fun K hK => ?_) ?_
      · go_simp
        refine hK _ _ ?_
        clear hK K
        refine wpAny_take (i := 4) (v := ?_) rfl (by kernel_rfl) (by kernel_rfl) (by kernel_rfl) (fun _ _ _ h => h) (Or.inl ⟨by rfl, fun w => by go_simp; first | done | with_reducible rfl⟩) ?_
        refine wpAny_take (i := 5) (v := ?_) rfl (by kernel_rfl) (by kernel_rfl) (by kernel_rfl) (fun _ _ _ h => h) (Or.inl ⟨by rfl, fun w => by go_simp; first | done | with_reducible rfl⟩) ?_
        refine wpAny_ready (rs := [6, 10]) (by kernel_rfl) (by simp) ?_
        refine AllReady.cons rfl (fun K hK => ?_) ?_
        · go_simp
          refine hK _ _ ?_
          clear hK K
          refine wpAny_ready (rs := [10, 14]) (by kernel_rfl) (by simp) ?_
          refine AllReady.cons rfl (fun K hK => ?_) ?_
          · go_simp
            refine hK _ _ ?_
            clear hK K
            refine wpAny_take (i := 11) (v := ?_) rfl (by kernel_rfl) (by kernel_rfl) (by kernel_rfl) (fun _ _ _ h => h) (Or.inl ⟨by rfl, fun w => by go_simp; first | done | with_reducible rfl⟩) ?_
            refine wpAny_take (i := 12) (v := ?_) rfl (by kernel_rfl) (by kernel_rfl) (by kernel_rfl) (fun _ _ _ h => h) (Or.inl ⟨by rfl, fun w => by go_simp; first | done | with_reducible rfl⟩) ?_
            refine wpAny_ready (rs := [13, 14]) (by kernel_rfl) (by simp) ?_
            refine AllReady.cons rfl (fun K hK => ?_) ?_
            · go_simp
              refine hK _ _ ?_
              clear hK K
              refine wpAny_ready (rs := [14]) (by kernel_rfl) (by simp) ?_
              refine AllReady.cons rfl (fun K hK => ?_) ?_
              · go_simp
                refine hK _ _ ?_
                clear hK K
                refine wpAny_ready (rs := [15]) (by kernel_rfl) (by simp) ?_
                refine AllReady.cons rfl (fun K hK => ?_) ?_
                · go_simp
                  refine hK _ _ ?_
                  clear hK K
                  refine wpAny_ready (rs := [16]) (by kernel_rfl) (by simp) ?_
                  refine AllReady.cons rfl (fun K hK => ?_) ?_
                  · go_simp
                    refine hK _ _ ?_
                    clear hK K
                    refine wpAny_done (by kernel_rfl) ?_ _
                    exact HF.out
                  exact AllReady.nil
                exact AllReady.nil
              exact AllReady.nil
            refine AllReady.cons rfl (fun K hK => ?_) ?_
            · go_simp
              refine hK _ _ ?_
              clear hK K
              refine wpAny_ready (rs := [13]) (by kernel_rfl) (by simp) ?_
              refine AllReady.cons rfl (fun K hK => ?_) ?_
              · go_simp
                refine hK _ _ ?_
                clear hK K
                refine wpAny_ready (rs := [15]) (by kernel_rfl) (by simp) ?_
                refine AllReady.cons rfl (fun K hK => ?_) ?_
                · go_simp
                  refine hK _ _ ?_
                  clear hK K
                  refine wpAny_ready (rs := [16]) (by kernel_rfl) (by simp) ?_
                  refine AllReady.cons rfl (fun K hK => ?_) ?_
                  · go_simp
                    refine hK _ _ ?_
                    clear hK K
                    refine wpAny_done (by kernel_rfl) ?_ _
                    exact HF.out
                  exact AllReady.nil
                exact AllReady.nil
              exact AllReady.nil
            exact AllReady.nil
          refine AllReady.cons rfl (fun K hK => ?_) ?_
          · go_simp
            refine hK _ _ ?_
            clear hK K
            refine wpAny_ready (rs := [10]) (by kernel_rfl) (by simp) ?_
            refine AllReady.cons rfl (fun K hK => ?_) ?_
            · go_simp
              refine hK _ _ ?_
              clear hK K
              refine wpAny_take (i := 11) (v := ?_) rfl (by kernel_rfl) (by kernel_rfl) (by kernel_rfl) (fun _ _ _ h => h) (Or.inl ⟨by rfl, fun w => by go_simp; first | done | with_reducible rfl⟩) ?_
              refine wpAny_take (i := 12) (v := ?_) rfl (by kernel_rfl) (by kernel_rfl) (by kernel_rfl) (fun _ _ _ h => h) (Or.inl ⟨by rfl, fun w => by go_simp; first | done | with_reducible rfl⟩) ?_
              refine wpAny_ready (rs := [13]) (by kernel_rfl) (by simp) ?_
              refine AllReady.cons rfl (fun K hK => ?_) ?_
              · go_simp
                refine hK _ _ ?_
                clear hK K
                refine wpAny_ready (rs := [15]) (by kernel_rfl) (by simp) ?_
                refine AllReady.cons rfl (fun K hK => ?_) ?_
                · go_simp
                  refine hK _ _ ?_
                  clear hK K
                  refine wpAny_ready (rs := [16]) (by kernel_rfl) (by simp) ?_
                  refine AllReady.cons rfl (fun K hK => ?_) ?_
                  · go_simp
                    refine hK _ _ ?_
                    clear hK K
                    refine wpAny_done (by kernel_rfl) ?_ _
                    exact HF.out
                  exact AllReady.nil
                exact AllReady.nil
              exact AllReady.nil
            exact AllReady.nil
          exact AllReady.nil
        refine AllReady.cons rfl (fun K hK => ?_) ?_
        · go_simp
          refine hK _ _ ?_
          clear hK K
          refine wpAny_take (i := 11) (v := ?_) rfl (by kernel_rfl) (by kernel_rfl) (by kernel_rfl) (fun _ _ _ h => h) (Or.inl ⟨by rfl, fun w => by go_simp; first | done | with_reducible rfl⟩) ?_
          refine wpAny_take (i := 12) (v := ?_) rfl (by kernel_rfl) (by kernel_rfl) (by kernel_rfl) (fun _ _ _ h => h) (Or.inl ⟨by rfl, fun w => by go_simp; first | done | with_reducible rfl⟩) ?_
          refine wpAny_ready (rs := [6, 13]) (by kernel_rfl) (by simp) ?_
          refine AllReady.cons rfl (fun K hK => ?_) ?_
          · go_simp
            refine hK _ _ ?_
            clear hK K
            refine wpAny_ready (rs := [13, 14]) (by kernel_rfl) (by simp) ?_
            refine AllReady.cons rfl (fun K hK => ?_) ?_
            · go_simp
              refine hK _ _ ?_
              clear hK K
              refine wpAny_ready (rs := [14]) (by kernel_rfl) (by simp) ?_
              refine AllReady.cons rfl (fun K hK => ?_) ?_
              · go_simp
                refine hK _ _ ?_
                clear hK K
                refine wpAny_ready (rs := [15]) (by kernel_rfl) (by simp) ?_
                refine AllReady.cons rfl (fun K hK => ?_) ?_
                · go_simp
                  refine hK _ _ ?_
                  clear hK K
                  refine wpAny_ready (rs := [16]) (by kernel_rfl) (by simp) ?_
                  refine AllReady.cons rfl (fun K hK => ?_) ?_
                  · go_simp
                    refine hK _ _ ?_
                    clear hK K
                    refine wpAny_done (by kernel_rfl) ?_ _
                    exact HF.out
                  exact AllReady.nil
                exact AllReady.nil
              exact AllReady.nil
            refine AllReady.cons rfl (fun K hK => ?_) ?_
            · go_simp
              refine hK _ _ ?_
              clear hK K
              refine wpAny_ready (rs := [13]) (by kernel_rfl) (by simp) ?_
              refine AllReady.cons rfl (fun K hK => ?_) ?_
              · go_simp
                refine hK _ _ ?_
                clear hK K
                refine wpAny_ready (rs := [15]) (by kernel_rfl) (by simp) ?_
                refine AllReady.cons rfl (fun K hK => ?_) ?_
                · go_simp
                  refine hK _ _ ?_
                  clear hK K
                  refine wpAny_ready (rs := [16]) (by kernel_rfl) (by simp) ?_
                  refine AllReady.cons rfl (fun K hK => ?_) ?_
                  · go_simp
                    refine hK _ _ ?_
                    clear hK K
                    refine wpAny_done (by kernel_rfl) ?_ _
                    exact HF.out
                  exact AllReady.nil
                exact AllReady.nil
              exact AllReady.nil
            exact AllReady.nil
          refine AllReady.cons rfl (fun K hK => ?_) ?_
          · go_simp
            refine hK _ _ ?_
            clear hK K
            refine wpAny_ready (rs := [6]) (by kernel_rfl) (by simp) ?_
            refine AllReady.cons rfl (fun K hK => ?_) ?_
            · go_simp
              refine hK _ _ ?_
              clear hK K
              refine wpAny_ready (rs := [14]) (by kernel_rfl) (by simp) ?_
              refine AllReady.cons rfl (fun K hK => ?_) ?_
              · go_simp
                refine hK _ _ ?_
                clear hK K
                refine wpAny_ready (rs := [15]) (by kernel_rfl) (by simp) ?_
                refine AllReady.cons rfl (fun K hK => ?_) ?_
                · go_simp
                  refine hK _ _ ?_
                  clear hK K
                  refine wpAny_ready (rs := [16]) (by kernel_rfl) (by simp) ?_
                  refine AllReady.cons rfl (fun K hK => ?_) ?_
                  · go_simp
                    refine hK _ _ ?_
                    clear hK K
                    refine wpAny_done (by kernel_rfl) ?_ _
                    exact HF.out
                  exact AllReady.nil
                exact AllReady.nil
              exact AllReady.nil
            exact AllReady.nil
          exact AllReady.nil
        exact AllReady.nil
      refine AllReady.cons rfl (fun K hK => ?_) ?_
      · go_simp
        refine hK _ _ ?_
        clear hK K
        refine wpAny_take (i := 11) (v := ?_) rfl (by kernel_rfl) (by kernel_rfl) (by kernel_rfl) (fun _ _ _ h => h) (Or.inl ⟨by rfl, fun w => by go_simp; first | done | with_reducible rfl⟩) ?_
        refine wpAny_take (i := 12) (v := ?_) rfl (by kernel_rfl) (by kernel_rfl) (by kernel_rfl) (fun _ _ _ h => h) (Or.inl ⟨by rfl, fun w => by go_simp; first | done | with_reducible rfl⟩) ?_
        refine wpAny_ready (rs := [3, 13]) (by kernel_rfl) (by simp) ?_
        refine AllReady.cons rfl (fun K hK => ?_) ?_
        · go_simp
          refine hK _ _ ?_
          clear hK K
          refine wpAny_take (i := 4) (v := ?_) rfl (by kernel_rfl) (by kernel_rfl) (by kernel_rfl) (fun _ _ _ h => h) (Or.inl ⟨by rfl, fun w => by go_simp; first | done | with_reducible rfl⟩) ?_
          refine wpAny_take (i := 5) (v := ?_) rfl (by kernel_rfl) (by kernel_rfl) (by kernel_rfl) (fun _ _ _ h => h) (Or.inl ⟨by rfl, fun w => by go_simp; first | done | with_reducible rfl⟩) ?_
          refine wpAny_ready (rs := [6, 13]) (by kernel_rfl) (by simp) ?_
          refine AllReady.cons rfl (fun K hK => ?_) ?_
          · go_simp
            refine hK _ _ ?_
            clear hK K
            refine wpAny_ready (rs := [13, 14]) (by kernel_rfl) (by simp) ?_
            refine AllReady.cons rfl (fun K hK => ?_) ?_
            · go_simp
              refine hK _ _ ?_
              clear hK K
              refine wpAny_ready (rs := [14]) (by kernel_rfl) (by simp) ?_
              refine AllReady.cons rfl (fun K hK => ?_) ?_
              · go_simp
                refine hK _ _ ?_
                clear hK K
                refine wpAny_ready (rs := [15]) (by kernel_rfl) (by simp) ?_
                refine AllReady.cons rfl (fun K hK => ?_) ?_
                · go_simp
                  refine hK _ _ ?_
                  clear hK K
                  refine wpAny_ready (rs := [16]) (by kernel_rfl) (by simp) ?_
                  refine AllReady.cons rfl (fun K hK => ?_) ?_
                  · go_simp
                    refine hK _ _ ?_
                    clear hK K
                    refine wpAny_done (by kernel_rfl) ?_ _
                    exact HF.out
                  exact AllReady.nil
                exact AllReady.nil
              exact AllReady.nil
            refine AllReady.cons rfl (fun K hK => ?_) ?_
            · go_simp
              refine hK _ _ ?_
              clear hK K
              refine wpAny_ready (rs := [13]) (by kernel_rfl) (by simp) ?_
              refine AllReady.cons rfl (fun K hK => ?_) ?_
              · go_simp
                refine hK _ _ ?_
                clear hK K
                refine wpAny_ready (rs := [15]) (by kernel_rfl) (by simp) ?_
                refine AllReady.cons rfl (fun K hK => ?_) ?_
                · go_simp
                  refine hK _ _ ?_
                  clear hK K
                  refine wpAny_ready (rs := [16]) (by kernel_rfl) (by simp) ?_
                  refine AllReady.cons rfl (fun K hK => ?_) ?_
                  · go_simp
                    refine hK _ _ ?_
                    clear hK K
                    refine wpAny_done (by kernel_rfl) ?_ _
                    exact HF.out
                  exact AllReady.nil
                exact AllReady.nil
              exact AllReady.nil
            exact AllReady.nil
          refine AllReady.cons rfl (fun K hK => ?_) ?_
          · go_simp
            refine hK _ _ ?_
            clear hK K
            refine wpAny_ready (rs := [6]) (by kernel_rfl) (by simp) ?_
            refine AllReady.cons rfl (fun K hK => ?_) ?_
            · go_simp
              refine hK _ _ ?_
              clear hK K
              refine wpAny_ready (rs := [14]) (by kernel_rfl) (by simp) ?_
              refine AllReady.cons rfl (fun K hK => ?_) ?_
              · go_simp
                refine hK _ _ ?_
                clear hK K
                refine wpAny_ready (rs := [15]) (by kernel_rfl) (by simp) ?_
                refine AllReady.cons rfl (fun K hK => ?_) ?_
                · go_simp
                  refine hK _ _ ?_
                  clear hK K
                  refine wpAny_ready (rs := [16]) (by kernel_rfl) (by simp) ?_
                  refine AllReady.cons rfl (fun K hK => ?_) ?_
                  · go_simp
                    refine hK _ _ ?_
                    clear hK K
                    refine wpAny_done (by kernel_rfl) ?_ _
                    exact HF.out
                  exact AllReady.nil
                exact AllReady.nil
              exact AllReady.nil
            exact AllReady.nil
          exact AllReady.nil
        refine AllReady.cons rfl (fun K hK => ?_) ?_
        · go_simp
          refine hK _ _ ?_
          clear hK K
          refine wpAny_ready (rs := [3]) (by kernel_rfl) (by simp) ?_
          refine AllReady.cons rfl (fun K hK => ?_) ?_
          · go_simp
            refine hK _ _ ?_
            clear hK K
            refine wpAny_take (i := 4) (v := ?_) rfl (by kernel_rfl) (by kernel_rfl) (by kernel_rfl) (fun _ _ _ h => h) (Or.inl ⟨by rfl, fun w => by go_simp; first | done | with_reducible rfl⟩) ?_
            refine wpAny_take (i := 5) (v := ?_) rfl (by kernel_rfl) (by kernel_rfl) (by kernel_rfl) (fun _ _ _ h => h) (Or.inl ⟨by rfl, fun w => by go_simp; first | done | with_reducible rfl⟩) ?_
            refine wpAny_ready (rs := [6]) (by kernel_rfl) (by simp) ?_
            refine AllReady.cons rfl (fun K hK => ?_) ?_
            · go_simp
              refine hK _ _ ?_
              clear hK K
              refine wpAny_ready (rs := [14]) (by kernel_rfl) (by simp) ?_
              refine AllReady.cons rfl (fun K hK => ?_) ?_
              · go_simp
                refine hK _ _ ?_
                clear hK K
                refine wpAny_ready (rs := [15]) (by kernel_rfl) (by simp) ?_
                refine AllReady.cons rfl (fun K hK => ?_) ?_
                · go_simp
                  refine hK _ _ ?_
                  clear hK K
                  refine wpAny_ready (rs := [16]) (by kernel_rfl) (by simp) ?_
                  refine AllReady.cons rfl (fun K hK => ?_) ?_
                  · go_simp
                    refine hK _ _ ?_
                    clear hK K
                    refine wpAny_done (by kernel_rfl) ?_ _
                    exact HF.out
                  exact AllReady.nil
                exact AllReady.nil
              exact AllReady.nil
            exact AllReady.nil
          exact AllReady.nil
        exact AllReady.nil
      exact AllReady.nil
  case done =>
    rintro D ys W hD hS ⟨hL, hB⟩ hK
    have hlng : lngL L ys = lngTo L a 33 := by
      obtain ⟨⟨h1, h2⟩, h3⟩ := hS
      rw [lngL_to L _ ys rfl h1]
      rcases h3 with h3 | h3
      · rw [h3]
      · exact (lngTo_stop (fun j hj hj2 => HAL2.out.2.2.no (HAL2.out.2.2.deep a0 a1 h3 j hj hj2)) 33 (by omega) (by omega)).symm
    rw [hlng] at hL
    obtain ⟨q, hq⟩ : ∃ q, lngTo L a 33 = q := ⟨_, rfl⟩
    have hvq : ∃ x, lV (.string ⟨#[]⟩) q = .string x := by
      rcases q with _ | e
      · exact ⟨_, rfl⟩
      · obtain ⟨d, _, hd⟩ := lngTo_some hq
        exact HVAL.out e (atT_some hd).1
    obtain ⟨v0, hv0⟩ := hvq
    obtain ⟨u0, u1, hu⟩ : ∃ u0 u1 : Int, lP q = [.int .u32 u0, .int .i64 u1] := by cases q <;> exact ⟨_, _, rfl⟩
    rw [hq] at hL
    obtain ⟨bq, hbq⟩ : ∃ b, q.isSome = b := ⟨_, rfl⟩
    have hLp := hL.p
    have hLx := hL.x
    have hLb := hL.b
    rw [hu] at hLp
    rw [hv0] at hLx
    rw [hbq] at hLb
    have P0 : W.cell? ⟨P, 0, none⟩ = some (.int .u32 u0) := hLp.cell 0 (by simp)
    have P1 : W.cell? ⟨P, 1, none⟩ = some (.int .i64 u1) := hLp.cell 1 (by simp)
    have X0 : W.cell? ⟨P + 1, 0, none⟩ = some (.string v0) := hLx.cell 0 (by simp)
    have B0 : W.cell? ⟨P + 1 + 1, 0, none⟩ = some (.bool bq) := hLb.cell 0 (by simp)
    have F0 := hLp.f 0
    have F1 := hLp.f 1
    have FX := hLx.f 0
    have FB : W.frozen? ⟨P + 1 + 1, 0, none⟩ = false := hLb.f 0
    have HLL := Lib.hid (show Blk W P 32 [.int .u32 u0, .int .i64 u1] ∧ Blk W (P + 1) 9 [.string v0] ∧ Blk W (P + 2) 4 [.bool bq] ∧ Below w.heap.size w W from ⟨hLp, hLx, hLb, hB⟩)
    have HQ := Lib.hid (show lngTo L a 33 = q ∧ lP q = [.int .u32 u0, .int .i64 u1] ∧ lV (.string ⟨#[]⟩) q = .string v0 ∧ q.isSome = bq from ⟨hq, hu, hv0, hbq⟩)
    obtain ⟨W4, hW4⟩ : ∃ W4, ((((W.setCell ⟨P, 0, none⟩ (.int .u32 u0)).setCell ⟨P, 1, none⟩ (.int .i64 u1)).setCell ⟨P + 1, 0, none⟩ (.string v0)).setCell ⟨P + 1 + 1, 0, none⟩ (.bool bq)).drew = W4 := ⟨_, rfl⟩
    have HW4 := Lib.hid hW4
    have hK2 : W4.heap[D]? = some (.deferred (some [])) := by
      rw [← hW4]
      exact (((((KeepsOthers.setCell W ⟨P, 0, none⟩ (.int .u32 u0)).trans (KeepsOthers.setCell _ ⟨P, 1, none⟩ (.int .i64 u1))).trans (KeepsOthers.setCell _ ⟨P + 1, 0, none⟩ (.string v0))).trans (KeepsOthers.setCell _ ⟨P + 1 + 1, 0, none⟩ (.bool bq))).trans (KeepsOthers.drew _)).same D _ hK rfl
    have hC : ∀ b o v, W4.cell? ⟨b, o, none⟩ = some v → (W4.putObj D (.deferred none)).cell? ⟨b, o, none⟩ = some v := fun b o v h => cell_kept h (grownBy_putObj' _ D (.deferred none)) (fun r e => by cases e; exact ⟨_, hK2, rfl⟩)
    have HPB := HP.out
    have bP : Blk W4 P 32 [.int .u32 u0, .int .i64 u1] := by rw [← hW4]; exact (((hLp.set 0 _).set 1 _).setOther (by show P ≠ P + 1; omega) _).setOther (by show P ≠ P + 1 + 1; omega) _
    have bX : Blk W4 (P + 1) 9 [.string v0] := by rw [← hW4]; exact (((hLx.setOther (by show P + 1 ≠ P; omega) _).setOther (by show P + 1 ≠ P; omega) _).set 0 _).setOther (by show P + 1 ≠ P + 1 + 1; omega) _
    have bB : Blk W4 (P + 2) 4 [.bool bq] := by rw [← hW4]; exact (((hLb.setOther (by show P + 2 ≠ P; omega) _).setOther (by show P + 2 ≠ P; omega) _).setOther (by show P + 2 ≠ P + 1; omega) _).set 0 _
    have hBW : Below w.heap.size w W4 := by rw [← hW4]; exact (((((hB.setCell (p := ⟨P, 0, none⟩) (by show w.heap.size ≤ P; omega) _).setCell (p := ⟨P, 1, none⟩) (by show w.heap.size ≤ P; omega) _).setCell (p := ⟨P + 1, 0, none⟩) (by show w.heap.size ≤ P + 1; omega) _).setCell (p := ⟨P + 1 + 1, 0, none⟩) (by show w.heap.size ≤ P + 1 + 1; omega) _).drew)
    have HFF := Lib.hid (show W4.heap[D]? = some (.deferred (some [])) ∧ (W4.putObj D (.deferred none)).cell? ⟨P, 0, none⟩ = some (.int .u32 u0) ∧ (W4.putObj D (.deferred none)).cell? ⟨P, 1, none⟩ = some (.int .i64 u1) ∧ (W4.putObj D (.deferred none)).cell? ⟨P + 1, 0, none⟩ = some (.string v0) ∧ (W4.putObj D (.deferred none)).cell? ⟨P + 1 + 1, 0, none⟩ = some (.bool bq) ∧ Below w.heap.size w (W4.putObj D (.deferred none)) from
      ⟨hK2, hC _ _ _ (bP.cell 0 (by simp)), hC _ _ _ (bP.cell 1 (by simp)), hC _ _ _ (bX.cell 0 (by simp)), hC _ _ _ (bB.cell 0 (by simp)), hBW.trans (belowK_b (w := w) (Nat.le_refl _) _ D _ _ (Nat.le_trans HAL2.out.1.size hD) hK2 rfl rfl)⟩)
    clear hL hLp hLx hLb hB hS hlng hq hv0 hu hbq hW4 hK2 hC bP bX bB hBW HPB
    gi_wp2
    gi_region_with (fail)
    all_goals
      gi_wp2
      rw [HW4.out]
      obtain ⟨hK2, c0, c1, cx, cb, hBF⟩ := HFF.out
      refine ⟨by simp, .inl ⟨_, _, rfl, run_takeDeferred hK2, ?_⟩⟩
      refine ⟨.tuple #[.agg #[.int .u32 u0, .int .i64 u1], .string v0, .bool bq], by simp [results, Try.results30, go_sem, c0, c1, cx, cb], ?_, hBF⟩
      rw [HQ.out.1, HQ.out.2.1, HQ.out.2.2.1, HQ.out.2.2.2]
  case stop =>
    rintro D c pre W hD _ h _
    exact h.elim
end Go.Proofs.Ytipecocalmmmbaa
