/- trie: Longest at interfaces. -/
import Derived.Test.YtlkpalaakncicaaVL
namespace Go.Proofs.Ytlkpalaakncicaa
open Go.RowKit Go.Shelf
set_option linter.unusedVariables false
set_option linter.unusedSimpArgs false

attribute [local go_sem] Oper.semAt_some
attribute [local go_sem, local simp] wide_fn
attribute [local go_sem] encPN

theorem mk_32 {a : Int} (h0 : 0 ≤ a) (h1 : a < 4294967296) : mk a 32 = a := by
  obtain ⟨A, rfl⟩ := Int.eq_ofNat_of_zero_le h0
  have := mk_div A 32 (by omega) (by omega)
  simpa using this
/-- The last thing on the way. -/
def lngL (L : List TE) {N : Int → Nat → Option Nat} {a : Int} (pre : List (PN N a)) : Option TE := pre.foldl (fun r x => match atT L (mk a x.1.1) x.1.1 with | some e => some e | none => r) none
theorem lngL_snoc (L : List TE) {N : Int → Nat → Option Nat} {a : Int} (pre : List (PN N a)) (x : PN N a) : lngL L (pre ++ [x]) = match atT L (mk a x.1.1) x.1.1 with | some e => some e | none => lngL L pre := by
  unfold lngL; rw [List.foldl_append]; rfl
theorem lngL_to (L : List TE) {N : Int → Nat → Option Nat} {a : Int} : ∀ (k : Nat) (xs : List (PN N a)), xs.length = k → xs.map (·.1.1) = List.range k → lngL L xs = lngTo L a k
  | 0, xs, h, _ => by rw [List.eq_nil_of_length_eq_zero h]; rfl
  | k + 1, xs, h, hm => by
    obtain ⟨ys, y, rfl⟩ : ∃ ys y, xs = ys ++ [y] := ⟨xs.dropLast, xs.getLast (by intro e; rw [e] at h; simp at h), (List.dropLast_concat_getLast _).symm⟩
    rw [List.map_append, List.range_succ] at hm
    have hl : ys.length = k := by simpa using h
    have h2 := List.append_inj hm (by simp [hl])
    have hy : y.1.1 = k := by simpa using h2.2
    rw [lngL_snoc, lngL_to L k ys hl h2.1, hy]
    rfl
/-- What Longest has found so far, in its three cells. -/
def lP (o : Option TE) : List Value := match o with | some e => [.int .u32 e.a, .int .i64 e.n] | none => [.int .u32 0, .int .i64 0]
def lV (z : Value) (o : Option TE) : Value := match o with | some e => e.v | none => z
abbrev zI : Value := .agg #[.int .i64 0, .int .i64 0, .int .u32 0, .int .i64 0, .int .i64 0]
structure LnS (W : World) (P : Nat) (TX : TypeId) (z : Value) (o : Option TE) : Prop where
  intro ::
  p : Blk W P 32 (lP o)
  x : Blk W (P + 1) TX (vC (lV z o))
  b : Blk W (P + 2) 4 [.bool o.isSome]
theorem LnS.own {W W' : World} {row : Option Nat} {P : Nat} {TX : TypeId} {z : Value} {o : Option TE} (h : LnS W P TX z o) (hg : W.grownBy W' row) (hr : ∀ r, row = some r → ∃ o : Obj, W.heap[r]? = some o ∧ o.isCells = false) : LnS W' P TX z o :=
  ⟨h.p.own hg hr, h.x.own hg hr, h.b.own hg hr⟩
theorem LnS.below {w W W' : World} {P : Nat} {TX : TypeId} {z : Value} {o : Option TE} (h : LnS W P TX z o) (hb : Below W.heap.size W W') : LnS W' P TX z o := ⟨h.p.next hb, h.x.next hb, h.b.next hb⟩
theorem lngF_mem {L : List TE} {N : Int → Nat → Option Nat} {a : Int} : ∀ (pre : List (PN N a)) (r : Option TE), (∀ e, r = some e → e ∈ L) → ∀ e, pre.foldl (fun r x => match atT L (mk a x.1.1) x.1.1 with | some e => some e | none => r) r = some e → e ∈ L
  | [], r, h, e, he => h e he
  | x :: pre, r, h, e, he => by
    refine lngF_mem pre _ ?_ e he
    intro e' he'
    dsimp only at he'
    rcases hc : atT L (mk a x.1.1) x.1.1 with _ | y
    · rw [hc] at he'; exact h e' he'
    · rw [hc] at he'; cases he'; exact (atT_some hc).1
theorem lngL_mem {L : List TE} {N : Int → Nat → Option Nat} {a : Int} {pre : List (PN N a)} {e : TE} (h : lngL L pre = some e) : e ∈ L :=
  lngF_mem pre none (fun e he => by cases he) e h
theorem blk_five_ne {w : World} {P g : Nat} {t : TypeId} {vs : List Value} (h : Blk w g t vs) (hne : g ≠ P) {a b c d e : Value} :
    Blk (((((w.setCell ⟨P, 0, none⟩ a).setCell ⟨P, 1, none⟩ b).setCell ⟨P, 2, none⟩ c).setCell ⟨P, 3, none⟩ d).setCell ⟨P, 4, none⟩ e) g t vs :=
  ((((h.setOther (a := ⟨P, 0, none⟩) hne _).setOther (a := ⟨P, 1, none⟩) hne _).setOther (a := ⟨P, 2, none⟩) hne _).setOther (a := ⟨P, 3, none⟩) hne _).setOther (a := ⟨P, 4, none⟩) hne _
theorem Blk.drewn {w : World} {g : Nat} {t : TypeId} {vs : List Value} (h : Blk w g t vs) : Blk w.drew g t vs := h
theorem KpX.drewn {S : Nat → Prop} {M : Nat} {A C : World} (h : KpX S M A C) : KpX S M A C.drew := h
/-- The world behind a thing that was found. -/
def lnW (W : World) (P : Nat) (ea en vi vr va vn vc bb : Value) : World :=
  ((((((((W.setCell ⟨P, 0, none⟩ ea).setCell ⟨P, 1, none⟩ en).setCell ⟨P + 1, 0, none⟩ vi).setCell ⟨P + 1, 1, none⟩ vr).setCell ⟨P + 1, 2, none⟩ va).setCell ⟨P + 1, 3, none⟩ vn).setCell ⟨P + 1, 4, none⟩ vc).setCell ⟨P + 1 + 1, 0, none⟩ bb)
theorem lnW_p {W : World} {P : Nat} {u0 u1 : Value} (h : Blk W P 32 [u0, u1]) (ea en vi vr va vn vc bb : Value) : Blk (lnW W P ea en vi vr va vn vc bb).drew P 32 [ea, en] := by
  have h1 : Blk ((W.setCell ⟨P, 0, none⟩ ea).setCell ⟨P, 1, none⟩ en) P 32 [ea, en] := (h.set 0 ea).set 1 en
  have h2 := blk_five_ne (P := P + 1) (a := vi) (b := vr) (c := va) (d := vn) (e := vc) h1 (by omega)
  exact (h2.setOther (a := ⟨P + 1 + 1, 0, none⟩) (by show P ≠ P + 1 + 1; omega) bb).drewn
theorem lnW_x {W : World} {P : Nat} {y0 y1 y2 y3 y4 : Value} (h : Blk W (P + 1) 34 [y0, y1, y2, y3, y4]) (ea en vi vr va vn vc bb : Value) : Blk (lnW W P ea en vi vr va vn vc bb).drew (P + 1) 34 [vi, vr, va, vn, vc] := by
  have h1 := (h.setOther (a := ⟨P, 0, none⟩) (by show P + 1 ≠ P; omega) ea).setOther (a := ⟨P, 1, none⟩) (by show P + 1 ≠ P; omega) en
  have h2 := Blk.five h1 vi vr va vn vc
  exact (h2.setOther (a := ⟨P + 1 + 1, 0, none⟩) (by show P + 1 ≠ P + 1 + 1; omega) bb).drewn
theorem lnW_b {W : World} {P : Nat} {b0 : Value} (h : Blk W (P + 2) 4 [b0]) (ea en vi vr va vn vc bb : Value) : Blk (lnW W P ea en vi vr va vn vc bb).drew (P + 2) 4 [bb] := by
  have h1 := (h.setOther (a := ⟨P, 0, none⟩) (by show P + 2 ≠ P; omega) ea).setOther (a := ⟨P, 1, none⟩) (by show P + 2 ≠ P; omega) en
  have h2 := blk_five_ne (P := P + 1) (a := vi) (b := vr) (c := va) (d := vn) (e := vc) h1 (by omega)
  exact (h2.set 0 bb).drewn
theorem lnW_k (W : World) (P : Nat) (ea en vi vr va vn vc bb : Value) : KeepsOthers W (lnW W P ea en vi vr va vn vc bb).drew :=
  (((((((KeepsOthers.setCell W _ _).trans (KeepsOthers.setCell _ _ _)).trans (KeepsOthers.setCell _ _ _)).trans (KeepsOthers.setCell _ _ _)).trans (KeepsOthers.setCell _ _ _)).trans (KeepsOthers.setCell _ _ _)).trans (KeepsOthers.setCell _ _ _)).trans ((KeepsOthers.setCell _ _ _).trans (KeepsOthers.drew _))
theorem lnW_m (M : Nat) (W : World) (P : Nat) (ea en vi vr va vn vc bb : Value) : KpX (fun k => P ≤ k ∧ k ≤ P + 2) M W (lnW W P ea en vi vr va vn vc bb).drew := by
  have s0 : ∀ j, (fun k => P ≤ k ∧ k ≤ P + 2) (⟨P, j, none⟩ : Addr).block ∨ M ≤ (⟨P, j, none⟩ : Addr).block := fun j => .inl ⟨Nat.le_refl _, by show P ≤ P + 2; omega⟩
  have s1 : ∀ j, (fun k => P ≤ k ∧ k ≤ P + 2) (⟨P + 1, j, none⟩ : Addr).block ∨ M ≤ (⟨P + 1, j, none⟩ : Addr).block := fun j => .inl ⟨by show P ≤ P + 1; omega, by show P + 1 ≤ P + 2; omega⟩
  have s2 : (fun k => P ≤ k ∧ k ≤ P + 2) (⟨P + 1 + 1, 0, none⟩ : Addr).block ∨ M ≤ (⟨P + 1 + 1, 0, none⟩ : Addr).block := .inl ⟨by show P ≤ P + 1 + 1; omega, by show P + 1 + 1 ≤ P + 2; omega⟩
  have h0 := KpX.setCell (S := fun k => P ≤ k ∧ k ≤ P + 2) (KpX.refl _ M W) (s0 0) ea
  have h1 := KpX.setCell h0 (s0 1) en
  have h2 := KpX.setCell h1 (s1 0) vi
  have h3 := KpX.setCell h2 (s1 1) vr
  have h4 := KpX.setCell h3 (s1 2) va
  have h5 := KpX.setCell h4 (s1 3) vn
  have h6 := KpX.setCell h5 (s1 4) vc
  have h7 := KpX.setCell h6 s2 bb
  exact h7.drewn
theorem lnW_below {B : Nat} {w0 W : World} {P : Nat} (h : Below B w0 W) (hP : B ≤ P) (ea en vi vr va vn vc bb : Value) : Below B w0 (lnW W P ea en vi vr va vn vc bb).drew := by
  have h1 := (h.setCell (p := ⟨P, 0, none⟩) hP ea).setCell (p := ⟨P, 1, none⟩) hP en
  have h2 := below_five (P := P + 1) h1 (by omega) vi vr va vn vc
  exact (h2.setCell (p := ⟨P + 1 + 1, 0, none⟩) (by show B ≤ P + 1 + 1; omega) bb).drew
theorem ln_intro {W : World} {P : Nat} {ea en : Int} {eg : Nat} {vi vr va vn vc : Int} (h1 : Blk W P 32 [.int .u32 ea, .int .i64 en]) (h2 : Blk W (P + 1) 34 [.int .i64 vi, .int .i64 vr, .int .u32 va, .int .i64 vn, .int .i64 vc]) (h3 : Blk W (P + 2) 4 [.bool true]) :
    LnS W P 34 zI (some ⟨ea, en, ifV ⟨vi, vr, va, vn, vc⟩, eg⟩) := ⟨h1, h2, h3⟩
set_option maxRecDepth 100000 in
set_option maxHeartbeats 8000000 in
theorem longest_if (w : World) (B t r : Nat) (s : Int) (N : Int → Nat → Option Nat) (L : List TE) (h : TrAt TRf NDf THf w B t r s N L) (hval : ∀ e ∈ L, ∃ v : Ifc, e.v = ifV v) (a : Int) (a0 : 0 ≤ a) (a1 : a < 4294967296) :
    Calls Try.prog 38 #[.pointer (some ⟨t, 0, none⟩), .int .u32 a] w fun e w' => e = .returned (.tuple #[.agg (lP (lngTo L a 33)).toArray, lV zI (lngTo L a 33), .bool (lngTo L a 33).isSome]) ∧ Below w.heap.size w w' := by
  refine (callsIn_wide (n := 6)).1 ?_
  have hdd : ∀ k : Nat, (Fence.wide.depth.isSome = true → 1 ≤ k) := fun k h => by cases h
  obtain ⟨P, hP⟩ : ∃ P, w.heap.size = P := ⟨_, rfl⟩
  obtain ⟨V, hV⟩ : ∃ V, ((w.alloc (.cells #[.int .u32 0, .int .i64 0] 32)).alloc (.cells #[.int .i64 0, .int .i64 0, .int .u32 0, .int .i64 0, .int .i64 0] 34)).alloc (.cells #[.bool false] 4) = V := ⟨_, rfl⟩
  have hB : Below w.heap.size w V := by rw [← hV]; exact (two_below w _ _).alloc (by simp; omega) _
  have hL0 : LnS V P 34 zI none := by
    rw [← hV, ← hP]
    refine ⟨((Blk.new w 32 [.int .u32 0, .int .i64 0]).alloc _).alloc _, ?_, ?_⟩
    · have := (Blk.new (w.alloc (.cells #[.int .u32 0, .int .i64 0] 32)) 34 [.int .i64 0, .int .i64 0, .int .u32 0, .int .i64 0, .int .i64 0]).alloc (.cells #[.bool false] 4)
      rw [sz_alloc] at this; exact this
    · have := Blk.new ((w.alloc (.cells #[.int .u32 0, .int .i64 0] 32)).alloc (.cells #[.int .i64 0, .int .i64 0, .int .u32 0, .int .i64 0, .int .i64 0] 34)) 4 [.bool false]
      rw [sz_alloc, sz_alloc] at this; exact this
  have HV := Lib.hid hV
  have HP := Lib.hid hP
  have HALL := Lib.hid (show Below w.heap.size w V ∧ LnS V P 34 zI none ∧ TrAt TRf NDf THf V B t r s N L from ⟨hB, hL0, h.below hB⟩)
  have HMK := Lib.hid (make_any a 32 V)
  rw [mk_32 a0 a1, show cl 32 = 32 from by decide] at HMK
  have HH := Lib.hid (show TrAt TRf NDf THf w B t r s N L from h)
  have HVAL := Lib.hid hval
  clear hV hP hB hL0 h hval
  refine callsIn_of_wp_marks Try.func38 rfl trivial ?_ rfl
  simp only [Try.ntmps38, List.size_toArray, List.length_cons, List.length_nil, Nat.reduceAdd, Nat.reduceSub, Array.replicate_succ, Array.replicate_zero, List.push_toArray, List.append_toArray, List.nil_append, List.cons_append]
  gi_wp2_with fail
  rw [HV.out, HP.out]
  refine (callsIn_wide.2 HMK.out).mono ?_
  rintro e w1 ⟨rfl, hb⟩
  have HAL1 := Lib.hid (show Below w.heap.size w w1 ∧ LnS w1 P 34 zI none ∧ TrAt TRf NDf THf w1 B t r s N L from ⟨HALL.out.1.trans (hb.mono HALL.out.1.size), HALL.out.2.1.below (w := w) hb, HALL.out.2.2.below hb⟩)
  clear hb
  gi_wp2_with fail
  refine (callsIn_wide.2 (along_if w1 t a 32)).mono ?_
  obtain ⟨Bt, hBt⟩ : ∃ X, w1.heap.size = X := ⟨_, rfl⟩
  obtain ⟨Bp, hBp⟩ : ∃ X, X = Bt + 1 := ⟨_, rfl⟩
  obtain ⟨V2, hV2⟩ : ∃ V, (w1.alloc (.cells #[.pointer (some ⟨t, 0, none⟩)] 75)).alloc (.cells #[.int .u32 a, .int .i64 32] 32) = V := ⟨_, rfl⟩
  have hB2 : Below w1.heap.size w1 V2 := by rw [← hV2]; exact two_below _ _ _
  have hbt : Blk V2 Bt 75 [.pointer (some ⟨t, 0, none⟩)] := by rw [← hV2, ← hBt]; exact (Blk.new w1 75 [.pointer (some ⟨t, 0, none⟩)]).alloc _
  have hbp : Blk V2 Bp 32 [.int .u32 a, .int .i64 32] := by
    have := Blk.new (w1.alloc (.cells #[.pointer (some ⟨t, 0, none⟩)] 75)) 32 [.int .u32 a, .int .i64 32]
    rw [sz_alloc, hBt, ← hBp] at this
    rw [← hV2]; exact this
  have hsz : V2.heap.size = Bp + 1 := by rw [← hV2, sz_alloc, sz_alloc, hBt, hBp]
  have HAL2 := Lib.hid (show Below w.heap.size w V2 ∧ LnS V2 P 34 zI none ∧ TrAt TRf NDf THf V2 B t r s N L from ⟨HAL1.out.1.trans (hB2.mono HAL1.out.1.size), HAL1.out.2.1.below (w := w) hB2, HAL1.out.2.2.below hB2⟩)
  have HPl := Lib.hid (show P + 2 < Bt from by rw [← hBt]; exact HAL1.out.2.1.b.lt)
  have HAl := Lib.hid (show AlS TRf NDf THf V2 B t r s N L a 32 Bt Bp (fun k => P ≤ k ∧ k ≤ P + 2) (Bp + 1) from ⟨HAL2.out.2.2, hbt.cell 0 (by simp), hbp, fun k hk => by
    rcases hk with hk | rfl
    · have h1 := HAL1.out.2.2.inLt hk
      have h2 := HH.out.inLt hk
      have h3 := HP.out
      refine ⟨by omega, ?_⟩
      show ¬ (P ≤ k ∧ k ≤ P + 2)
      omega
    · refine ⟨by omega, ?_⟩
      show ¬ (P ≤ k ∧ k ≤ P + 2)
      have := HPl.out; omega⟩)
  rintro e w2 ⟨rfl, rfl⟩
  rw [hV2, hBt, ← hBp]
  have HSZ := Lib.hid hsz
  clear hB2 hbt hbp hsz hV2 hBt
  have HBP := Lib.hid hBp
  clear hBp
  gi_wp2_with fail
  refine wpIn_rangeFunc_ownF rfl (by omega) (gf := 72) (lb := #[.pointer (some ⟨Bt, 0, none⟩), .pointer (some ⟨Bp, 0, none⟩)]) rfl trivial (enters_of Try.func72 (by kernel_rfl) rfl)
    (along1_if _ V2 B t r s N L a 32 Bt Bp (fun k => P ≤ k ∧ k ≤ P + 2) (Bp + 1) HAl.out (by omega) a0 a1) kpX_t (kpX_b (by rw [HSZ.out]; exact Nat.le_refl _)) (Below.refl _ _) (fun _ => rfl)
    (fun pre W => LnS W P 34 zI (lngL L pre) ∧ Below w.heap.size w W)
    (fun _ _ _ => False)
    ?hI ?hIx ?h0 ?a₁ ?assign ?body ?done ?stop
  case hI =>
    intro s A C row hs hg hr
    exact ⟨hs.1.own hg (fun r e => (hr r e).2), hs.2.grown hg hs.2.size (fun k e => Nat.le_trans HAL2.out.1.size (hr k e).1)⟩
  case hIx => intro c s A C row hs; exact hs.elim
  case h0 => exact ⟨HAL2.out.2.1, HAL2.out.1⟩
  case assign =>
    intro l x W K hK
    gi_wp2
    exact hK
  case body =>
    rintro l pre ⟨⟨d, b⟩, hx⟩ W ⟨hL, hB⟩ _
    have hsn := lngL_snoc L pre (⟨(d, b), hx⟩ : PN N a)
    dsimp only at hsn
    have hnb := (HH.out.node _ _ _ hx.2).below hB (HH.out.node _ _ _ hx.2).lt
    have b0 : W.cell? ⟨b, 0, none⟩ = some (optP ((atT L (mk a d) d).map TE.g)) := hnb.cell 0 (by simp)
    rcases hat : atT L (mk a d) d with _ | e
    · rw [hat] at b0 hsn
      change W.cell? ⟨b, 0, none⟩ = some (.pointer none) at b0
      have HF := Lib.hid (show LnS W P 34 zI (lngL L (pre ++ [(⟨(d, b), hx⟩ : PN N a)])) ∧ Below w.heap.size w W from ⟨by rw [hsn]; exact hL, hB⟩)
      clear hsn hnb hat hL hB
      gi_wp2
      exact ⟨KeepsOthers.refl _, KpX.refl _ _ _, HF.out⟩
    · rw [hat] at b0 hsn
      obtain ⟨he, hea, hen⟩ := atT_some hat
      have hg := (HH.out.thing e he).2.1.below hB (HH.out.thing e he).2.1.lt
      obtain ⟨v, hv⟩ := HVAL.out e he
      obtain ⟨ea, en, ev, eg⟩ := e
      obtain rfl : ev = ifV v := hv
      obtain ⟨vi, vr, va, vn, vc⟩ := v
      change W.cell? ⟨b, 0, none⟩ = some (.pointer (some ⟨eg, 0, none⟩)) at b0
      dsimp only at hg
      have g0 : W.cell? ⟨eg, 0, none⟩ = some (.int .u32 ea) := hg.cell 0 (by simp [thC, vC])
      have g1 : W.cell? ⟨eg, 1, none⟩ = some (.int .i64 en) := hg.cell 1 (by simp [thC, vC])
      have g2 : W.cell? ⟨eg, 2, none⟩ = some (.int .i64 vi) := hg.cell 2 (by simp [thC, vC])
      have g3 : W.cell? ⟨eg, 3, none⟩ = some (.int .i64 vr) := hg.cell 3 (by simp [thC, vC])
      have g4 : W.cell? ⟨eg, 4, none⟩ = some (.int .u32 va) := hg.cell 4 (by simp [thC, vC])
      have g5 : W.cell? ⟨eg, 5, none⟩ = some (.int .i64 vn) := hg.cell 5 (by simp [thC, vC])
      have g6 : W.cell? ⟨eg, 6, none⟩ = some (.int .i64 vc) := hg.cell 6 (by simp [thC, vC])
      obtain ⟨q, hq⟩ : ∃ q, lngL L pre = q := ⟨_, rfl⟩
      rw [hq] at hL
      obtain ⟨u0, u1, hu⟩ : ∃ u0 u1, lP q = [u0, u1] := by cases q <;> exact ⟨_, _, rfl⟩
      have hLp := hL.p
      rw [hu] at hLp
      have P0 : W.cell? ⟨P, 0, none⟩ = some u0 := hLp.cell 0 (by simp)
      have P1 : W.cell? ⟨P, 1, none⟩ = some u1 := hLp.cell 1 (by simp)
      have F0 := hLp.f 0
      have F1 := hLp.f 1
      obtain ⟨y0, y1, y2, y3, y4, hv0⟩ : ∃ y0 y1 y2 y3 y4, vC (lV zI q) = [y0, y1, y2, y3, y4] := by
        rcases q with _ | e'
        · exact ⟨_, _, _, _, _, rfl⟩
        · obtain ⟨v', hv'⟩ := HVAL.out e' (lngL_mem hq)
          exact ⟨.int .i64 v'.id, .int .i64 v'.r, .int .u32 v'.a, .int .i64 v'.n, .int .i64 v'.c, by show vC e'.v = _; rw [hv']; rfl⟩
      have hLx := hL.x
      rw [hv0] at hLx
      obtain ⟨X0, X1, X2, X3, X4⟩ := if_boxes hLx
      have FX0 := hLx.f 0
      have FX1 := hLx.f 1
      have FX2 := hLx.f 2
      have FX3 := hLx.f 3
      have FX4 := hLx.f 4
      have B0 : W.cell? ⟨P + 2, 0, none⟩ = some (.bool q.isSome) := hL.b.cell 0 (by simp)
      have FB := hL.b.f 0
      have HLL := Lib.hid (show Blk W P 32 [u0, u1] ∧ Blk W (P + 1) 34 [y0, y1, y2, y3, y4] ∧ Blk W (P + 2) 4 [.bool q.isSome] ∧ Below w.heap.size w W from ⟨hLp, hLx, hL.b, hB⟩)
      have hne : b ≠ P ∧ eg ≠ P := by
        have h1 := HH.out.inLt (.inr ⟨_, _, hx.2⟩)
        have h2 := (HH.out.thing _ he).2.1.lt
        have h3 := HP.out
        dsimp only at h1 h2
        omega
      have HPB := HP.out
      obtain ⟨W4, hW4⟩ : ∃ W4, lnW W P (.int .u32 ea) (.int .i64 en) (.int .i64 vi) (.int .i64 vr) (.int .u32 va) (.int .i64 vn) (.int .i64 vc) (.bool true) = W4 := ⟨_, rfl⟩
      have HF := Lib.hid (show KeepsOthers W W4.drew ∧ KpX (fun k => P ≤ k ∧ k ≤ P + 2) (Bp + 1) W W4.drew ∧ LnS W4.drew P 34 zI (lngL L (pre ++ [(⟨(d, b), hx⟩ : PN N a)])) ∧ Below w.heap.size w W4.drew from by
        rw [hsn, ← hW4]
        dsimp only
        exact ⟨lnW_k W P (.int .u32 ea) (.int .i64 en) (.int .i64 vi) (.int .i64 vr) (.int .u32 va) (.int .i64 vn) (.int .i64 vc) (.bool true), lnW_m (Bp + 1) W P (.int .u32 ea) (.int .i64 en) (.int .i64 vi) (.int .i64 vr) (.int .u32 va) (.int .i64 vn) (.int .i64 vc) (.bool true), ln_intro (lnW_p hLp (.int .u32 ea) (.int .i64 en) (.int .i64 vi) (.int .i64 vr) (.int .u32 va) (.int .i64 vn) (.int .i64 vc) (.bool true)) (lnW_x hLx (.int .u32 ea) (.int .i64 en) (.int .i64 vi) (.int .i64 vr) (.int .u32 va) (.int .i64 vn) (.int .i64 vc) (.bool true)) (lnW_b hL.b (.int .u32 ea) (.int .i64 en) (.int .i64 vi) (.int .i64 vr) (.int .u32 va) (.int .i64 vn) (.int .i64 vc) (.bool true)), lnW_below hB (by omega) (.int .u32 ea) (.int .i64 en) (.int .i64 vi) (.int .i64 vr) (.int .u32 va) (.int .i64 vn) (.int .i64 vc) (.bool true)⟩)
      subst hW4
      unfold lnW at HF
      clear hL hLp hLx hg hnb hat hea hen he hB hsn hq hu hv0
      gi_wp2
      refine wpIn_region_any (by kernel_rfl) (wpAnyIn_round (.inr ⟨l, rfl⟩) (fun i o ho => (List.all_eq_true.1 (show List.all _ noDefer = true by kernel_rfl)) o (by rw [List.getElem?_toArray] at ho; exact List.mem_of_getElem? ho)) _ _ _ _ ?_)
      change wpAny _ _ _ _ _ _ _ (World.drew W)
      refine wpAny_take (i := 0) (v := ?_) rfl (by kernel_rfl) (by kernel_rfl) (by kernel_rfl) (fun _ _ _ h => h) (Or.inl ⟨by rfl, fun w => by go_simp; first | done | with_reducible rfl⟩) ?_
      refine wpAny_take (i := 1) (v := ?_) rfl (by kernel_rfl) (by kernel_rfl) (by kernel_rfl) (fun _ _ _ h => h) (Or.inl ⟨by rfl, fun w => by go_simp; first | done | with_reducible rfl⟩) ?_
      refine wpAny_take (i := 2) (v := ?_) rfl (by kernel_rfl) (by kernel_rfl) (by kernel_rfl) (fun _ _ _ h => h) (Or.inl ⟨by rfl, fun w => by go_simp; first | done | with_reducible rfl⟩) ?_
      refine wpAny_take (i := 7) (v := ?_) rfl (by kernel_rfl) (by kernel_rfl) (by kernel_rfl) (fun _ _ _ h => h) (Or.inl ⟨by rfl, fun w => by go_simp; first | done | with_reducible rfl⟩) ?_
      refine wpAny_take (i := 8) (v := ?_) rfl (by kernel_rfl) (by kernel_rfl) (by kernel_rfl) (fun _ _ _ h => h) (Or.inl ⟨by rfl, fun w => by go_simp; first | done | with_reducible rfl⟩) ?_
      refine wpAny_take (i := 9) (v := ?_) rfl (by kernel_rfl) (by kernel_rfl) (by kernel_rfl) (fun _ _ _ h => h) (Or.inl ⟨by rfl, fun w => by go_simp; first | done | with_reducible rfl⟩) ?_
      refine wpAny_ready (rs := [3, 10]) (by kernel_rfl) (by simp) ?_
      refine AllReady.cons rfl (fun K hK => ?_) ?_
      · go_simp
        refine hK _ _ ?_
        clear hK K
        refine wpAny_take (i := 4) (v := ?_) rfl (by kernel_rfl) (by kernel_rfl) (by kernel_rfl) (fun _ _ _ h => h) (Or.inl ⟨by rfl, fun w => by go_simp; first | done | with_reducible rfl⟩) ?_
        refine wpAny_take (i := 5) (v := ?_) rfl (by kernel_rfl) (by kernel_rfl) (by kernel_rfl) (fun _ _ _ h => h) (Or.inl ⟨by rfl, fun w => by go_simp; first | done | with_reducible rfl⟩) ?_
        refine wpAny_ready (rs := [6, 10]) (by kernel_rfl) (by simp) ?_
        refine AllReady.cons rfl (fun K hK => ?_) ?_
        · go_simp
          refine hK _ _ ?_
          clear hK K
          refine wpAny_ready (rs := [10, 14]) (by kernel_rfl) (by simp) ?_
          refine AllReady.cons rfl (fun K hK => ?_) ?_
          · go_simp
            refine hK _ _ ?_
            clear hK K
            refine wpAny_take (i := 11) (v := ?_) rfl (by kernel_rfl) (by kernel_rfl) (by kernel_rfl) (fun _ _ _ h => h) (Or.inl ⟨by rfl, fun w => by go_simp; first | done | with_reducible rfl⟩) ?_
            refine wpAny_take (i := 12) (v := ?_) rfl (by kernel_rfl) (by kernel_rfl) (by kernel_rfl) (fun _ _ _ h => h) (Or.inl ⟨by rfl, fun w => by go_simp; first | done | with_reducible rfl⟩) ?_
            refine wpAny_ready (rs := [13, 14]) (by kernel_rfl) (by simp) ?_
            refine AllReady.cons rfl (fun K hK => ?_) ?_
            · go_simp
              refine hK _ _ ?_
              clear hK K
              refine wpAny_ready (rs := [14]) (by kernel_rfl) (by simp) ?_
              refine AllReady.cons rfl (fun K hK => ?_) ?_
              · go_simp
                refine hK _ _ ?_
                clear hK K
                refine wpAny_ready (rs := [15]) (by kernel_rfl) (by simp) ?_
                refine AllReady.cons rfl (fun K hK => ?_) ?_
                · go_simp
                  refine hK _ _ ?_
                  clear hK K
                  refine wpAny_ready (rs := [16]) (by kernel_rfl) (by simp) ?_
                  refine AllReady.cons rfl (fun K hK => ?_) ?_
                  · go_simp
                    refine hK _ _ ?_
                    clear hK K
                    refine wpAny_done (by kernel_rfl) ?_ _
                    exact HF.out
                  exact AllReady.nil
                exact AllReady.nil
              exact AllReady.nil
            refine AllReady.cons rfl (fun K hK => ?_) ?_
            · go_simp
              refine hK _ _ ?_
              clear hK K
              refine wpAny_ready (rs := [13]) (by kernel_rfl) (by simp) ?_
              refine AllReady.cons rfl (fun K hK => ?_) ?_
              · go_simp
                refine hK _ _ ?_
                clear hK K
                refine wpAny_ready (rs := [15]) (by kernel_rfl) (by simp) ?_
                refine AllReady.cons rfl (fun K hK => ?_) ?_
                · go_simp
                  refine hK _ _ ?_
                  clear hK K
                  refine wpAny_ready (rs := [16]) (by kernel_rfl) (by simp) ?_
                  refine AllReady.cons rfl (fun K hK => ?_) ?_
                  · go_simp
                    refine hK _ _ ?_
                    clear hK K
                    refine wpAny_done (by kernel_rfl) ?_ _
                    exact HF.out
                  exact AllReady.nil
                exact AllReady.nil
              exact AllReady.nil
            exact AllReady.nil
          refine AllReady.cons rfl (fun K hK => ?_) ?_
          · go_simp
            refine hK _ _ ?_
            clear hK K
            refine wpAny_ready (rs := [10]) (by kernel_rfl) (by simp) ?_
            refine AllReady.cons rfl (fun K hK => ?_) ?_
            · go_simp
              refine hK _ _ ?_
              clear hK K
              refine wpAny_take (i := 11) (v := ?_) rfl (by kernel_rfl) (by kernel_rfl) (by kernel_rfl) (fun _ _ _ h => h) (Or.inl ⟨by rfl, fun w => by go_simp; first | done | with_reducible rfl⟩) ?_
              refine wpAny_take (i := 12) (v := ?_) rfl (by kernel_rfl) (by kernel_rfl) (by kernel_rfl) (fun _ _ _ h => h) (Or.inl ⟨by rfl, fun w => by go_simp; first | done | with_reducible rfl⟩) ?_
              refine wpAny_ready (rs := [13]) (by kernel_rfl) (by simp) ?_
              refine AllReady.cons rfl (fun K hK => ?_) ?_
              · go_simp
                refine hK _ _ ?_
                clear hK K
                refine wpAny_ready (rs := [15]) (by kernel_rfl) (by simp) ?_
                refine AllReady.cons rfl (fun K hK => ?_) ?_
                · go_simp
                  refine hK _ _ ?_
                  clear hK K
                  refine wpAny_ready (rs := [16]) (by kernel_rfl) (by simp) ?_
                  refine AllReady.cons rfl (fun K hK => ?_) ?_
                  · go_simp
                    refine hK _ _ ?_
                    clear hK K
                    refine wpAny_done (by kernel_rfl) ?_ _
                    exact HF.out
                  exact AllReady.nil
                exact AllReady.nil
              exact AllReady.nil
            exact AllReady.nil
          exact AllReady.nil
        refine AllReady.cons rfl (fun K hK => ?_) ?_
        · go_simp
          refine hK _ _ ?_
          clear hK K
          refine wpAny_take (i := 11) (v := ?_) rfl (by kernel_rfl) (by kernel_rfl) (by kernel_rfl) (fun _ _ _ h => h) (Or.inl ⟨by rfl, fun w => by go_simp; first | done | with_reducible rfl⟩) ?_
          refine wpAny_take (i := 12) (v := ?_) rfl (by kernel_rfl) (by kernel_rfl) (by kernel_rfl) (fun _ _ _ h => h) (Or.inl ⟨by rfl, fun w => by go_simp; first | done | with_reducible rfl⟩) ?_
          refine wpAny_ready (rs := [6, 13]) (by kernel_rfl) (by simp) ?_
          refine AllReady.cons rfl (fun K hK => ?_) ?_
          · go_simp
            refine hK _ _ ?_
            clear hK K
            refine wpAny_ready (rs := [13, 14]) (by kernel_rfl) (by simp) ?_
            refine AllReady.cons rfl (fun K hK => ?_) ?_
            · go_simp
              refine hK _ _ ?_
              clear hK K
              refine wpAny_ready (rs := [14]) (by kernel_rfl) (by simp) ?_
              refine AllReady.cons rfl (fun K hK => ?_) ?_
              · go_simp
                refine hK _ _ ?_
                clear hK K
                refine wpAny_ready (rs := [15]) (by kernel_rfl) (by simp) ?_
                refine AllReady.cons rfl (fun K hK => ?_) ?_
                · go_simp
                  refine hK _ _ ?_
                  clear hK K
                  refine wpAny_ready (rs := [16]) (by kernel_rfl) (by simp) ?_
                  refine AllReady.cons rfl (fun K hK => ?_) ?_
                  · go_simp
                    refine hK _ _ ?_
                    clear hK K
                    refine wpAny_done (by kernel_rfl) ?_ _
                    exact HF.out
                  exact AllReady.nil
                exact AllReady.nil
              exact AllReady.nil
            refine AllReady.cons rfl (fun K hK => ?_) ?_
            · go_simp
              refine hK _ _ ?_
              clear hK K
              refine wpAny_ready (rs := [13]) (by kernel_rfl) (by simp) ?_
              refine AllReady.cons rfl (fun K hK => ?_) ?_
              · go_simp
                refine hK _ _ ?_
                clear hK K
                refine wpAny_ready (rs := [15]) (by kernel_rfl) (by simp) ?_
                refine AllReady.cons rfl (fun K hK => ?_) ?_
                · go_simp
                  refine hK _ _ ?_
                  clear hK K
                  refine wpAny_ready (rs := [16]) (by kernel_rfl) (by simp) ?_
                  refine AllReady.cons rfl (fun K hK => ?_) ?_
                  · go_simp
                    refine hK _ _ ?_
                    clear hK K
                    refine wpAny_done (by kernel_rfl) ?_ _
                    exact HF.out
                  exact AllReady.nil
                exact AllReady.nil
              exact AllReady.nil
            exact AllReady.nil
          refine AllReady.cons rfl (fun K hK => ?_) ?_
          · go_simp
            refine hK _ _ ?_
            clear hK K
            refine wpAny_ready (rs := [6]) (by kernel_rfl) (by simp) ?_
            refine AllReady.cons rfl (fun K hK => ?_) ?_
            · go_simp
              refine hK _ _ ?_
              clear hK K
              refine wpAny_ready (rs := [14]) (by kernel_rfl) (by simp) ?_
              refine AllReady.cons rfl (fun K hK => ?_) ?_
              · go_simp
                refine hK _ _ ?_
                clear hK K
                refine wpAny_ready (rs := [15]) (by kernel_rfl) (by simp) ?_
                refine AllReady.cons rfl (fun K hK => ?_) ?_
                · go_simp
                  refine hK _ _ ?_
                  clear hK K
                  refine wpAny_ready (rs := [16]) (by kernel_rfl) (by simp) ?_
                  refine AllReady.cons rfl (fun K hK => ?_) ?_
                  · go_simp
                    refine hK _ _ ?_
                    clear hK K
                    refine wpAny_done (by kernel_rfl) ?_ _
                    exact HF.out
                  exact AllReady.nil
                exact AllReady.nil
              exact AllReady.nil
            exact AllReady.nil
          exact AllReady.nil
        exact AllReady.nil
      refine AllReady.cons rfl (fun K hK => ?_) ?_
      · go_simp
        refine hK _ _ ?_
        clear hK K
        refine wpAny_take (i := 11) (v := ?_) rfl (by kernel_rfl) (by kernel_rfl) (by kernel_rfl) (fun _ _ _ h => h) (Or.inl ⟨by rfl, fun w => by go_simp; first | done | with_reducible rfl⟩) ?_
        refine wpAny_take (i := 12) (v := ?_) rfl (by kernel_rfl) (by kernel_rfl) (by kernel_rfl) (fun _ _ _ h => h) (Or.inl ⟨by rfl, fun w => by go_simp; first | done | with_reducible rfl⟩) ?_
        refine wpAny_ready (rs := [3, 13]) (by kernel_rfl) (by simp) ?_
        refine AllReady.cons rfl (fun K hK => ?_) ?_
        · go_simp
          refine hK _ _ ?_
          clear hK K
          refine wpAny_take (i := 4) (v := ?_) rfl (by kernel_rfl) (by kernel_rfl) (by kernel_rfl) (fun _ _ _ h => h) (Or.inl ⟨by rfl, fun w => by go_simp; first | done | with_reducible rfl⟩) ?_
          refine wpAny_take (i := 5) (v := ?_) rfl (by kernel_rfl) (by kernel_rfl) (by kernel_rfl) (fun _ _ _ h => h) (Or.inl ⟨by rfl, fun w => by go_simp; first | done | with_reducible rfl⟩) ?_
          refine wpAny_ready (rs := [6, 13]) (by kernel_rfl) (by simp) ?_
          refine AllReady.cons rfl (fun K hK => ?_) ?_
          · go_simp
            refine hK _ _ ?_
            clear hK K
            refine wpAny_ready (rs := [13, 14]) (by kernel_rfl) (by simp) ?_
            refine AllReady.cons rfl (fun K hK => ?_) ?_
            · go_simp
              refine hK _ _ ?_
              clear hK K
              refine wpAny_ready (rs := [14]) (by kernel_rfl) (by simp) ?_
              refine AllReady.cons rfl (fun K hK => ?_) ?_
              · go_simp
                refine hK _ _ ?_
                clear hK K
                refine wpAny_ready (rs := [15]) (by kernel_rfl) (by simp) ?_
                refine AllReady.cons rfl (fun K hK => ?_) ?_
                · go_simp
                  refine hK _ _ ?_
                  clear hK K
                  refine wpAny_ready (rs := [16]) (by kernel_rfl) (by simp) ?_
                  refine AllReady.cons rfl (fun K hK => ?_) ?_
                  · go_simp
                    refine hK _ _ ?_
                    clear hK K
                    refine wpAny_done (by kernel_rfl) ?_ _
                    exact HF.out
                  exact AllReady.nil
                exact AllReady.nil
              exact AllReady.nil
            refine AllReady.cons rfl (fun K hK => ?_) ?_
            · go_simp
              refine hK _ _ ?_
              clear hK K
              refine wpAny_ready (rs := [13]) (by kernel_rfl) (by simp) ?_
              refine AllReady.cons rfl (fun K hK => ?_) ?_
              · go_simp
                refine hK _ _ ?_
                clear hK K
                refine wpAny_ready (rs := [15]) (by kernel_rfl) (by simp) ?_
                refine AllReady.cons rfl (fun K hK => ?_) ?_
                · go_simp
                  refine hK _ _ ?_
                  clear hK K
                  refine wpAny_ready (rs := [16]) (by kernel_rfl) (by simp) ?_
                  refine AllReady.cons rfl (fun K hK => ?_) ?_
                  · go_simp
                    refine hK _ _ ?_
                    clear hK K
                    refine wpAny_done (by kernel_rfl) ?_ _
                    exact HF.out
                  exact AllReady.nil
                exact AllReady.nil
              exact AllReady.nil
            exact AllReady.nil
          refine AllReady.cons rfl (fun K hK => ?_) ?_
          · go_simp
            refine hK _ _ ?_
            clear hK K
            refine wpAny_ready (rs := [6]) (by kernel_rfl) (by simp) ?_
            refine AllReady.cons rfl (fun K hK => ?_) ?_
            · go_simp
              refine hK _ _ ?_
              clear hK K
              refine wpAny_ready (rs := [14]) (by kernel_rfl) (by simp) ?_
              refine AllReady.cons rfl (fun K hK => ?_) ?_
              · go_simp
                refine hK _ _ ?_
                clear hK K
                refine wpAny_ready (rs := [15]) (by kernel_rfl) (by simp) ?_
                refine AllReady.cons rfl (fun K hK => ?_) ?_
                · go_simp
                  refine hK _ _ ?_
                  clear hK K
                  refine wpAny_ready (rs := [16]) (by kernel_rfl) (by simp) ?_
                  refine AllReady.cons rfl (fun K hK => ?_) ?_
                  · go_simp
                    refine hK _ _ ?_
                    clear hK K
                    refine wpAny_done (by kernel_rfl) ?_ _
                    exact HF.out
                  exact AllReady.nil
                exact AllReady.nil
              exact AllReady.nil
            exact AllReady.nil
          exact AllReady.nil
        refine AllReady.cons rfl (fun K hK => ?_) ?_
        · go_simp
          refine hK _ _ ?_
          clear hK K
          refine wpAny_ready (rs := [3]) (by kernel_rfl) (by simp) ?_
          refine AllReady.cons rfl (fun K hK => ?_) ?_
          · go_simp
            refine hK _ _ ?_
            clear hK K
            refine wpAny_take (i := 4) (v := ?_) rfl (by kernel_rfl) (by kernel_rfl) (by kernel_rfl) (fun _ _ _ h => h) (Or.inl ⟨by rfl, fun w => by go_simp; first | done | with_reducible rfl⟩) ?_
            refine wpAny_take (i := 5) (v := ?_) rfl (by kernel_rfl) (by kernel_rfl) (by kernel_rfl) (fun _ _ _ h => h) (Or.inl ⟨by rfl, fun w => by go_simp; first | done | with_reducible rfl⟩) ?_
            refine wpAny_ready (rs := [6]) (by kernel_rfl) (by simp) ?_
            refine AllReady.cons rfl (fun K hK => ?_) ?_
            · go_simp
              refine hK _ _ ?_
              clear hK K
              refine wpAny_ready (rs := [14]) (by kernel_rfl) (by simp) ?_
              refine AllReady.cons rfl (fun K hK => ?_) ?_
              · go_simp
                refine hK _ _ ?_
                clear hK K
                refine wpAny_ready (rs := [15]) (by kernel_rfl) (by simp) ?_
                refine AllReady.cons rfl (fun K hK => ?_) ?_
                · go_simp
                  refine hK _ _ ?_
                  clear hK K
                  refine wpAny_ready (rs := [16]) (by kernel_rfl) (by simp) ?_
                  refine AllReady.cons rfl (fun K hK => ?_) ?_
                  · go_simp
                    refine hK _ _ ?_
                    clear hK K
                    refine wpAny_done (by kernel_rfl) ?_ _
                    exact HF.out
                  exact AllReady.nil
                exact AllReady.nil
              exact AllReady.nil
            exact AllReady.nil
          exact AllReady.nil
        exact AllReady.nil
      exact AllReady.nil
  case done =>
    rintro D ys W hD hS ⟨hL, hB⟩ hK
    have hlng : lngL L ys = lngTo L a 33 := by
      obtain ⟨⟨h1, h2⟩, h3⟩ := hS
      rw [lngL_to L _ ys rfl h1]
      rcases h3 with h3 | h3
      · rw [h3]
      · exact (lngTo_stop (fun j hj hj2 => HAL2.out.2.2.no (HAL2.out.2.2.deep a0 a1 h3 j hj hj2)) 33 (by omega) (by omega)).symm
    rw [hlng] at hL
    obtain ⟨q, hq⟩ : ∃ q, lngTo L a 33 = q := ⟨_, rfl⟩
    have hvq : ∃ vi vr va vn vc : Int, lV zI q = ifV ⟨vi, vr, va, vn, vc⟩ := by
      rcases q with _ | e
      · exact ⟨0, 0, 0, 0, 0, rfl⟩
      · obtain ⟨d, _, hd⟩ := lngTo_some hq
        obtain ⟨⟨vi, vr, va, vn, vc⟩, hv⟩ := HVAL.out e (atT_some hd).1
        exact ⟨vi, vr, va, vn, vc, hv⟩
    obtain ⟨vi, vr, va, vn, vc, hv0⟩ := hvq
    obtain ⟨u0, u1, hu⟩ : ∃ u0 u1 : Int, lP q = [.int .u32 u0, .int .i64 u1] := by cases q <;> exact ⟨_, _, rfl⟩
    rw [hq] at hL
    obtain ⟨bq, hbq⟩ : ∃ b, q.isSome = b := ⟨_, rfl⟩
    have hLp := hL.p
    have hLx := hL.x
    have hLb := hL.b
    rw [hu] at hLp
    rw [hv0] at hLx
    rw [hbq] at hLb
    have P0 : W.cell? ⟨P, 0, none⟩ = some (.int .u32 u0) := hLp.cell 0 (by simp)
    have P1 : W.cell? ⟨P, 1, none⟩ = some (.int .i64 u1) := hLp.cell 1 (by simp)
    have hLx : Blk W (P + 1) 34 [.int .i64 vi, .int .i64 vr, .int .u32 va, .int .i64 vn, .int .i64 vc] := hLx
    obtain ⟨X0, X1, X2, X3, X4⟩ := if_boxes hLx
    have B0 : W.cell? ⟨P + 1 + 1, 0, none⟩ = some (.bool bq) := hLb.cell 0 (by simp)
    have F0 := hLp.f 0
    have F1 := hLp.f 1
    have FX0 := hLx.f 0
    have FX1 := hLx.f 1
    have FX2 := hLx.f 2
    have FX3 := hLx.f 3
    have FX4 := hLx.f 4
    have FB : W.frozen? ⟨P + 1 + 1, 0, none⟩ = false := hLb.f 0
    have HLL := Lib.hid (show Blk W P 32 [.int .u32 u0, .int .i64 u1] ∧ Blk W (P + 1) 34 [.int .i64 vi, .int .i64 vr, .int .u32 va, .int .i64 vn, .int .i64 vc] ∧ Blk W (P + 2) 4 [.bool bq] ∧ Below w.heap.size w W from ⟨hLp, hLx, hLb, hB⟩)
    have HQ := Lib.hid (show lngTo L a 33 = q ∧ lP q = [.int .u32 u0, .int .i64 u1] ∧ lV zI q = ifV ⟨vi, vr, va, vn, vc⟩ ∧ q.isSome = bq from ⟨hq, hu, hv0, hbq⟩)
    obtain ⟨W4, hW4⟩ : ∃ W4, (lnW W P (.int .u32 u0) (.int .i64 u1) (.int .i64 vi) (.int .i64 vr) (.int .u32 va) (.int .i64 vn) (.int .i64 vc) (.bool bq)).drew = W4 := ⟨_, rfl⟩
    have HW4 := Lib.hid hW4
    unfold lnW at HW4
    have hK2 : W4.heap[D]? = some (.deferred (some [])) := by
      rw [← hW4]
      exact (lnW_k W P (.int .u32 u0) (.int .i64 u1) (.int .i64 vi) (.int .i64 vr) (.int .u32 va) (.int .i64 vn) (.int .i64 vc) (.bool bq)).same D _ hK rfl
    have hC : ∀ b o v, W4.cell? ⟨b, o, none⟩ = some v → (W4.putObj D (.deferred none)).cell? ⟨b, o, none⟩ = some v := fun b o v h => cell_kept h (grownBy_putObj' _ D (.deferred none)) (fun r e => by cases e; exact ⟨_, hK2, rfl⟩)
    have HPB := HP.out
    have bP : Blk W4 P 32 [.int .u32 u0, .int .i64 u1] := hW4 ▸ lnW_p hLp (.int .u32 u0) (.int .i64 u1) (.int .i64 vi) (.int .i64 vr) (.int .u32 va) (.int .i64 vn) (.int .i64 vc) (.bool bq)
    have bX : Blk W4 (P + 1) 34 [.int .i64 vi, .int .i64 vr, .int .u32 va, .int .i64 vn, .int .i64 vc] := hW4 ▸ lnW_x hLx (.int .u32 u0) (.int .i64 u1) (.int .i64 vi) (.int .i64 vr) (.int .u32 va) (.int .i64 vn) (.int .i64 vc) (.bool bq)
    have bB : Blk W4 (P + 2) 4 [.bool bq] := hW4 ▸ lnW_b hLb (.int .u32 u0) (.int .i64 u1) (.int .i64 vi) (.int .i64 vr) (.int .u32 va) (.int .i64 vn) (.int .i64 vc) (.bool bq)
    have hBW : Below w.heap.size w W4 := hW4 ▸ lnW_below hB (by omega) (.int .u32 u0) (.int .i64 u1) (.int .i64 vi) (.int .i64 vr) (.int .u32 va) (.int .i64 vn) (.int .i64 vc) (.bool bq)
    have HFF := Lib.hid (show W4.heap[D]? = some (.deferred (some [])) ∧ (W4.putObj D (.deferred none)).cell? ⟨P, 0, none⟩ = some (.int .u32 u0) ∧ (W4.putObj D (.deferred none)).cell? ⟨P, 1, none⟩ = some (.int .i64 u1) ∧ (W4.putObj D (.deferred none)).cell? ⟨P + 1, 0, none⟩ = some (.int .i64 vi) ∧ (W4.putObj D (.deferred none)).cell? ⟨P + 1, 1, none⟩ = some (.int .i64 vr) ∧ (W4.putObj D (.deferred none)).cell? ⟨P + 1, 2, none⟩ = some (.int .u32 va) ∧ (W4.putObj D (.deferred none)).cell? ⟨P + 1, 3, none⟩ = some (.int .i64 vn) ∧ (W4.putObj D (.deferred none)).cell? ⟨P + 1, 4, none⟩ = some (.int .i64 vc) ∧ (W4.putObj D (.deferred none)).cell? ⟨P + 1 + 1, 0, none⟩ = some (.bool bq) ∧ Below w.heap.size w (W4.putObj D (.deferred none)) from
      ⟨hK2, hC _ _ _ (bP.cell 0 (by simp)), hC _ _ _ (bP.cell 1 (by simp)), hC _ _ _ (bX.cell 0 (by simp)), hC _ _ _ (bX.cell 1 (by simp)), hC _ _ _ (bX.cell 2 (by simp)), hC _ _ _ (bX.cell 3 (by simp)), hC _ _ _ (bX.cell 4 (by simp)), hC _ _ _ (bB.cell 0 (by simp)), hBW.trans (belowK_b (w := w) (Nat.le_refl _) _ D _ _ (Nat.le_trans HAL2.out.1.size hD) hK2 rfl rfl)⟩)
    clear hL hLp hLx hLb hB hS hlng hq hv0 hu hbq hW4 hK2 hC bP bX bB hBW HPB
    gi_wp2
    gi_region_with (fail)
    all_goals
      gi_wp2
      rw [HW4.out]
      obtain ⟨hK2, c0, c1, cx0, cx1, cx2, cx3, cx4, cb, hBF⟩ := HFF.out
      refine ⟨by simp, .inl ⟨_, _, rfl, run_takeDeferred hK2, ?_⟩⟩
      refine ⟨.tuple #[.agg #[.int .u32 u0, .int .i64 u1], .agg #[.int .i64 vi, .int .i64 vr, .int .u32 va, .int .i64 vn, .int .i64 vc], .bool bq], by simp [results, Try.results38, go_sem, c0, c1, cx0, cx1, cx2, cx3, cx4, cb], ?_, hBF⟩
      rw [HQ.out.1, HQ.out.2.1, HQ.out.2.2.1, HQ.out.2.2.2]
  case stop =>
    rintro D c pre W hD _ h _
    exact h.elim
end Go.Proofs.Ytlkpalaakncicaa
