/- capa: carry, Get, Stamp, Limit. / capa: Get, Stamp, Limit. / capa: Stamp, Limit; nil ones. / capa: All. -/
import Derived.Test.YtlkpalaakncicaaY3
import Derived.Test.YtlkpalaakncicaaWD
import Derived.Test.YtlkpalaakncicaaWM
namespace Go.Proofs.Ytlkpalaakncicaa
open Go.RowKit Go.Maps
set_option linter.unusedVariables false
set_option linter.unusedSimpArgs false
set_option maxRecDepth 100000

theorem Blk.three {w : World} {P : Nat} {t : TypeId} {u0 u1 u2 : Value} (h : Blk w P t [u0, u1, u2]) (a b c : Value) :
    Blk (((w.setCell ⟨P, 0, none⟩ a).setCell ⟨P, 1, none⟩ b).setCell ⟨P, 2, none⟩ c) P t [a, b, c] := ((h.set 0 a).set 1 b).set 2 c
theorem below_three {B : Nat} {w0 w : World} {P : Nat} (h : Below B w0 w) (hP : B ≤ P) (a b c : Value) :
    Below B w0 (((w.setCell ⟨P, 0, none⟩ a).setCell ⟨P, 1, none⟩ b).setCell ⟨P, 2, none⟩ c) :=
  ((h.setCell (p := ⟨P, 0, none⟩) hP _).setCell (p := ⟨P, 1, none⟩) hP _).setCell (p := ⟨P, 2, none⟩) hP _
def carryV (f : Int → Option Cy) (x : Ifc) : Cy := (f x.id).getD ⟨x.id, x.c, false⟩
def gotC (l : List Ifc) (f : Int → Option Cy) (id : Int) : Cy × Bool := match byId l id with
  | some x => (carryV f x, true)
  | none => (Cy.zero, false)
set_option maxHeartbeats 4000000 in
theorem ccarry_any (w : World) (B c h b mb nn : Nat) (F : Nat → TrF) (l : List Ifc) (f : Int → Option Cy) (S : Nat → Sr) (H : CapAt w B c h b mb nn F l f S) (x : Ifc) (hx : InIf x) :
    Calls Try.prog 52 #[.pointer (some ⟨c, 0, none⟩), ifV x] w fun e w' => e = .returned (cyV (carryV f x)) ∧ Below w.heap.size w w' := by
  obtain ⟨xi, xr, xa, xn, xc⟩ := x
  have hid := hx.id
  dsimp only at hid
  have hb1 := newB w (.cells #[.int .i64 xi, .int .i64 xr, .int .u32 xa, .int .i64 xn, .int .i64 xc] 34)
  have hb2 := newB (w.alloc (.cells #[.int .i64 xi, .int .i64 xr, .int .u32 xa, .int .i64 xn, .int .i64 xc] 34)) (.cells #[.int .i64 0, .int .i64 0, .bool false] 67)
  have hX := (Blk.new w 34 [.int .i64 xi, .int .i64 xr, .int .u32 xa, .int .i64 xn, .int .i64 xc]).next hb2
  have hY := Blk.new (w.alloc (.cells #[.int .i64 xi, .int .i64 xr, .int .u32 xa, .int .i64 xn, .int .i64 xc] 34)) 67 [.int .i64 0, .int .i64 0, .bool false]
  rw [sz_alloc] at hY
  have hb0 := hb1.trans (hb2.mono hb1.size)
  obtain ⟨P, hP⟩ : ∃ P, w.heap.size = P := ⟨_, rfl⟩
  obtain ⟨V, hV⟩ : ∃ V, (w.alloc (.cells #[.int .i64 xi, .int .i64 xr, .int .u32 xa, .int .i64 xn, .int .i64 xc] 34)).alloc (.cells #[.int .i64 0, .int .i64 0, .bool false] 67) = V := ⟨_, rfl⟩
  have hX : Blk V P 34 [.int .i64 xi, .int .i64 xr, .int .u32 xa, .int .i64 xn, .int .i64 xc] := by rw [← hV, ← hP]; exact hX
  have hY : Blk V (P + 1) 67 [.int .i64 0, .int .i64 0, .bool false] := by rw [← hV, ← hP]; exact hY
  have hb0 : Below w.heap.size w V := by rw [← hV]; exact hb0
  obtain ⟨s, hm⟩ := (H.below hb0).map
  obtain ⟨⟨y0, y1, y2⟩, hy⟩ : ∃ y, (f xi).getD Cy.zero = y := ⟨_, rfl⟩
  obtain ⟨o, ho⟩ : ∃ o, (f xi).isSome = o := ⟨_, rfl⟩
  have HR := Lib.hid (show carryV f ⟨xi, xr, xa, xn, xc⟩ = if o then ⟨y0, y1, y2⟩ else ⟨xi, xc, false⟩ from by
    unfold carryV
    rcases hf : f xi with _ | u
    · rw [hf] at ho; cases ho; rfl
    · rw [hf] at ho hy; cases ho; exact hy)
  obtain ⟨R, hR⟩ : ∃ R, carryV f ⟨xi, xr, xa, xn, xc⟩ = R := ⟨_, rfl⟩
  rw [hR] at HR ⊢
  have HX := Lib.hid hX
  have HY := Lib.hid hY
  have HB0 := Lib.hid hb0
  have HVE := Lib.hid hV
  have HPE := Lib.hid hP
  have hsd := (H.below hb0).said
  have HALL := Lib.hid (fun (W : World) (hW : Below V.heap.size V W) => show W.cell? ⟨c, 1, none⟩ = some (.map (some mb)) ∧ W.cell? ⟨P, 0, none⟩ = some (.int .i64 xi) ∧ (Instr.lookup 92 (.map (some mb)) (.int .i64 xi) true).run Try.prog W = .ok (.tuple #[.agg #[.int .i64 y0, .int .i64 y1, .bool y2], .bool o]) W from by
    have h1 := MapAt.look_ok (C := keyIntC) (E := elCyC) (hm.next hW) Try.underlying92 hid
    rw [hy, ho] at h1
    exact ⟨kept hW hsd, (hX.next hW).cell 0 (by simp), h1⟩)
  clear hX hY hb0 hb1 hb2 hV hP hm hy ho hR hsd H hx
  go_enter Try.func52, Try.ntmps52
  go_wp2_with fail
  rw [HVE.out, HPE.out]
  go_region_held_law (fun W => W.cell? ⟨c, 1, none⟩ = some (.map (some mb)) ∧ W.cell? ⟨P, 0, none⟩ = some (.int .i64 xi) ∧ (Instr.lookup 92 (.map (some mb)) (.int .i64 xi) true).run Try.prog W = .ok (.tuple #[.agg #[.int .i64 y0, .int .i64 y1, .bool y2], .bool o]) W) (first | exact HALL.out _ (Below.refl _ _).drew | exact HALL.out _ ((Below.refl _ _).drew.alloc (Nat.le_refl _) _)) (fail)
  all_goals
    have hb3 := (newB V (.cells #[.int .i64 y0, .int .i64 y1, .bool y2] 67)).drew
    have hZ : Blk (V.alloc (.cells #[.int .i64 y0, .int .i64 y1, .bool y2] 67)).drew V.heap.size 67 [.int .i64 y0, .int .i64 y1, .bool y2] := (Blk.new V 67 [.int .i64 y0, .int .i64 y1, .bool y2])
    obtain ⟨V2, hV2⟩ : ∃ V2, (V.alloc (.cells #[.int .i64 y0, .int .i64 y1, .bool y2] 67)).drew = V2 := ⟨_, rfl⟩
    obtain ⟨Q, hQ⟩ : ∃ Q, V.heap.size = Q := ⟨_, rfl⟩
    rw [hV2] at hb3 hZ ⊢
    have HB3 := Lib.hid (HB0.out.trans (hb3.mono HB0.out.size))
    have hX3 := HX.out.next hb3
    have hY3 := HY.out.next hb3
    have HY3 := Lib.hid hY3
    rw [hQ] at hZ ⊢
    obtain ⟨z0, z1, z2⟩ := cy_boxes hZ
    obtain ⟨d0, d1, d2⟩ := cy_boxes hY3
    have f0 := hY3.f 0
    have f1 := hY3.f 1
    have f2 := hY3.f 2
    have x0 := hX3.cell 0 (by simp)
    have x4 := hX3.cell 4 (by simp)
    simp only [List.getD_cons_zero, List.getD_cons_succ] at x0 x4
    clear hV2 hQ hb3 hZ hX3 hY3 HALL
    rcases o with _ | _
    · obtain rfl : R = ⟨xi, xc, false⟩ := HR.out
      go_wp2_with fail
      obtain ⟨r0, r1, r2⟩ := cy_boxes (Blk.three HY3.out (.int .i64 xi) (.int .i64 xc) (.bool false))
      exact bodyPost_ret (v := .agg #[.int .i64 xi, .int .i64 xc, .bool false]) (by simp [results, Try.results52, go_sem, r0, r1, r2]) rfl ⟨rfl, below_three HB3.out (by rw [HPE.out]; omega) _ _ _⟩
    · obtain rfl : R = ⟨y0, y1, y2⟩ := HR.out
      go_wp2_with fail
      obtain ⟨r0, r1, r2⟩ := cy_boxes (Blk.three HY3.out (.int .i64 y0) (.int .i64 y1) (.bool y2))
      exact bodyPost_ret (v := .agg #[.int .i64 y0, .int .i64 y1, .bool y2]) (by simp [results, Try.results52, go_sem, r0, r1, r2]) rfl ⟨rfl, below_three HB3.out (by rw [HPE.out]; omega) _ _ _⟩
end Go.Proofs.Ytlkpalaakncicaa
namespace Go.Proofs.Ytlkpalaakncicaa
open Go.RowKit Go.Maps
set_option linter.unusedVariables false
set_option linter.unusedSimpArgs false
set_option maxRecDepth 100000

theorem byId_in {l : List Ifc} {id : Int} {x : Ifc} (h : byId l id = some x) (hin : ∀ x ∈ l, InIf x) : InIf x := by
  unfold byId at h
  exact hin x (List.mem_of_find?_eq_some h)
set_option maxHeartbeats 8000000 in
theorem cget_any (w : World) (B c h b mb nn : Nat) (F : Nat → TrF) (l : List Ifc) (f : Int → Option Cy) (S : Nat → Sr) (H : CapAt w B c h b mb nn F l f S) (hin : ∀ x ∈ l, InIf x) (id : Int) (hid : (Lit.int .i64 id).wf = true) :
    Calls Try.prog 30 #[.pointer (some ⟨c, 0, none⟩), .int .i64 id] w fun e w' => e = .returned (.tuple #[cyV (gotC l f id).1, .bool (gotC l f id).2]) ∧ Below w.heap.size w w' := by
  have hb0 := newB w (.cells #[.int .i64 0, .int .i64 0, .bool false] 67)
  have hY := Blk.new w 67 [.int .i64 0, .int .i64 0, .bool false]
  obtain ⟨P, hP⟩ : ∃ P, w.heap.size = P := ⟨_, rfl⟩
  obtain ⟨V, hV⟩ : ∃ V, w.alloc (.cells #[.int .i64 0, .int .i64 0, .bool false] 67) = V := ⟨_, rfl⟩
  rw [hV] at hb0 hY
  rw [hP] at hY
  obtain ⟨⟨x0, x1, x2, x3, x4⟩, hx⟩ : ∃ x, (byId l id).getD Ifc.zero = x := ⟨_, rfl⟩
  obtain ⟨bs, hbs⟩ : ∃ x, (byId l id).isSome = x := ⟨_, rfl⟩
  obtain ⟨g, hg⟩ : ∃ g, gotC l f id = g := ⟨_, rfl⟩
  have HG := Lib.hid (show g = if bs then (carryV f ⟨x0, x1, x2, x3, x4⟩, true) else (Cy.zero, false) from by
    rw [← hg]
    unfold gotC
    rcases hf : byId l id with _ | u
    · rw [hf] at hbs; cases hbs; rfl
    · rw [hf] at hbs hx; cases hbs
      have hx : u = ⟨x0, x1, x2, x3, x4⟩ := hx
      rw [hx]; rfl)
  have HINX := Lib.hid (fun (hb : bs = true) => show InIf ⟨x0, x1, x2, x3, x4⟩ from by
    rcases hf : byId l id with _ | u
    · rw [hf, hb] at hbs; cases hbs
    · rw [hf] at hx
      have hx : u = ⟨x0, x1, x2, x3, x4⟩ := hx
      rw [← hx]; exact byId_in hf hin)
  rw [hg]
  have HB0 := Lib.hid hb0
  have HVE := Lib.hid hV
  have HPE := Lib.hid hP
  have HY := Lib.hid hY
  have HK := Lib.hid (H.below hb0)
  have HI := Lib.hid (show Calls Try.prog 13 #[.pointer (some ⟨h, 0, none⟩), .int .i64 id] V fun e w' => e = .returned (.tuple #[.agg #[.int .i64 x0, .int .i64 x1, .int .u32 x2, .int .i64 x3, .int .i64 x4], .bool bs]) ∧ Below V.heap.size V w' from by
    have h1 := hiface_any V B h b F l (H.hop.below hb0) id hid
    rw [hx, hbs] at h1
    exact h1)
  have htab := HK.out.tab
  clear hx hbs hg hV hb0 hY hP H hin
  go_enter Try.func30, Try.ntmps30
  go_wp2_with fail
  rw [HVE.out, HPE.out]
  refine (cclosed_any V c h htab).mono ?_
  rintro e w' ⟨rfl, rfl⟩
  go_wp2_with fail
  refine HI.out.mono ?_
  rintro e V1 ⟨rfl, hb⟩
  have hb2 := newB V1 (.cells #[.int .i64 x0, .int .i64 x1, .int .u32 x2, .int .i64 x3, .int .i64 x4] 34)
  have hZ := Blk.new V1 34 [.int .i64 x0, .int .i64 x1, .int .u32 x2, .int .i64 x3, .int .i64 x4]
  have hb3 := hb.trans (hb2.mono hb.size)
  obtain ⟨V2, hV2⟩ : ∃ V2, V1.alloc (.cells #[.int .i64 x0, .int .i64 x1, .int .u32 x2, .int .i64 x3, .int .i64 x4] 34) = V2 := ⟨_, rfl⟩
  rw [hV2] at hb3 hZ
  have hY2 := HY.out.next hb3
  have HY2 := Lib.hid hY2
  have HK2 := Lib.hid (HK.out.below hb3)
  have HB2 := Lib.hid (HB0.out.trans (hb3.mono HB0.out.size))
  have HV2 := Lib.hid hV2
  obtain ⟨z0, z1, z2, z3, z4⟩ := if_boxes hZ
  obtain ⟨d0, d1, d2⟩ := cy_boxes hY2
  have f0 := hY2.f 0
  have f1 := hY2.f 1
  have f2 := hY2.f 2
  rw [← hV2] at z0 z1 z2 z3 z4 d0 d1 d2 f0 f1 f2
  clear hb hb2 hb3 hZ hY2 hV2 htab HI HK HY
  rcases bs with _ | _
  · obtain rfl : g = (Cy.zero, false) := HG.out
    go_wp2_with fail
    rw [HV2.out]
    obtain ⟨r0, r1, r2⟩ := cy_boxes (Blk.three HY2.out (.int .i64 0) (.int .i64 0) (.bool false))
    exact bodyPost_ret (v := .tuple #[.agg #[.int .i64 0, .int .i64 0, .bool false], .bool false]) (by simp [results, Try.results30, go_sem, r0, r1, r2]) rfl ⟨rfl, below_three HB2.out (by rw [HPE.out]; exact Nat.le_refl _) _ _ _⟩
  · have hca := ccarry_any V2 B c h b mb nn F l f S HK2.out ⟨x0, x1, x2, x3, x4⟩ (HINX.out rfl)
    obtain ⟨⟨r0, r1, r2⟩, hr⟩ : ∃ r, carryV f ⟨x0, x1, x2, x3, x4⟩ = r := ⟨_, rfl⟩
    rw [hr] at hca HG
    have HCA := Lib.hid (show Calls Try.prog 52 #[.pointer (some ⟨c, 0, none⟩), .agg #[.int .i64 x0, .int .i64 x1, .int .u32 x2, .int .i64 x3, .int .i64 x4]] V2 fun e w' => e = .returned (.agg #[.int .i64 r0, .int .i64 r1, .bool r2]) ∧ Below V2.heap.size V2 w' from hca)
    obtain rfl : g = (⟨r0, r1, r2⟩, true) := HG.out
    clear hca hr
    go_wp2_with fail
    rw [HV2.out]
    refine HCA.out.mono ?_
    rintro e V3 ⟨rfl, hb⟩
    have hY3 := HY2.out.next hb
    have HY3 := Lib.hid hY3
    have HB3 := Lib.hid (HB2.out.trans (hb.mono HB2.out.size))
    clear z0 z1 z2 z3 z4 d0 d1 d2 f0 f1 f2
    obtain ⟨d0, d1, d2⟩ := cy_boxes hY3
    have f0 := hY3.f 0
    have f1 := hY3.f 1
    have f2 := hY3.f 2
    clear hY3 hb
    go_wp2_with fail
    obtain ⟨q0, q1, q2⟩ := cy_boxes (Blk.three HY3.out (.int .i64 r0) (.int .i64 r1) (.bool r2))
    exact bodyPost_ret (v := .tuple #[.agg #[.int .i64 r0, .int .i64 r1, .bool r2], .bool true]) (by simp [results, Try.results30, go_sem, q0, q1, q2]) rfl ⟨rfl, below_three HB3.out (by rw [HPE.out]; exact Nat.le_refl _) _ _ _⟩
end Go.Proofs.Ytlkpalaakncicaa
namespace Go.Proofs.Ytlkpalaakncicaa
open Go.RowKit Go.Maps
set_option linter.unusedVariables false
set_option linter.unusedSimpArgs false
set_option maxRecDepth 100000

def stampC (S : Nat → Sr) (src : Int) : Int × Bool := if isR src then ((S src.toNat).a, (S src.toNat).h) else (0, false)
set_option maxHeartbeats 4000000 in
theorem cstamp_any (w : World) (B c h b mb nn : Nat) (F : Nat → TrF) (l : List Ifc) (f : Int → Option Cy) (S : Nat → Sr) (H : CapAt w B c h b mb nn F l f S) (src : Int) :
    Calls Try.prog 26 #[.pointer (some ⟨c, 0, none⟩), .int .i64 src] w fun e w' => e = .returned (.tuple #[.int .i64 (stampC S src).1, .bool (stampC S src).2]) ∧ Below w.heap.size w w' := by
  have htab := H.tab
  have HR := Lib.hid (fun u => cisSource_any src u)
  obtain ⟨s, hs⟩ : ∃ s, stampC S src = s := ⟨_, rfl⟩
  rw [hs]
  have HS := Lib.hid hs
  rcases hr : isR src with _ | _
  · rw [hr] at HR
    have hs : s = (0, false) := by rw [← HS.out]; unfold stampC; rw [hr]; rfl
    subst hs
    go_enter Try.func26, Try.ntmps26
    go_wp2_with (first
      | (go_at_call 49; refine (cclosed_any _ c h htab).mono ?_; rintro e w' ⟨rfl, rfl⟩)
      | (go_at_call 47; refine (HR.out _).mono ?_; rintro e w' ⟨rfl, rfl⟩))
    exact bodyPost_ret (v := .tuple #[.int .i64 0, .bool false]) (by simp [results, Try.results26, go_sem]) rfl ⟨rfl, Below.refl _ _⟩
  · rw [hr] at HR
    obtain ⟨i, rfl, hi⟩ : ∃ i : Nat, src = i ∧ i < 16 := by
      unfold isR at hr
      rw [Bool.and_eq_true, decide_eq_true_eq, decide_eq_true_eq] at hr
      exact ⟨src.toNat, by omega, by omega⟩
    have hs : s = ((S i).a, (S i).h) := by rw [← HS.out]; unfold stampC; rw [hr]; rfl
    subst hs
    obtain ⟨s0, s1, s2⟩ := H.sr hi
    change w.cell? ⟨c, 2 + i * 3 + 1 + 1, none⟩ = some (.bool (S i).h) at s2
    obtain ⟨⟨sq, sa, sh⟩, hsr⟩ : ∃ s, S i = s := ⟨_, rfl⟩
    rw [hsr] at s0 s1 s2 ⊢
    dsimp only at s0 s1 s2 ⊢
    have i0 : (0 : Int) ≤ (i : Int) := by omega
    have i16 : (i : Int) < 16 := by omega
    have hb := newB w (.cells #[.int .i64 sa, .bool sh] 94)
    have HB := Lib.hid hb
    have hz := Blk.new w 94 [.int .i64 sa, .bool sh]
    have z0 := hz.cell 0 (by simp)
    have z1 := hz.cell 1 (by simp)
    simp only [List.getD_cons_zero, List.getD_cons_succ] at z0 z1
    clear HS hsr hr hb H hz
    go_enter Try.func26, Try.ntmps26
    go_wp2_with (first
      | (go_at_call 49; refine (cclosed_any _ c h htab).mono ?_; rintro e w' ⟨rfl, rfl⟩)
      | (go_at_call 47; refine (HR.out _).mono ?_; rintro e w' ⟨rfl, rfl⟩))
    go_quiet (fail)
    go_wp2_with fail
    exact bodyPost_ret (v := .tuple #[.int .i64 sa, .bool sh]) (by simp [results, Try.results26, go_sem]) rfl ⟨rfl, HB.out.trans (below_dN _ _ _)⟩
/-- Nil ones. -/
theorem cget_nil (w : World) (id : Int) : Calls Try.prog 30 #[.pointer none, .int .i64 id] w fun e w' => e = .returned (.tuple #[.agg #[.int .i64 0, .int .i64 0, .bool false], .bool false]) ∧ Below w.heap.size w w' := by
  have HB := Lib.hid (newB w (.cells #[.int .i64 0, .int .i64 0, .bool false] 67))
  have HY := Lib.hid (Blk.new w 67 [.int .i64 0, .int .i64 0, .bool false])
  obtain ⟨d0, d1, d2⟩ := cy_boxes HY.out
  have f0 := HY.out.f 0
  have f1 := HY.out.f 1
  have f2 := HY.out.f 2
  go_enter Try.func30, Try.ntmps30
  go_wp2_with (go_at_call 49; refine (cclosed_nil _).mono ?_; rintro e w' ⟨rfl, rfl⟩)
  exact bodyPost_ret (v := .tuple #[.agg #[.int .i64 0, .int .i64 0, .bool false], .bool false]) (by simp [results, Try.results30, go_sem, d0, d1, d2]) rfl ⟨rfl, HB.out⟩
theorem call_nil (w : World) : Calls Try.prog 29 #[.pointer none] w fun e w' => e = .returned (.slice none 0 0) ∧ Below w.heap.size w w' := by
  go_enter Try.func29, Try.ntmps29
  go_wp2_with (go_at_call 49; refine (cclosed_nil _).mono ?_; rintro e w' ⟨rfl, rfl⟩)
  go_ret
  exact ⟨rfl, Below.refl _ _⟩
theorem ctake_nil (w : World) (src seq now : Int) (p : Option Addr) (n c' : Nat) : Calls Try.prog 24 #[.pointer none, .agg #[.int .i64 src, .int .i64 seq, .slice p n c'], .int .i64 now] w fun e w' => e = .returned (.int .i64 6) ∧ Below w.heap.size w w' := by
  have hb1 := newB w (.cells #[.pointer none] 46)
  have HB := Lib.hid (hb1.trans ((newB (w.alloc (.cells #[.pointer none] 46)) (.cells #[.int .i64 src, .int .i64 seq, .slice p n c'] 53)).mono hb1.size))
  clear hb1
  go_enter Try.func24, Try.ntmps24
  go_wp2_with (go_at_call 49; refine (cclosed_nil _).mono ?_; rintro e w' ⟨rfl, rfl⟩)
  go_ret
  exact ⟨rfl, HB.out⟩
/-- So many thousandths. -/
def limC (x : Cy) (m : Int) : Int := if x.d then 0 else partQ x.c (min m 1000) 1000
theorem below_Drew {w w' : World} (h : Drew w w') : Below w.heap.size w w' := by
  obtain ⟨n, rfl⟩ := h
  exact below_dN _ _ _
theorem climit_nil (w : World) (id m : Int) : Calls Try.prog 32 #[.pointer none, .int .i64 id, .int .i64 m] w fun e w' => e = .returned (.int .i64 0) ∧ Below w.heap.size w w' := by
  have HG := Lib.hid (cget_nil w id)
  go_enter Try.func32, Try.ntmps32
  go_wp2_with fail
  refine HG.out.mono ?_
  rintro e V ⟨rfl, hb⟩
  have hb2 := newB V (.cells #[.int .i64 0, .int .i64 0, .bool false] 67)
  have HB := Lib.hid (hb.trans (hb2.mono hb.size))
  have HP := Lib.hid (fun (mm : Int) (U : World) => part_any 0 mm 1000 U)
  clear hb hb2 HG
  go_wp2_with fail
  refine (HP.out _ _).mono ?_
  rintro e V3 ⟨rfl, hd⟩
  have HB3 := Lib.hid (HB.out.trans ((below_Drew hd).mono HB.out.size))
  clear hd
  go_wp2_with fail
  go_ret
  have : partQ 0 (min m 1000) 1000 = 0 := by
    unfold partQ partV
    rw [show near 1000 = 1000 by decide, if_neg (by decide), show near 0 = 0 by decide, Int.zero_mul]; rfl
  exact ⟨ret_int this, HB3.out⟩
set_option maxHeartbeats 4000000 in
theorem climit_any (w : World) (B c h b mb nn : Nat) (F : Nat → TrF) (l : List Ifc) (f : Int → Option Cy) (S : Nat → Sr) (H : CapAt w B c h b mb nn F l f S) (hin : ∀ x ∈ l, InIf x) (id : Int) (hid : (Lit.int .i64 id).wf = true) (m : Int) :
    Calls Try.prog 32 #[.pointer (some ⟨c, 0, none⟩), .int .i64 id, .int .i64 m] w fun e w' => e = .returned (.int .i64 (limC (gotC l f id).1 m)) ∧ Below w.heap.size w w' := by
  have hg := cget_any w B c h b mb nn F l f S H hin id hid
  obtain ⟨⟨⟨g0, g1, g2⟩, go⟩, hgo⟩ : ∃ g, gotC l f id = g := ⟨_, rfl⟩
  rw [hgo] at hg ⊢
  have HG := Lib.hid (show Calls Try.prog 30 #[.pointer (some ⟨c, 0, none⟩), .int .i64 id] w fun e w' => e = .returned (.tuple #[.agg #[.int .i64 g0, .int .i64 g1, .bool g2], .bool go]) ∧ Below w.heap.size w w' from hg)
  obtain ⟨r, hr⟩ : ∃ r, limC ⟨g0, g1, g2⟩ m = r := ⟨_, rfl⟩
  have HR := Lib.hid hr
  dsimp only
  rw [hr]
  clear hg hgo H hin hid hr
  go_enter Try.func32, Try.ntmps32
  go_wp2_with fail
  refine HG.out.mono ?_
  rintro e V ⟨rfl, hb⟩
  have hb2 := newB V (.cells #[.int .i64 g0, .int .i64 g1, .bool g2] 67)
  have HB := Lib.hid (hb.trans (hb2.mono hb.size))
  have HP := Lib.hid (fun (mm : Int) (U : World) => part_any g1 mm 1000 U)
  clear hb hb2
  rcases g2 with _ | _
  · go_wp2_with fail
    refine (HP.out _ _).mono ?_
    rintro e V3 ⟨rfl, hd⟩
    have HB3 := Lib.hid (HB.out.trans ((below_Drew hd).mono HB.out.size))
    clear hd
    go_wp2_with fail
    go_ret
    exact ⟨by rw [← HR.out]; rfl, HB3.out⟩
  · go_wp2_with fail
    go_ret
    exact ⟨by rw [← HR.out]; rfl, HB.out⟩
end Go.Proofs.Ytlkpalaakncicaa
namespace Go.Proofs.Ytlkpalaakncicaa
open Go.RowKit Go.Maps
set_option linter.unusedVariables false
set_option linter.unusedSimpArgs false
set_option maxRecDepth 100000

/-- What was said is said of the interface that it stands under. -/
def FOk (f : Int → Option Cy) : Prop := ∀ i y, f i = some y → y.i = i ∧ InCy y
theorem carry_in {f : Int → Option Cy} (hf : FOk f) {x : Ifc} (hx : InIf x) : InCy (carryV f x) := by
  unfold carryV
  rcases h : f x.id with _ | y
  · exact hx.id
  · exact (hf _ _ h).2
def AllCs (w w' : World) (l : List Ifc) (f : Int → Option Cy) (e : Ending) : Prop := ∃ q k cap ss, e = .returned (.slice q k cap) ∧ ss.length = k ∧ k ≤ cap ∧ l.Perm ss ∧ ss.Pairwise (fun x y : Ifc => x.id < y.id) ∧ CysAt w' q (ss.map (carryV f)) ∧ Below w.heap.size w w'
set_option maxHeartbeats 8000000 in
theorem call_any (w : World) (B c h b mb nn : Nat) (F : Nat → TrF) (l : List Ifc) (f : Int → Option Cy) (S : Nat → Sr) (H : CapAt w B c h b mb nn F l f S) (hok : okIfs l = true) (hin : ∀ x ∈ l, InIf x) (hf : FOk f) :
    Calls Try.prog 29 #[.pointer (some ⟨c, 0, none⟩)] w fun e w' => AllCs w w' l f e := by
  have hlen : l.length ≤ 1000 := by have := ((okIfs_iff l).1 hok).1; omega
  have htab := H.tab
  have HK := Lib.hid H
  have HA := Lib.hid (all_ok w B h b F l H.hop hok hin hlen)
  have HIN := Lib.hid hin
  have HF := Lib.hid hf
  have HLE := Lib.hid hlen
  clear H hin hok hf hlen
  go_enter Try.func29, Try.ntmps29
  go_wp2_with fail
  refine (cclosed_any w c h htab).mono ?_
  rintro e w' ⟨rfl, rfl⟩
  go_wp2_with fail
  refine HA.out.mono ?_
  rintro e w1 ⟨q, k, cap, ss, rfl, hk, hperm, hsort, hat, hb⟩
  have HB := Lib.hid hb
  have HKL := Lib.hid hk
  have HPM := Lib.hid hperm
  have HST := Lib.hid hsort
  have HAT := Lib.hid hat
  have HK1 := Lib.hid (HK.out.below hb)
  clear hb hk hperm hsort hat htab HA
  go_wp2_with fail
  go_loopw [3, 14] (fun lv v wr => ∃ (j : Nat) (q2 : Option Addr) (cap2 : Nat), j ≤ k ∧ v = .int .i64 j ∧ lv = .slice q2 j cap2 ∧ CysOwn wr w1.heap.size q2 j cap2 ((ss.take j).map (carryV f)) ∧ Below w1.heap.size w1 wr) (fun _ v _ => k - (intOf v).toNat)
  case atStart => exact ⟨0, none, 0, Nat.zero_le _, rfl, rfl, LOwn.nil _ _ _ _ _ _, Below.refl _ _⟩
  case round =>
    obtain ⟨j, q2, cap2, hj, rfl, rfl, hown, hbr⟩ := hrel
    have HOWN := Lib.hid hown
    have HBR := Lib.hid hbr
    have HK2 := Lib.hid (HK1.out.below hbr)
    have HAT2 := Lib.hid (HAT.out.below hbr)
    have hcap := hown.cap_
    clear hown hbr
    by_cases hlt : j < k
    · have hlt' : (j : Int) < (k : Int) := by omega
      have j0 : (0 : Int) ≤ (j : Int) := by omega
      obtain ⟨b', off, rfl, c0, c1, c2, c3, c4⟩ := if_cell HAT2.out HKL.out hlt
      have hjl : j < ss.length := by rw [HKL.out]; exact hlt
      have hxin := HIN.out (ss.getD j Ifc.zero) (HPM.out.mem_iff.2 (by simp [List.getD, hjl]))
      have HTK := Lib.hid (show (ss.take (j + 1)).map (carryV f) = (ss.take j).map (carryV f) ++ [carryV f (ss.getD j Ifc.zero)] from by
        rw [List.take_add_one, List.map_append]
        simp [List.getD, hjl])
      obtain ⟨x, hx⟩ : ∃ x, ss.getD j Ifc.zero = x := ⟨_, rfl⟩
      rw [hx] at c0 c1 c2 c3 c4 hxin HTK
      have HRI := Lib.hid (carry_in HF.out hxin)
      obtain ⟨xi, xr, xa, xn, xc⟩ := x
      dsimp only at c0 c1 c2 c3 c4
      have hbu := newB wr (.cells #[.int .i64 xi, .int .i64 xr, .int .u32 xa, .int .i64 xn, .int .i64 xc] 34)
      have hbx := Blk.new wr 34 [.int .i64 xi, .int .i64 xr, .int .u32 xa, .int .i64 xn, .int .i64 xc]
      obtain ⟨y0, y1, y2, y3, y4⟩ := if_boxes hbx
      have hca := ccarry_any _ B c h b mb nn F l f S (HK2.out.below hbu) ⟨xi, xr, xa, xn, xc⟩ hxin
      obtain ⟨⟨r0, r1, r2⟩, hr⟩ : ∃ r, carryV f ⟨xi, xr, xa, xn, xc⟩ = r := ⟨_, rfl⟩
      rw [hr] at hca HTK HRI
      have HCA := Lib.hid (show Calls Try.prog 52 #[.pointer (some ⟨c, 0, none⟩), .agg #[.int .i64 xi, .int .i64 xr, .int .u32 xa, .int .i64 xn, .int .i64 xc]] (wr.alloc (.cells #[.int .i64 xi, .int .i64 xr, .int .u32 xa, .int .i64 xn, .int .i64 xc] 34)) fun e w' => e = .returned (.agg #[.int .i64 r0, .int .i64 r1, .bool r2]) ∧ Below (wr.alloc (.cells #[.int .i64 xi, .int .i64 xr, .int .u32 xa, .int .i64 xn, .int .i64 xc] 34)).heap.size (wr.alloc (.cells #[.int .i64 xi, .int .i64 xr, .int .u32 xa, .int .i64 xn, .int .i64 xc] 34)) w' from hca)
      have HBU := Lib.hid hbu
      clear hx hxin hbu hbx hca hr
      go_wp2_with fail
      refine HCA.out.mono ?_
      rintro e U1 ⟨rfl, hb⟩
      have hb1 := HBU.out.trans (hb.mono HBU.out.size)
      have hb2 := newB U1 (.cells #[.int .i64 r0, .int .i64 r1, .bool r2] 67)
      have hb3 := hb1.trans (hb2.mono hb1.size)
      have hlit := LOwn.lit rowCy U1 w1.heap.size [(⟨r0, r1, r2⟩ : Cy)] (fun y hy => by simp at hy; rw [hy]; exact HRI.out) (Nat.le_trans HBR.out.size hb1.size) (by unfold maxLen; simp)
      have LIT := Lib.hid (show CysAt (U1.alloc (.cells #[.int .i64 r0, .int .i64 r1, .bool r2] 67)) (some ⟨U1.heap.size, 0, none⟩) [⟨r0, r1, r2⟩] from hlit.at rowCy)
      have OW := Lib.hid (HOWN.out.below hb3)
      have HB3 := Lib.hid (HBR.out.trans (hb3.mono HBR.out.size))
      have HSZ := Lib.hid (show w1.heap.size ≤ (U1.alloc (.cells #[.int .i64 r0, .int .i64 r1, .bool r2] 67)).heap.size from Nat.le_trans HBR.out.size hb3.size)
      clear hb hb1 hb2 hb3 hlit c0 c1 c2 c3 c4 y0 y1 y2 y3 y4
      have hkk : k ≤ 1000 := by have := HKL.out; have := HPM.out.length_eq; have := HLE.out; omega
      go_wp2_with (refine wpList_appL (o := ⟨some 23, _, _, _, _, _⟩) rowCy (by kernel_rfl) (.tmp 18) (.tmp 22) rfl w1.heap.size q2 j cap2 _ OW.out rfl (some ⟨U1.heap.size, 0, none⟩) 1 1 [⟨r0, r1, r2⟩] LIT.out rfl rfl (j + 1) rfl (by omega) HSZ.out ?_; intro q3 cap3 w3 hO3 hB3)
      go_roundw
      case rel => exact ⟨j + 1, q3, cap3, by omega, by go_num, rfl, by rw [HTK.out]; exact hO3.out, HB3.out.trans hB3.out⟩
      case measure => simp [intOf]; omega
    · obtain rfl : j = k := by omega
      go_wp2_with fail
      go_ret
      have ho := HOWN.out
      rw [List.take_of_length_le (by rw [HKL.out]; exact Nat.le_refl _)] at ho
      exact ⟨q2, j, cap2, ss, rfl, HKL.out, hcap.1, HPM.out, HST.out, ho.at rowCy, HB.out.trans (HBR.out.mono HB.out.size)⟩
end Go.Proofs.Ytlkpalaakncicaa
