/- hop: put. -/
import Derived.Test.YtlkpalaakncicaaW4
namespace Go.Proofs.Ytlkpalaakncicaa
open Go.RowKit Go.Maps
set_option linter.unusedVariables false
set_option maxRecDepth 100000
set_option linter.unusedSimpArgs false

theorem Blk.notMap {w : World} {g b : Nat} {t : TypeId} {vs : List Value} {es : Array MapEntry} {c : Nat} (h : Blk w g t vs) (hm : w.heap[b]? = some (.map es c)) : g ≠ b := fun e => by
  subst e
  obtain ⟨cs, hc, _⟩ := h
  rw [hm] at hc
  cases hc
/-- The map turns. -/
theorem HopB.mapTurn {w w' : World} {B h b m q : Nat} {F : Nat → TrF} {es : Array MapEntry} {c : Nat} (H : HopB w B h b m F) (hm : w.heap[q]? = some (.map es c)) (hg : w.grownBy w' (some q)) : HopB w' B h b m F := by
  have hne : ∀ {g : Nat} {t : TypeId} {vs : List Value}, Blk w g t vs → some g ≠ some q := fun hb e => by
    injection e with e
    exact hb.notMap hm e
  refine ⟨H.blk.of_same (hg.block h H.blk.lt (hne H.blk)), fun i hi => (H.tr i hi).kept fun k hk hin => hg.block k hk ?_, H.dis, H.bh⟩
  rcases hin with hin | ⟨e, he, rfl⟩
  · obtain ⟨T, vs, _, hb⟩ := (H.tr i hi).cells hin
    exact hne hb
  · exact hne ((H.tr i hi).thing e he).2.1
theorem heap_of_map {w : World} {b n : Nat} {D : DataW Unit} (h : w.ownsMap Try.prog 3 ifElem b n D) : ∃ es c, w.heap[b]? = some (.map es c) := by
  obtain ⟨es, c, hb, _⟩ := h
  exact ⟨es, c, hb⟩
def okIf (l : List Ifc) (x : Ifc) : Bool := !(byId l x.id).isSome && (decide (0 ≤ x.id) && (decide (x.id ≤ 4294967295) && (isR x.r && (decide (0 ≤ x.c) && (decide (x.c ≤ 9007199254740991) && (!(byNet l x.r x.a x.n).isSome && okP x.a x.n))))))
set_option maxHeartbeats 8000000 in
theorem put_any (w : World) (B h b : Nat) (F : Nat → TrF) (l : List Ifc) (x : Ifc) (H : HopAt w B h b F l) (hB : B ≤ w.heap.size) (hw : (Lit.int .i64 x.id).wf = true) (a0 : 0 ≤ x.a) (a1 : x.a < 4294967296) (hl : l.length ≤ 1000) :
    Calls Try.prog 35 #[.pointer (some ⟨h, 0, none⟩), ifV x] w fun e w' => e = .returned (.bool (okIf l x)) ∧ Below B w w' ∧ (okIf l x = true → ∃ F', HopAt w' B h b F' (l ++ [x])) := by
  obtain ⟨xi, xr, xa, xn, xc⟩ := x
  dsimp only at hw a0 a1
  have hV := newB w (.cells #[.int .i64 xi, .int .i64 xr, .int .u32 xa, .int .i64 xn, .int .i64 xc] 34)
  have hX := Blk.new w 34 [.int .i64 xi, .int .i64 xr, .int .u32 xa, .int .i64 xn, .int .i64 xc]
  obtain ⟨P, hP⟩ : ∃ P, w.heap.size = P := ⟨_, rfl⟩
  obtain ⟨V, hVV⟩ : ∃ V, w.alloc (.cells #[.int .i64 xi, .int .i64 xr, .int .u32 xa, .int .i64 xn, .int .i64 xc] 34) = V := ⟨_, rfl⟩
  rw [hVV] at hV hX
  rw [hP] at hX
  have hvb : Below B w V := by rw [← hVV]; exact (Below.refl B w).alloc hB _
  have HVB := Lib.hid hvb
  have HBV := Lib.hid (show B ≤ V.heap.size from Nat.le_trans hB hvb.size)
  have HV := Lib.hid (H.below hV)
  have HX := Lib.hid hX
  have HP := Lib.hid hP
  have HVE := Lib.hid hVV
  have hlk := HV.out.look xi hw
  have hmp := HV.out.hb.map
  obtain ⟨⟨y0, y1, y2, y3, y4⟩, hy⟩ : ∃ y, (byId l xi).getD Ifc.zero = y := ⟨_, rfl⟩
  obtain ⟨tw, htw⟩ : ∃ t, (byId l xi).isSome = t := ⟨_, rfl⟩
  rw [hy, htw] at hlk
  have HTW := Lib.hid htw
  have hlk : (Instr.lookup 74 (.map (some b)) (.int .i64 xi) true).run Try.prog V = .ok (.tuple #[.agg #[.int .i64 y0, .int .i64 y1, .int .u32 y2, .int .i64 y3, .int .i64 y4], .bool tw]) V := hlk
  have hok : okIf l ⟨xi, xr, xa, xn, xc⟩ = (!tw && (decide (0 ≤ xi) && (decide (xi ≤ 4294967295) && (isR xr && (decide (0 ≤ xc) && (decide (xc ≤ 9007199254740991) && (!(byNet l xr xa xn).isSome && okP xa xn))))))) := by
    unfold okIf; rw [← htw]
  have HOK := Lib.hid hok
  have HW := Lib.hid hw
  have HL := Lib.hid hl
  obtain ⟨x0, x1, x2, x3, x4⟩ := if_boxes hX
  have HALL := Lib.hid (fun (W : World) (hW : Below V.heap.size V W) => show W.cell? ⟨h, 0, none⟩ = some (.map (some b)) ∧ W.cell? ⟨P, 0, none⟩ = some (.int .i64 xi) ∧ (Instr.lookup 74 (.map (some b)) (.int .i64 xi) true).run Try.prog W = .ok (.tuple #[.agg #[.int .i64 y0, .int .i64 y1, .int .u32 y2, .int .i64 y3, .int .i64 y4], .bool tw]) W from by
    have H1 := HV.out.below hW
    have hlk := H1.look xi hw
    rw [hy, htw] at hlk
    exact ⟨H1.hb.map, (HX.out.next hW).cell 0 (by simp), hlk⟩)
  clear H hV hX hP hVV hy htw hok hl hvb hlk hmp x0 x1 x2 x3 x4
  go_enter Try.func35, Try.ntmps35
  go_wp2_with fail
  rw [HVE.out, HP.out]
  go_region_held_law (fun W => W.cell? ⟨h, 0, none⟩ = some (.map (some b)) ∧ W.cell? ⟨P, 0, none⟩ = some (.int .i64 xi) ∧ (Instr.lookup 74 (.map (some b)) (.int .i64 xi) true).run Try.prog W = .ok (.tuple #[.agg #[.int .i64 y0, .int .i64 y1, .int .u32 y2, .int .i64 y3, .int .i64 y4], .bool tw]) W) (first | exact HALL.out _ (Below.refl _ _).drew | exact HALL.out _ ((Below.refl _ _).drew.alloc (Nat.le_refl _) _)) (fail)
  all_goals
    obtain ⟨V2, hVV2⟩ : ∃ V2, (V.alloc (.cells #[.int .i64 y0, .int .i64 y1, .int .u32 y2, .int .i64 y3, .int .i64 y4] 34)).drew = V2 := ⟨_, rfl⟩
    have hV2 : Below V.heap.size V V2 := by rw [← hVV2]; exact ((Below.refl _ _).alloc (Nat.le_refl _) _).drew
    have H2 := Lib.hid (HV.out.below hV2)
    have hX2 := HX.out.next hV2
    have HX2 := Lib.hid hX2
    have HB2 := Lib.hid (show Below B w V2 from HVB.out.trans (hV2.mono HBV.out))
    have HBB2 := Lib.hid (show B ≤ V2.heap.size from Nat.le_trans HBV.out hV2.size)
    have HVE2 := Lib.hid hVV2
    obtain ⟨x0, x1, x2, x3, x4⟩ := if_boxes hX2
    rw [← HVE2.out] at x0 x1 x2 x3 x4
    clear hV2 hVV2 hX2 HALL
    rcases tw with _ | _
    rotate_left
    · go_wp2_with fail
      rw [HVE2.out]
      go_ret
      exact ⟨by rw [HOK.out]; rfl, HB2.out, fun h => by rw [HOK.out] at h; cases h⟩
    by_cases c1 : xi < 0
    · have t1 : decide (xi < 0) = true := decide_eq_true c1
      have HF := Lib.hid (show okIf l ⟨xi, xr, xa, xn, xc⟩ = false by rw [HOK.out, show decide (0 ≤ xi) = false from decide_eq_false (by omega)]; rfl)
      go_wp2_with fail
      rw [HVE2.out]
      go_ret
      exact ⟨by rw [HF.out]; rfl, HB2.out, fun h => by rw [HF.out] at h; cases h⟩
    have t1 : decide (xi < 0) = false := decide_eq_false c1
    by_cases c2 : 4294967295 < xi
    · have t2 : decide (4294967295 < xi) = true := decide_eq_true c2
      have HF := Lib.hid (show okIf l ⟨xi, xr, xa, xn, xc⟩ = false by rw [HOK.out, show decide (xi ≤ 4294967295) = false from decide_eq_false (by omega)]; simp)
      go_wp2_with fail
      rw [HVE2.out]
      go_ret
      exact ⟨by rw [HF.out]; rfl, HB2.out, fun h => by rw [HF.out] at h; cases h⟩
    have t2 : decide (4294967295 < xi) = false := decide_eq_false c2
    rcases hr : isR xr with _ | _
    · have HR := Lib.hid (fun u => isRouter_any xr u)
      rw [hr] at HR
      have HF := Lib.hid (show okIf l ⟨xi, xr, xa, xn, xc⟩ = false by rw [HOK.out, hr]; simp)
      clear hr
      go_wp2_with (go_at_call 37; refine (HR.out _).mono ?_; rintro e w' ⟨rfl, rfl⟩)
      rw [HVE2.out]
      go_ret
      exact ⟨by rw [HF.out]; rfl, HB2.out, fun h => by rw [HF.out] at h; cases h⟩
    have HR := Lib.hid (fun u => isRouter_any xr u)
    rw [hr] at HR
    by_cases c3 : xc < 0
    · have t3 : decide (xc < 0) = true := decide_eq_true c3
      have HF := Lib.hid (show okIf l ⟨xi, xr, xa, xn, xc⟩ = false by rw [HOK.out, show decide (0 ≤ xc) = false from decide_eq_false (by omega)]; simp)
      clear hr
      go_wp2_with (go_at_call 37; refine (HR.out _).mono ?_; rintro e w' ⟨rfl, rfl⟩)
      rw [HVE2.out]
      go_ret
      exact ⟨by rw [HF.out]; rfl, HB2.out, fun h => by rw [HF.out] at h; cases h⟩
    have t3 : decide (xc < 0) = false := decide_eq_false c3
    by_cases c4 : 9007199254740991 < xc
    · have t4 : decide (9007199254740991 < xc) = true := decide_eq_true c4
      have HF := Lib.hid (show okIf l ⟨xi, xr, xa, xn, xc⟩ = false by rw [HOK.out, show decide (xc ≤ 9007199254740991) = false from decide_eq_false (by omega)]; simp)
      clear hr
      go_wp2_with (go_at_call 37; refine (HR.out _).mono ?_; rintro e w' ⟨rfl, rfl⟩)
      rw [HVE2.out]
      go_ret
      exact ⟨by rw [HF.out]; rfl, HB2.out, fun h => by rw [HF.out] at h; cases h⟩
    have t4 : decide (9007199254740991 < xc) = false := decide_eq_false c4
    obtain ⟨i, rfl, hi⟩ : ∃ i : Nat, xr = i ∧ i < 16 := by
      unfold isR at hr
      rw [Bool.and_eq_true, decide_eq_true_eq, decide_eq_true_eq] at hr
      exact ⟨xr.toNat, by omega, by omega⟩
    have hok : okIf l ⟨xi, i, xa, xn, xc⟩ = (!(byNet l i xa xn).isSome && okP xa xn) := by
      rw [HOK.out, hr, show decide (0 ≤ xi) = true from decide_eq_true (by omega), show decide (xi ≤ 4294967295) = true from decide_eq_true (by omega), show decide (0 ≤ xc) = true from decide_eq_true (by omega), show decide (xc ≤ 9007199254740991) = true from decide_eq_true (by omega)]
      simp
    have HOK2 := Lib.hid hok
    clear hok hr
    obtain ⟨D, hm, hD, hsz⟩ := H2.out.map
    have HM := Lib.hid hm
    have HSZ := Lib.hid hsz
    have HTY := Lib.hid (hm.tidy key_keyed)
    clear hsz
    have HD := Lib.hid hD
    have hmx : l.length < maxLen := by have := HL.out; unfold maxLen; omega
    have hkey := keyI HW.out
    have hmp := H2.out.hb.map
    rw [← HVE2.out] at hmp
    clear hm hD
    go_wp2_with (go_at_call 37; refine (HR.out _).mono ?_; rintro e w' ⟨rfl, rfl⟩)
    rw [HVE2.out]
    clear x0 x1 x2 x3 x4 hmp
    have HS := Lib.hid (fun (W : World) (h1 : HopB W B h b 16 F) (h2 : Blk W P 34 [.int .i64 xi, .int .i64 i, .int .u32 xa, .int .i64 xn, .int .i64 xc]) => show W.cell? ⟨h, 0, none⟩ = some (.map (some b)) ∧ W.cell? ⟨P, 0, none⟩ = some (.int .i64 xi) ∧ W.cell? ⟨P, 1, none⟩ = some (.int .i64 i) ∧ W.cell? ⟨P, 2, none⟩ = some (.int .u32 xa) ∧ W.cell? ⟨P, 3, none⟩ = some (.int .i64 xn) ∧ W.cell? ⟨P, 4, none⟩ = some (.int .i64 xc) from by
      obtain ⟨x0, x1, x2, x3, x4⟩ := if_boxes h2
      exact ⟨h1.map, x0, x1, x2, x3, x4⟩)
    have hS := HS.out V2.drew (H2.out.hb.below (Below.refl _ _).drew) HX2.out
    obtain ⟨w3, hrun, hown3, hg3⟩ := World.ownsMap.update (w := V2.drew) HM.out key_keyed Try.underlying74 hmx hkey (ifElem_mk ⟨xi, i, xa, xn, xc⟩)
    have hrun : (Instr.mapUpdate 74 (.map (some b)) (.int .i64 xi) (.agg #[.int .i64 xi, .int .i64 i, .int .u32 xa, .int .i64 xn, .int .i64 xc])).run Try.prog V2.drew = .ok () w3 := hrun
    obtain ⟨es, ec, hes⟩ := heap_of_map HM.out
    have HH3 := Lib.hid (HopB.mapTurn (w := V2.drew) (H2.out.hb.below (Below.refl _ _).drew) hes hg3)
    have HX3 := Lib.hid (show Blk w3 P 34 [.int .i64 xi, .int .i64 i, .int .u32 xa, .int .i64 xn, .int .i64 xc] from HX2.out.of_same (hg3.block P HX2.out.lt (fun e => HX2.out.notMap hes (Option.some.inj e))))
    have hS3 := HS.out w3 HH3.out HX3.out
    have HM3 := Lib.hid hown3
    have HG3 := Lib.hid hg3
    have HM4D := Lib.hid HM.out.isMap
    clear hown3 hg3 hes hkey
    go_region_held_law (fun W => W.cell? ⟨h, 0, none⟩ = some (.map (some b)) ∧ W.cell? ⟨P, 0, none⟩ = some (.int .i64 xi) ∧ W.cell? ⟨P, 1, none⟩ = some (.int .i64 i) ∧ W.cell? ⟨P, 2, none⟩ = some (.int .u32 xa) ∧ W.cell? ⟨P, 3, none⟩ = some (.int .i64 xn) ∧ W.cell? ⟨P, 4, none⟩ = some (.int .i64 xc)) (with_reducible assumption) (fail)
    have htop := HH3.out.top hi hi
    obtain ⟨x0, x1, x2, x3, x4⟩ := if_boxes HX3.out
    have hS5 : w3.drew.cell? ⟨P, 1, none⟩ = some (.int .i64 i) ∧ w3.drew.cell? ⟨h, 1 + i, none⟩ = some (.pointer (some ⟨(F i).t, 0, none⟩)) := ⟨x1, htop⟩
    clear hS hS3 hrun HS HVE2 HX2 HVB HBV HV
    go_wp2_with fail
    go_region_held_law (fun W => W.cell? ⟨P, 1, none⟩ = some (.int .i64 i) ∧ W.cell? ⟨h, 1 + i, none⟩ = some (.pointer (some ⟨(F i).t, 0, none⟩))) (with_reducible assumption) (fail)
    clear x0 x1 x2 x3 x4 htop hS5
    obtain ⟨u3, hu3⟩ : ∃ u, w3.drew = u := ⟨_, rfl⟩
    have hbu : Below w3.heap.size w3 u3 := by rw [← hu3]; exact (Below.refl _ _).drew
    rw [hu3]
    have HU := Lib.hid hu3
    have HH3' := Lib.hid (HH3.out.below hbu)
    have HX3' := Lib.hid (HX3.out.next hbu)
    have HM3' := Lib.hid (show u3.ownsMap Try.prog 3 ifElem b (l.length + 1) (D.put (litI xi) (ifD ⟨xi, i, xa, xn, xc⟩)) from hu3 ▸ HM3.out.drew)
    have HB3 := Lib.hid (show Below B w u3 from ((HB2.out.drew).grown HG3.out HBB2.out (fun k e => by cases e; exact H2.out.bb)).trans (hbu.mono (Nat.le_trans HBB2.out HG3.out.size)))
    have HBB3 := Lib.hid (show B ≤ u3.heap.size from Nat.le_trans (Nat.le_trans HBB2.out HG3.out.size) hbu.size)
    clear hbu hu3 HH3 HX3 HM3 HG3
    have HH3 := HH3'
    have HX3 := HX3'
    have HM3 := HM3'
    clear HH3' HX3' HM3'
    obtain ⟨x0, x1, x2, x3, x4⟩ := if_boxes HX3.out
    have hTI := H2.out.trs i hi
    have htn := hTI xa xn
    have hTV := hTI.val (HH3.out.tr i hi).tl
    have hgt := get_if u3 B (F i).t (F i).r (F i).L.length (F i).N (F i).L (HH3.out.tr i hi) hTV xa xn a0 a1
    obtain ⟨g0, g1, g2, g3, g4, tb, hgv, htb⟩ : ∃ (g0 g1 g2 g3 g4 : Int) (tb : Bool), gotV (.agg #[.int .i64 0, .int .i64 0, .int .u32 0, .int .i64 0, .int .i64 0]) (atT (F i).L xa xn) = .tuple #[.agg #[.int .i64 g0, .int .i64 g1, .int .u32 g2, .int .i64 g3, .int .i64 g4], .bool tb] ∧ (byNet l i xa xn).isSome = tb ∧ (tb = false → atT (F i).L xa xn = none ∧ byNet l i xa xn = none) := by
      rcases h1 : atT (F i).L xa xn with _ | e <;> rcases h2 : byNet l i xa xn with _ | x <;> rw [h1, h2] at htn
      · exact ⟨0, 0, 0, 0, 0, false, rfl, rfl, fun _ => ⟨rfl, rfl⟩⟩
      · cases htn
      · cases htn
      · refine ⟨x.id, x.r, x.a, x.n, x.c, true, ?_, rfl, fun h => by cases h⟩
        have : e.v = ifV x := by simpa using htn
        show Value.tuple #[e.v, .bool true] = _
        rw [this]
    rw [hgv] at hgt
    have HGT := Lib.hid hgt
    have HTB := Lib.hid htb
    have HTI := Lib.hid hTI
    clear hgt hgv htb htn hTV hTI HM
    go_wp2_with fail
    refine HGT.out.mono ?_
    rintro e w4 ⟨rfl, hb⟩
    have HH4 := Lib.hid (HH3.out.below hb)
    have HX4 := Lib.hid (HX3.out.next hb)
    have HM4 := Lib.hid (show w4.ownsMap Try.prog 3 ifElem b (l.length + 1) (D.put (litI xi) (ifD ⟨xi, i, xa, xn, xc⟩)) from by
      have hlt := HM3.out.lt
      obtain ⟨es, clock, hh, Ft, hs, he⟩ := HM3.out
      exact ⟨es, clock, (hb.block b hlt).trans hh, Ft, hs, he⟩)
    have HB4 := Lib.hid (show Below B w w4 from HB3.out.trans (hb.mono HBB3.out))
    have HBB4 := Lib.hid (show B ≤ w4.heap.size from Nat.le_trans HBB3.out hb.size)
    clear hb x0 x1 x2 x3 x4 HGT
    obtain ⟨x0, x1, x2, x3, x4⟩ := if_boxes HX4.out
    rcases tb with _ | _
    rotate_left
    · have HF := Lib.hid (show okIf l ⟨xi, i, xa, xn, xc⟩ = false by rw [HOK2.out, HTB.out.1]; rfl)
      go_wp2_with fail
      go_ret
      exact ⟨by rw [HF.out]; rfl, HB4.out, fun h => by rw [HF.out] at h; cases h⟩
    obtain ⟨hat, hbn⟩ := HTB.out.2 rfl
    have HAT := Lib.hid hat
    have HBN := Lib.hid hbn
    clear hat hbn
    rcases hk : okP xa xn with _ | _
    · have HF := Lib.hid (show okIf l ⟨xi, i, xa, xn, xc⟩ = false by rw [HOK2.out, hk]; simp)
      have HSN := Lib.hid (set_no_if w4 (F i).t (F i).r xa xn xi i xa xn xc ((HH4.out.tr i hi).tb.cell 0 (by simp)) hk)
      clear hk
      go_wp2_with fail
      refine HSN.out.mono ?_
      rintro e w5 ⟨rfl, hb⟩
      have HB5 := Lib.hid (show Below B w w5 from HB4.out.trans (hb.mono HBB4.out))
      clear hb
      go_wp2_with fail
      go_ret
      exact ⟨by rw [HF.out]; rfl, HB5.out, fun h => by rw [HF.out] at h; cases h⟩
    · have HF := Lib.hid (show okIf l ⟨xi, i, xa, xn, xc⟩ = true by rw [HOK2.out, HTB.out.1, hk]; rfl)
      have HKP := Lib.hid hk
      obtain ⟨n0, n1⟩ := (okP_parts hk).2
      obtain ⟨m, rfl⟩ := Int.eq_ofNat_of_zero_le n0
      have HSY := Lib.hid (set_yes_if w4 B (F i).t (F i).r (F i).N (F i).L xa m xi i xa m xc (HH4.out.tr i hi) HBB4.out a0 a1 hk (by have := H2.out.len i hi; have := HL.out; omega))
      clear hk n0 n1
      go_wp2_with fail
      refine HSY.out.mono ?_
      rintro e w5 ⟨N', g, rfl, hr⟩
      have HR5 := Lib.hid hr
      have HB5 := Lib.hid (show Below B w w5 from HB4.out.trans (hr.turn.below HBB4.out (fun k hk => (HH4.out.tr i hi).inB hk)))
      clear hr HSY
      go_wp2_with fail
      go_ret
      refine ⟨by rw [HF.out]; rfl, HB5.out, fun _ => ⟨_, HH4.out.turn HBB4.out hi HR5.out, ⟨_, ?_, HD.out.put HM4D.out ?_, ?_⟩, fun j hj => ?_, fun j hj => ?_, H2.out.bb⟩⟩
      · have hlt := HM4.out.lt
        have hml : (l ++ [(⟨xi, i, xa, m, xc⟩ : Ifc)]).length = l.length + 1 := by simp
        rw [hml]
        obtain ⟨es, clock, hh, Ft, hs, he⟩ := HM4.out
        exact ⟨es, clock, (HR5.out.turn.block b hlt ((HH4.out.tr i hi).notMap hh)).trans hh, Ft, hs, he⟩
      · have := HTW.out
        exact Option.isSome_eq_false_iff.1 this |> Option.isNone_iff_eq_none.1
      · have hml : (l ++ [(⟨xi, i, xa, m, xc⟩ : Ifc)]).length = l.length + 1 := by simp
        have hh := HD.out.has xi
        rw [HTW.out] at hh
        rw [hml, Maps.size_put HTY.out, show (⟨xi, i, xa, m, xc⟩ : Ifc).id = xi from rfl, hh, HSZ.out]
        rfl
      · by_cases e : j = i
        · subst e
          simp only [if_pos]
          exact (HTI.out).put (x := ⟨xi, j, xa, m, xc⟩) (HH4.out.tr j hi).tl HBN.out ⟨HKP.out, a0, a1⟩
        · simp only [if_neg e]
          exact (H2.out.trs j hj).other (x := ⟨xi, i, xa, m, xc⟩) HBN.out (fun e' => e (by have : (i : Int) = j := e'; omega))
      · have hml : (l ++ [(⟨xi, i, xa, m, xc⟩ : Ifc)]).length = l.length + 1 := by simp
        rw [hml]
        by_cases e : j = i
        · subst e
          simp only [if_pos]
          have h1 := H2.out.len j hj
          have h2 := len_ins (HH4.out.tr j hi).tl ⟨xa, m, ifV ⟨xi, j, xa, m, xc⟩, g⟩
          dsimp only at h2
          have h3 : (insT (F j).L ⟨xa, (m : Int), ifV ⟨xi, j, xa, m, xc⟩, g⟩).length ≤ l.length + 1 := by split at h2 <;> omega
          exact h3
        · simp only [if_neg e]
          have h1 := H2.out.len j hj
          omega
end Go.Proofs.Ytlkpalaakncicaa
