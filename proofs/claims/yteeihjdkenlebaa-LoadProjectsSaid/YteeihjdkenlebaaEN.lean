/- load: Taken in general. -/
import Derived.Test.YteeihjdkenlebaaEM
namespace Go.Proofs.Yteeihjdkenlebaa
open Go.RowKit Go.Maps
set_option linter.unusedVariables false
set_option linter.unusedSimpArgs false
set_option maxRecDepth 100000

/-- An option's attributes. -/
abbrev ao (o : Ov) (L : List Sg) (K : List Int) : Ao := ⟨o.og, o.p1, o.n1, o.c1, L, o.nx, o.md, o.pf, o.p2, o.n2, o.c2, K⟩
theorem turns_taken (u : World) (Q : Nat) (a0 a1 a2 a3 a4 a5 a6 a7 a8 a9 a10 : Value) : Turns (fun k => k = Q) u (((((((((((u.setCell ⟨Q, 0, none⟩ a0).setCell ⟨Q, 1, none⟩ a1).setCell ⟨Q, 2, none⟩ a2).setCell ⟨Q, 3, none⟩ a3).setCell ⟨Q, 4, none⟩ a4).setCell ⟨Q, 5, none⟩ a5).setCell ⟨Q, 6, none⟩ a6).setCell ⟨Q, 7, none⟩ a7).setCell ⟨Q, 8, none⟩ a8).setCell ⟨Q, 9, none⟩ a9).setCell ⟨Q, 10, none⟩ a10) := by
  have hQ : ∀ j, (fun k => k = Q) (⟨Q, j, none⟩ : Addr).block ∨ u.heap.size ≤ (⟨Q, j, none⟩ : Addr).block := fun j => .inl rfl
  have h0 := Turns.refl (fun k => k = Q) u
  have h1 := h0.setCell (hQ 0) a0
  have h2 := h1.setCell (hQ 1) a1
  have h3 := h2.setCell (hQ 2) a2
  have h4 := h3.setCell (hQ 3) a3
  have h5 := h4.setCell (hQ 4) a4
  have h6 := h5.setCell (hQ 5) a5
  have h7 := h6.setCell (hQ 6) a6
  have h8 := h7.setCell (hQ 7) a7
  have h9 := h8.setCell (hQ 8) a8
  have h10 := h9.setCell (hQ 9) a9
  have h11 := h10.setCell (hQ 10) a10
  exact h11
/-- A copy of an option. -/
def OpTo (w w' : World) (o : Ov) (L : List Sg) (K : List Int) (e : Ending) : Prop := ∃ y : Ao, e = .returned (.agg #[.int .i64 o.r, .int .u32 o.a, .int .i64 o.n, .int .i64 o.i, .int .i64 y.og, .slice y.p1 y.n1 y.c1, .int .u32 y.nx, .int .i64 y.md, .int .i64 y.pf, .slice y.p2 y.n2 y.c2, .int .i64 o.f]) ∧ AoAt w' y ∧ AoLike (ao o L K) y ∧ Below w.heap.size w w'
set_option maxHeartbeats 8000000 in
theorem ldTaken_any (w : World) (x : Wt) (hd : OvsAt w x.d x.D) (hn : x.D.length = x.dn) (hm : x.dn ≤ maxLen) (o : Ov) (ho : takenV x = o) (L : List Sg) (K : List Int) (ha : AoAt w (ao o L K)) :
    Calls Try.prog 24 #[wtV x] w fun e w' => OpTo w w' o L K e := by
  have hU := two_below w (.cells #[.int .u32 x.a, .int .i64 x.n, .int .i64 x.c, .int .i64 x.x.r, .int .u32 x.x.a, .int .i64 x.x.n, .int .i64 x.x.i, .int .i64 x.x.og, .slice x.x.p1 x.x.n1 x.x.c1, .int .u32 x.x.nx, .int .i64 x.x.md, .int .i64 x.x.pf, .slice x.x.p2 x.x.n2 x.x.c2, .int .i64 x.x.f, .slice x.d x.dn x.dc, .int .i64 x.at_] 54) (.cells #[.int .i64 0, .int .u32 0, .int .i64 0, .int .i64 0, .int .i64 0, .slice none 0 0, .int .u32 0, .int .i64 0, .int .i64 0, .slice none 0 0, .int .i64 0] 51)
  have hP := (Blk.new w 54 [.int .u32 x.a, .int .i64 x.n, .int .i64 x.c, .int .i64 x.x.r, .int .u32 x.x.a, .int .i64 x.x.n, .int .i64 x.x.i, .int .i64 x.x.og, .slice x.x.p1 x.x.n1 x.x.c1, .int .u32 x.x.nx, .int .i64 x.x.md, .int .i64 x.x.pf, .slice x.x.p2 x.x.n2 x.x.c2, .int .i64 x.x.f, .slice x.d x.dn x.dc, .int .i64 x.at_]).alloc (.cells #[.int .i64 0, .int .u32 0, .int .i64 0, .int .i64 0, .int .i64 0, .slice none 0 0, .int .u32 0, .int .i64 0, .int .i64 0, .slice none 0 0, .int .i64 0] 51)
  have hQ := Blk.new (w.alloc (.cells #[.int .u32 x.a, .int .i64 x.n, .int .i64 x.c, .int .i64 x.x.r, .int .u32 x.x.a, .int .i64 x.x.n, .int .i64 x.x.i, .int .i64 x.x.og, .slice x.x.p1 x.x.n1 x.x.c1, .int .u32 x.x.nx, .int .i64 x.x.md, .int .i64 x.x.pf, .slice x.x.p2 x.x.n2 x.x.c2, .int .i64 x.x.f, .slice x.d x.dn x.dc, .int .i64 x.at_] 54)) 51 [.int .i64 0, .int .u32 0, .int .i64 0, .int .i64 0, .int .i64 0, .slice none 0 0, .int .u32 0, .int .i64 0, .int .i64 0, .slice none 0 0, .int .i64 0]
  rw [sz_alloc] at hQ
  obtain ⟨U, hUE⟩ : ∃ U, (w.alloc (.cells #[.int .u32 x.a, .int .i64 x.n, .int .i64 x.c, .int .i64 x.x.r, .int .u32 x.x.a, .int .i64 x.x.n, .int .i64 x.x.i, .int .i64 x.x.og, .slice x.x.p1 x.x.n1 x.x.c1, .int .u32 x.x.nx, .int .i64 x.x.md, .int .i64 x.x.pf, .slice x.x.p2 x.x.n2 x.x.c2, .int .i64 x.x.f, .slice x.d x.dn x.dc, .int .i64 x.at_] 54)).alloc (.cells #[.int .i64 0, .int .u32 0, .int .i64 0, .int .i64 0, .int .i64 0, .slice none 0 0, .int .u32 0, .int .i64 0, .int .i64 0, .slice none 0 0, .int .i64 0] 51) = U := ⟨_, rfl⟩
  have hUS : U.heap.size = w.heap.size + 1 + 1 := by rw [← hUE, sz_alloc, sz_alloc]
  change Blk ((w.alloc (.cells #[.int .u32 x.a, .int .i64 x.n, .int .i64 x.c, .int .i64 x.x.r, .int .u32 x.x.a, .int .i64 x.x.n, .int .i64 x.x.i, .int .i64 x.x.og, .slice x.x.p1 x.x.n1 x.x.c1, .int .u32 x.x.nx, .int .i64 x.x.md, .int .i64 x.x.pf, .slice x.x.p2 x.x.n2 x.x.c2, .int .i64 x.x.f, .slice x.d x.dn x.dc, .int .i64 x.at_] 54)).alloc (.cells #[.int .i64 0, .int .u32 0, .int .i64 0, .int .i64 0, .int .i64 0, .slice none 0 0, .int .u32 0, .int .i64 0, .int .i64 0, .slice none 0 0, .int .i64 0] 51)) _ _ _ at hP
  change Blk ((w.alloc (.cells #[.int .u32 x.a, .int .i64 x.n, .int .i64 x.c, .int .i64 x.x.r, .int .u32 x.x.a, .int .i64 x.x.n, .int .i64 x.x.i, .int .i64 x.x.og, .slice x.x.p1 x.x.n1 x.x.c1, .int .u32 x.x.nx, .int .i64 x.x.md, .int .i64 x.x.pf, .slice x.x.p2 x.x.n2 x.x.c2, .int .i64 x.x.f, .slice x.d x.dn x.dc, .int .i64 x.at_] 54)).alloc (.cells #[.int .i64 0, .int .u32 0, .int .i64 0, .int .i64 0, .int .i64 0, .slice none 0 0, .int .u32 0, .int .i64 0, .int .i64 0, .slice none 0 0, .int .i64 0] 51)) _ _ _ at hQ
  rw [hUE] at hU hP hQ
  obtain ⟨P, hPE⟩ : ∃ P, w.heap.size = P := ⟨_, rfl⟩
  rw [hPE] at hP
  obtain ⟨Q, hQE⟩ : ∃ Q, P + 1 = Q := ⟨_, rfl⟩
  rw [show w.heap.size + 1 = Q by rw [hPE, hQE]] at hQ
  have HUE := Lib.hid hUE
  have HPE := Lib.hid hPE
  have HQE := Lib.hid hQE
  have HU := Lib.hid hU
  have HUS := Lib.hid (show U.heap.size = Q + 1 by rw [hUS, hPE, hQE])
  have HQ := Lib.hid hQ
  have hT := ldtaken_any U x (hd.below hU) hn hm
  rw [ho] at hT
  have HT := Lib.hid (show Calls Try.prog 38 #[wtV x] U fun e w' => e = .returned (.agg #[.int .i64 o.r, .int .u32 o.a, .int .i64 o.n, .int .i64 o.i, .int .i64 o.og, .slice o.p1 o.n1 o.c1, .int .u32 o.nx, .int .i64 o.md, .int .i64 o.pf, .slice o.p2 o.n2 o.c2, .int .i64 o.f]) ∧ w' = _ from hT)
  have HO := Lib.hid (fun (V : World) (hV : Below U.heap.size U V) => show Calls Try.prog 40 #[.agg #[.int .i64 o.r, .int .u32 o.a, .int .i64 o.n, .int .i64 o.i, .int .i64 o.og, .slice o.p1 o.n1 o.c1, .int .u32 o.nx, .int .i64 o.md, .int .i64 o.pf, .slice o.p2 o.n2 o.c2, .int .i64 o.f]] V fun e w' => OvTo V w' o.r o.a o.n o.i o.f (ao o L K) e from ownoption_any V o.r o.a o.n o.i o.f (ao o L K) ((ha.below hU).below hV))
  have p0 : U.cell? ⟨P, 0, none⟩ = some (.int .u32 x.a) := hP.cellAt rfl
  have p1 : U.cell? ⟨P, 1, none⟩ = some (.int .i64 x.n) := hP.cellAt rfl
  have p2 : U.cell? ⟨P, 2, none⟩ = some (.int .i64 x.c) := hP.cellAt rfl
  have p3 : U.cell? ⟨P, 3, none⟩ = some (.int .i64 x.x.r) := hP.cellAt rfl
  have p4 : U.cell? ⟨P, 4, none⟩ = some (.int .u32 x.x.a) := hP.cellAt rfl
  have p5 : U.cell? ⟨P, 5, none⟩ = some (.int .i64 x.x.n) := hP.cellAt rfl
  have p6 : U.cell? ⟨P, 6, none⟩ = some (.int .i64 x.x.i) := hP.cellAt rfl
  have p7 : U.cell? ⟨P, 7, none⟩ = some (.int .i64 x.x.og) := hP.cellAt rfl
  have p8 : U.cell? ⟨P, 8, none⟩ = some (.slice x.x.p1 x.x.n1 x.x.c1) := hP.cellAt rfl
  have p9 : U.cell? ⟨P, 9, none⟩ = some (.int .u32 x.x.nx) := hP.cellAt rfl
  have p10 : U.cell? ⟨P, 10, none⟩ = some (.int .i64 x.x.md) := hP.cellAt rfl
  have p11 : U.cell? ⟨P, 11, none⟩ = some (.int .i64 x.x.pf) := hP.cellAt rfl
  have p12 : U.cell? ⟨P, 12, none⟩ = some (.slice x.x.p2 x.x.n2 x.x.c2) := hP.cellAt rfl
  have p13 : U.cell? ⟨P, 13, none⟩ = some (.int .i64 x.x.f) := hP.cellAt rfl
  have p14 : U.cell? ⟨P, 14, none⟩ = some (.slice x.d x.dn x.dc) := hP.cellAt rfl
  have p15 : U.cell? ⟨P, 15, none⟩ = some (.int .i64 x.at_) := hP.cellAt rfl
  clear ha hd hn hm hU hP hQ hUE hUS hPE hQE hT
  go_enter Try.func24, Try.ntmps24
  go_wp2_with fail
  rw [HUE.out, HPE.out, HQE.out]
  refine HT.out.mono ?_
  rintro e V ⟨rfl, hV⟩
  have HBV := Lib.hid (show Below U.heap.size U V from hV ▸ two_below _ _ _)
  clear hV p0 p1 p2 p3 p4 p5 p6 p7 p8 p9 p10 p11 p12 p13 p14 p15 HT
  go_wp2_with fail
  refine (HO.out V HBV.out).mono ?_
  rintro e u ⟨y, rfl, hy, hl, hnw, hB1⟩
  have HB1 := Lib.hid (HBV.out.trans (hB1.mono HBV.out.size))
  have HEND := Lib.hid (fun (W9 : World) (hT : Turns (fun k => k = Q) u W9) => show AoAt W9 y ∧ Below w.heap.size w W9 from by
    have h1 := HUS.out
    have h2 := HPE.out
    have h3 := HBV.out.size
    have h4 := HQE.out
    refine ⟨hy.turns hnw hT fun k hk => by have hk : k = Q := hk; omega, (HU.out.trans (HB1.out.mono HU.out.size)).trans (hT.below (Nat.le_trans HU.out.size HB1.out.size) fun k hk => by have hk : k = Q := hk; omega)⟩)
  have HLK := Lib.hid hl
  have HQ1 := Lib.hid (HQ.out.next HB1.out)
  have qc0 := HQ1.out.cell 0 (by simp)
  have fq0 := HQ1.out.f 0
  have qc1 := HQ1.out.cell 1 (by simp)
  have fq1 := HQ1.out.f 1
  have qc2 := HQ1.out.cell 2 (by simp)
  have fq2 := HQ1.out.f 2
  have qc3 := HQ1.out.cell 3 (by simp)
  have fq3 := HQ1.out.f 3
  have qc4 := HQ1.out.cell 4 (by simp)
  have fq4 := HQ1.out.f 4
  have qc5 := HQ1.out.cell 5 (by simp)
  have fq5 := HQ1.out.f 5
  have qc6 := HQ1.out.cell 6 (by simp)
  have fq6 := HQ1.out.f 6
  have qc7 := HQ1.out.cell 7 (by simp)
  have fq7 := HQ1.out.f 7
  have qc8 := HQ1.out.cell 8 (by simp)
  have fq8 := HQ1.out.f 8
  have qc9 := HQ1.out.cell 9 (by simp)
  have fq9 := HQ1.out.f 9
  have qc10 := HQ1.out.cell 10 (by simp)
  have fq10 := HQ1.out.f 10
  clear hy hl hnw hB1 HO
  go_wp2_with fail
  have HE := HEND.out _ (turns_taken u Q (.int .i64 o.r) (.int .u32 o.a) (.int .i64 o.n) (.int .i64 o.i) (.int .i64 y.og) (.slice y.p1 y.n1 y.c1) (.int .u32 y.nx) (.int .i64 y.md) (.int .i64 y.pf) (.slice y.p2 y.n2 y.c2) (.int .i64 o.f))
  ((try simp only [Exit.inBlock, Exit.then]); refine bodyPost_ret (v := .agg #[.int .i64 o.r, .int .u32 o.a, .int .i64 o.n, .int .i64 o.i, .int .i64 y.og, .slice y.p1 y.n1 y.c1, .int .u32 y.nx, .int .i64 y.md, .int .i64 y.pf, .slice y.p2 y.n2 y.c2, .int .i64 o.f]) (by simp [results, Try.results24, go_sem, qc0, qc1, qc2, qc3, qc4, qc5, qc6, qc7, qc8, qc9, qc10]) rfl ⟨y, rfl, HE.1, HLK.out, HE.2⟩)
end Go.Proofs.Yteeihjdkenlebaa
