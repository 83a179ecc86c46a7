/- attributes of any length: own.Route, own.Option. -/
import Derived.Test.YtljbebeaahcjaaaEL
namespace Go.Proofs.Ytljbebeaahcjaaa
open Go.RowKit Go.Maps
set_option linter.unusedVariables false
set_option linter.unusedSimpArgs false
set_option maxRecDepth 100000

theorem turns_ownroute (u : World) (P : Nat) (b4 b5 b6 b7 b8 b9 a0 a1 a2 a3 a4 a5 a6 a7 a8 a9 : Value) : Turns (fun k => k = P ∨ k = P + 1) u ((((((((((((((((u.setCell ⟨P, 4, none⟩ b4).setCell ⟨P, 5, none⟩ b5).setCell ⟨P, 6, none⟩ b6).setCell ⟨P, 7, none⟩ b7).setCell ⟨P, 8, none⟩ b8).setCell ⟨P, 9, none⟩ b9).setCell ⟨P + 1, 0, none⟩ a0).setCell ⟨P + 1, 1, none⟩ a1).setCell ⟨P + 1, 2, none⟩ a2).setCell ⟨P + 1, 3, none⟩ a3).setCell ⟨P + 1, 4, none⟩ a4).setCell ⟨P + 1, 5, none⟩ a5).setCell ⟨P + 1, 6, none⟩ a6).setCell ⟨P + 1, 7, none⟩ a7).setCell ⟨P + 1, 8, none⟩ a8).setCell ⟨P + 1, 9, none⟩ a9) := by
  have hP : ∀ j, (fun k => k = P ∨ k = P + 1) (⟨P, j, none⟩ : Addr).block ∨ u.heap.size ≤ (⟨P, j, none⟩ : Addr).block := fun j => .inl (.inl rfl)
  have hQ : ∀ j, (fun k => k = P ∨ k = P + 1) (⟨P + 1, j, none⟩ : Addr).block ∨ u.heap.size ≤ (⟨P + 1, j, none⟩ : Addr).block := fun j => .inl (.inr rfl)
  have h0 := Turns.refl (fun k => k = P ∨ k = P + 1) u
  have h1 := h0.setCell (hP 4) b4
  have h2 := h1.setCell (hP 5) b5
  have h3 := h2.setCell (hP 6) b6
  have h4 := h3.setCell (hP 7) b7
  have h5 := h4.setCell (hP 8) b8
  have h6 := h5.setCell (hP 9) b9
  have h7 := h6.setCell (hQ 0) a0
  have h8 := h7.setCell (hQ 1) a1
  have h9 := h8.setCell (hQ 2) a2
  have h10 := h9.setCell (hQ 3) a3
  have h11 := h10.setCell (hQ 4) a4
  have h12 := h11.setCell (hQ 5) a5
  have h13 := h12.setCell (hQ 6) a6
  have h14 := h13.setCell (hQ 7) a7
  have h15 := h14.setCell (hQ 8) a8
  have h16 := h15.setCell (hQ 9) a9
  exact h16
def RtTo (w w' : World) (r a n i : Int) (x : Ao) (e : Ending) : Prop := ∃ y : Ao, e = .returned (.agg #[.int .i64 r, .int .u32 a, .int .i64 n, .int .i64 i, .int .i64 y.og, .slice y.p1 y.n1 y.c1, .int .u32 y.nx, .int .i64 y.md, .int .i64 y.pf, .slice y.p2 y.n2 y.c2]) ∧ AoAt w' y ∧ AoLike x y ∧ AoNew w.heap.size y ∧ Below w.heap.size w w'
set_option maxHeartbeats 8000000 in
theorem ownroute_any (w : World) (r a n i : Int) (x : Ao) (h : AoAt w x) : Calls Try.prog 42 #[.agg #[.int .i64 r, .int .u32 a, .int .i64 n, .int .i64 i, .int .i64 x.og, .slice x.p1 x.n1 x.c1, .int .u32 x.nx, .int .i64 x.md, .int .i64 x.pf, .slice x.p2 x.n2 x.c2]] w fun e w' => RtTo w w' r a n i x e := by
  have hU := two_below w (.cells #[.int .i64 r, .int .u32 a, .int .i64 n, .int .i64 i, .int .i64 x.og, .slice x.p1 x.n1 x.c1, .int .u32 x.nx, .int .i64 x.md, .int .i64 x.pf, .slice x.p2 x.n2 x.c2] 35) (.cells #[.int .i64 0, .int .u32 0, .int .i64 0, .int .i64 0, .int .i64 0, .slice none 0 0, .int .u32 0, .int .i64 0, .int .i64 0, .slice none 0 0] 35)
  have hP := (Blk.new w 35 [.int .i64 r, .int .u32 a, .int .i64 n, .int .i64 i, .int .i64 x.og, .slice x.p1 x.n1 x.c1, .int .u32 x.nx, .int .i64 x.md, .int .i64 x.pf, .slice x.p2 x.n2 x.c2]).alloc (.cells #[.int .i64 0, .int .u32 0, .int .i64 0, .int .i64 0, .int .i64 0, .slice none 0 0, .int .u32 0, .int .i64 0, .int .i64 0, .slice none 0 0] 35)
  have hQ := Blk.new (w.alloc (.cells #[.int .i64 r, .int .u32 a, .int .i64 n, .int .i64 i, .int .i64 x.og, .slice x.p1 x.n1 x.c1, .int .u32 x.nx, .int .i64 x.md, .int .i64 x.pf, .slice x.p2 x.n2 x.c2] 35)) 35 [.int .i64 0, .int .u32 0, .int .i64 0, .int .i64 0, .int .i64 0, .slice none 0 0, .int .u32 0, .int .i64 0, .int .i64 0, .slice none 0 0]
  rw [sz_alloc] at hQ
  obtain ⟨U, hUE⟩ : ∃ U, (w.alloc (.cells #[.int .i64 r, .int .u32 a, .int .i64 n, .int .i64 i, .int .i64 x.og, .slice x.p1 x.n1 x.c1, .int .u32 x.nx, .int .i64 x.md, .int .i64 x.pf, .slice x.p2 x.n2 x.c2] 35)).alloc (.cells #[.int .i64 0, .int .u32 0, .int .i64 0, .int .i64 0, .int .i64 0, .slice none 0 0, .int .u32 0, .int .i64 0, .int .i64 0, .slice none 0 0] 35) = U := ⟨_, rfl⟩
  have hUS : U.heap.size = w.heap.size + 1 + 1 := by rw [← hUE, sz_alloc, sz_alloc]
  change Blk ((w.alloc (.cells #[.int .i64 r, .int .u32 a, .int .i64 n, .int .i64 i, .int .i64 x.og, .slice x.p1 x.n1 x.c1, .int .u32 x.nx, .int .i64 x.md, .int .i64 x.pf, .slice x.p2 x.n2 x.c2] 35)).alloc (.cells #[.int .i64 0, .int .u32 0, .int .i64 0, .int .i64 0, .int .i64 0, .slice none 0 0, .int .u32 0, .int .i64 0, .int .i64 0, .slice none 0 0] 35)) _ _ _ at hP
  change Blk ((w.alloc (.cells #[.int .i64 r, .int .u32 a, .int .i64 n, .int .i64 i, .int .i64 x.og, .slice x.p1 x.n1 x.c1, .int .u32 x.nx, .int .i64 x.md, .int .i64 x.pf, .slice x.p2 x.n2 x.c2] 35)).alloc (.cells #[.int .i64 0, .int .u32 0, .int .i64 0, .int .i64 0, .int .i64 0, .slice none 0 0, .int .u32 0, .int .i64 0, .int .i64 0, .slice none 0 0] 35)) _ _ _ at hQ
  rw [hUE] at hU hP hQ
  obtain ⟨P, hPE⟩ : ∃ P, w.heap.size = P := ⟨_, rfl⟩
  rw [hPE] at hP
  rw [show w.heap.size + 1 = P + 1 by rw [hPE]] at hQ
  have HUE := Lib.hid hUE
  have HPE := Lib.hid hPE
  have HU := Lib.hid hU
  have HUS := Lib.hid (show U.heap.size = P + 1 + 1 by rw [hUS, hPE])
  have HP := Lib.hid hP
  have HQ := Lib.hid hQ
  have HC := Lib.hid (ownattrs_any U x (h.below hU))
  have p4 : U.cell? ⟨P, 4, none⟩ = some (.int .i64 x.og) := hP.cellAt rfl
  have p5 : U.cell? ⟨P, 5, none⟩ = some (.slice x.p1 x.n1 x.c1) := hP.cellAt rfl
  have p6 : U.cell? ⟨P, 6, none⟩ = some (.int .u32 x.nx) := hP.cellAt rfl
  have p7 : U.cell? ⟨P, 7, none⟩ = some (.int .i64 x.md) := hP.cellAt rfl
  have p8 : U.cell? ⟨P, 8, none⟩ = some (.int .i64 x.pf) := hP.cellAt rfl
  have p9 : U.cell? ⟨P, 9, none⟩ = some (.slice x.p2 x.n2 x.c2) := hP.cellAt rfl
  clear h hU hP hQ hUE hUS hPE
  go_enter Try.func42, Try.ntmps42
  go_wp2_with fail
  rw [HUE.out, HPE.out]
  refine HC.out.mono ?_
  rintro e u ⟨y, rfl, hy, hl, hn, hB1⟩
  have HEND := Lib.hid (fun (W9 : World) (hT : Turns (fun k => k = P ∨ k = P + 1) u W9) => show AoAt W9 y ∧ AoNew w.heap.size y ∧ Below w.heap.size w W9 from by
    have h1 := HUS.out
    have h2 := HPE.out
    have h3 := hB1.size
    refine ⟨hy.turns hn hT fun k hk => by rcases hk with e | e <;> omega, hn.mono (by omega), (HU.out.trans (hB1.mono HU.out.size)).trans (hT.below (Nat.le_trans HU.out.size hB1.size) fun k hk => by rcases hk with e | e <;> omega)⟩)
  have HLK := Lib.hid hl
  have HP1 := Lib.hid (HP.out.next hB1)
  have HQ1 := Lib.hid (HQ.out.next hB1)
  clear p4 p5 p6 p7 p8 p9
  have pc0 := HP1.out.cell 0 (by simp)
  have pc1 := HP1.out.cell 1 (by simp)
  have pc2 := HP1.out.cell 2 (by simp)
  have pc3 := HP1.out.cell 3 (by simp)
  have pc4 := HP1.out.cell 4 (by simp)
  have pc5 := HP1.out.cell 5 (by simp)
  have pc6 := HP1.out.cell 6 (by simp)
  have pc7 := HP1.out.cell 7 (by simp)
  have pc8 := HP1.out.cell 8 (by simp)
  have pc9 := HP1.out.cell 9 (by simp)
  have fp4 := HP1.out.f 4
  have fp5 := HP1.out.f 5
  have fp6 := HP1.out.f 6
  have fp7 := HP1.out.f 7
  have fp8 := HP1.out.f 8
  have fp9 := HP1.out.f 9
  have qc0 := HQ1.out.cell 0 (by simp)
  have fq0 := HQ1.out.f 0
  have qc1 := HQ1.out.cell 1 (by simp)
  have fq1 := HQ1.out.f 1
  have qc2 := HQ1.out.cell 2 (by simp)
  have fq2 := HQ1.out.f 2
  have qc3 := HQ1.out.cell 3 (by simp)
  have fq3 := HQ1.out.f 3
  have qc4 := HQ1.out.cell 4 (by simp)
  have fq4 := HQ1.out.f 4
  have qc5 := HQ1.out.cell 5 (by simp)
  have fq5 := HQ1.out.f 5
  have qc6 := HQ1.out.cell 6 (by simp)
  have fq6 := HQ1.out.f 6
  have qc7 := HQ1.out.cell 7 (by simp)
  have fq7 := HQ1.out.f 7
  have qc8 := HQ1.out.cell 8 (by simp)
  have fq8 := HQ1.out.f 8
  have qc9 := HQ1.out.cell 9 (by simp)
  have fq9 := HQ1.out.f 9
  clear hy hl hn hB1 HC
  go_wp2_with fail
  have HE := HEND.out _ (turns_ownroute u P (.int .i64 y.og) (.slice y.p1 y.n1 y.c1) (.int .u32 y.nx) (.int .i64 y.md) (.int .i64 y.pf) (.slice y.p2 y.n2 y.c2) (.int .i64 r) (.int .u32 a) (.int .i64 n) (.int .i64 i) (.int .i64 y.og) (.slice y.p1 y.n1 y.c1) (.int .u32 y.nx) (.int .i64 y.md) (.int .i64 y.pf) (.slice y.p2 y.n2 y.c2))
  ((try simp only [Exit.inBlock, Exit.then]); refine bodyPost_ret (v := .agg #[.int .i64 r, .int .u32 a, .int .i64 n, .int .i64 i, .int .i64 y.og, .slice y.p1 y.n1 y.c1, .int .u32 y.nx, .int .i64 y.md, .int .i64 y.pf, .slice y.p2 y.n2 y.c2]) (by simp [results, Try.results42, go_sem, pc0, qc0, pc1, qc1, pc2, qc2, pc3, qc3, pc4, qc4, pc5, qc5, pc6, qc6, pc7, qc7, pc8, qc8, pc9, qc9]) rfl ⟨y, rfl, HE.1, HLK.out, HE.2.1, HE.2.2⟩)
theorem turns_ownoption (u : World) (P : Nat) (b0 b1 b2 b3 b4 b5 b6 b7 b8 b9 a0 a1 a2 a3 a4 a5 a6 a7 a8 a9 a10 : Value) : Turns (fun k => k = P ∨ k = P + 1) u (((((((((((((((((((((u.setCell ⟨P, 0, none⟩ b0).setCell ⟨P, 1, none⟩ b1).setCell ⟨P, 2, none⟩ b2).setCell ⟨P, 3, none⟩ b3).setCell ⟨P, 4, none⟩ b4).setCell ⟨P, 5, none⟩ b5).setCell ⟨P, 6, none⟩ b6).setCell ⟨P, 7, none⟩ b7).setCell ⟨P, 8, none⟩ b8).setCell ⟨P, 9, none⟩ b9).setCell ⟨P + 1, 0, none⟩ a0).setCell ⟨P + 1, 1, none⟩ a1).setCell ⟨P + 1, 2, none⟩ a2).setCell ⟨P + 1, 3, none⟩ a3).setCell ⟨P + 1, 4, none⟩ a4).setCell ⟨P + 1, 5, none⟩ a5).setCell ⟨P + 1, 6, none⟩ a6).setCell ⟨P + 1, 7, none⟩ a7).setCell ⟨P + 1, 8, none⟩ a8).setCell ⟨P + 1, 9, none⟩ a9).setCell ⟨P + 1, 10, none⟩ a10) := by
  have hP : ∀ j, (fun k => k = P ∨ k = P + 1) (⟨P, j, none⟩ : Addr).block ∨ u.heap.size ≤ (⟨P, j, none⟩ : Addr).block := fun j => .inl (.inl rfl)
  have hQ : ∀ j, (fun k => k = P ∨ k = P + 1) (⟨P + 1, j, none⟩ : Addr).block ∨ u.heap.size ≤ (⟨P + 1, j, none⟩ : Addr).block := fun j => .inl (.inr rfl)
  have h0 := Turns.refl (fun k => k = P ∨ k = P + 1) u
  have h1 := h0.setCell (hP 0) b0
  have h2 := h1.setCell (hP 1) b1
  have h3 := h2.setCell (hP 2) b2
  have h4 := h3.setCell (hP 3) b3
  have h5 := h4.setCell (hP 4) b4
  have h6 := h5.setCell (hP 5) b5
  have h7 := h6.setCell (hP 6) b6
  have h8 := h7.setCell (hP 7) b7
  have h9 := h8.setCell (hP 8) b8
  have h10 := h9.setCell (hP 9) b9
  have h11 := h10.setCell (hQ 0) a0
  have h12 := h11.setCell (hQ 1) a1
  have h13 := h12.setCell (hQ 2) a2
  have h14 := h13.setCell (hQ 3) a3
  have h15 := h14.setCell (hQ 4) a4
  have h16 := h15.setCell (hQ 5) a5
  have h17 := h16.setCell (hQ 6) a6
  have h18 := h17.setCell (hQ 7) a7
  have h19 := h18.setCell (hQ 8) a8
  have h20 := h19.setCell (hQ 9) a9
  have h21 := h20.setCell (hQ 10) a10
  exact h21
def OvTo (w w' : World) (r a n i f : Int) (x : Ao) (e : Ending) : Prop := ∃ y : Ao, e = .returned (.agg #[.int .i64 r, .int .u32 a, .int .i64 n, .int .i64 i, .int .i64 y.og, .slice y.p1 y.n1 y.c1, .int .u32 y.nx, .int .i64 y.md, .int .i64 y.pf, .slice y.p2 y.n2 y.c2, .int .i64 f]) ∧ AoAt w' y ∧ AoLike x y ∧ AoNew w.heap.size y ∧ Below w.heap.size w w'
end Go.Proofs.Ytljbebeaahcjaaa
