/- load: the document's Project. -/
import Derived.Test.YteeihjdkenlebaaEJ
import Derived.Deep.RegionHeldLaw
namespace Go.Proofs.Yteeihjdkenlebaa
open Go.RowKit Go.Maps
set_option linter.unusedVariables false
set_option linter.unusedSimpArgs false
set_option maxRecDepth 100000

/-- The document's loads of wants. -/
def RlPr (w w' : World) (n : Nat) (l : List Wt) (e : Ending) : Prop := ∃ X q L n' c', e = .returned (.pointer (some ⟨X, 0, none⟩)) ∧ RlAt w' X q L n' c' (prS l).2 ∧ AllL (prS l).1 L ∧ n' ≤ n ∧ Below w.heap.size w w'
set_option maxHeartbeats 4000000 in
theorem rlproject_any (w : World) (p : Option Addr) (l : List Wt) (n c : Nat) (h : WtsAt w p l) (hn : l.length = n) (hm : n < 100000) :
    Calls Try.prog 22 #[.slice p n c] w fun e w' => RlPr w w' n l e := by
  have H := Lib.hid h
  have HN := Lib.hid hn
  have hB0 := newB w (.cells #[.slice none 0 0, .bool false] RLf)
  have hX := Blk.new w RLf [.slice none 0 0, .bool false]
  obtain ⟨X, hXE⟩ : ∃ X, w.heap.size = X := ⟨_, rfl⟩
  obtain ⟨U0, hU0⟩ : ∃ U, w.alloc (.cells #[.slice none 0 0, .bool false] RLf) = U := ⟨_, rfl⟩
  change Blk (w.alloc (.cells #[.slice none 0 0, .bool false] RLf)) _ _ _ at hX
  rw [hU0] at hB0 hX
  have HX0 := Lib.hid (show RlAt U0 X none [] 0 0 false from ⟨hXE ▸ hX, LAt.nil _ _ _ _ _ _, rfl, fun b off e => by cases e⟩)
  have HB0 := Lib.hid hB0
  have HU0 := Lib.hid hU0
  have HXE := Lib.hid hXE
  clear h hn hB0 hX hU0 hXE
  go_enter Try.func22, Try.ntmps22
  go_wp2_with fail
  rw [HU0.out, HXE.out]
  go_loopw [4] (fun i wr => ∃ k : Nat, k ≤ n ∧ i = .int .i64 k ∧ (∃ q1 L n1 c1, RlAt wr X q1 L n1 c1 (prS (l.take k)).2 ∧ AllL (prS (l.take k)).1 L ∧ n1 ≤ k) ∧ Below w.heap.size w wr) (fun i _ => n - (intOf i).toNat)
  case atStart => exact ⟨0, Nat.zero_le _, rfl, ⟨none, [], 0, 0, by rw [List.take_zero]; exact HX0.out, by rw [List.take_zero]; exact (⟨List.Pairwise.nil, fun i v => ⟨fun h => by simp at h, fun h => by cases h⟩⟩), Nat.le_refl _⟩, HB0.out⟩
  case round =>
    obtain ⟨k, hk, rfl, ⟨q1, L, n1, c1', hl, hal, hn1⟩, hB⟩ := hrel
    have HR2 := Lib.hid hl
    have HAL := Lib.hid hal
    have HB2 := Lib.hid hB
    have HN2 := Lib.hid hn1
    clear hl hal hB hn1
    by_cases hlt : k < n
    · have hltI : (k : Int) < (n : Int) := by omega
      obtain ⟨q, off, rfl, c0, c1, c2, c3, c4, c5, c6, c7, c8, c9, c10, c11, c12, c13, c14, c15⟩ := wt_cell (H.out.below HB2.out).at_ HN.out hlt
      obtain ⟨x, hx⟩ : ∃ x, l.getD k Wt.zero = x := ⟨_, rfl⟩
      rw [hx] at c0  c1  c2  c3  c4  c5  c6  c7  c8  c9  c10  c11  c12  c13  c14  c15
      have hxm : x ∈ l := by rw [← hx]; simp [List.getD, show k < l.length by have := HN.out; omega]
      have HX := Lib.hid (show l.take (k + 1) = l.take k ++ [x] from by rw [List.take_add_one, ← hx]; simp [List.getD, show k < l.length by have := HN.out; omega])
      have hix := H.out.at_.ok x hxm
      have HDX := Lib.hid (H.out.det x hxm)
      have HT := Lib.hid (fun u h => rltaken_any u x h hix.2.2.1 hix.2.2.2)
      have HFX := Lib.hid (takenV_in hix HDX.out)
      have HQW := Lib.hid (show q < w.heap.size from H.out.at_.lt rowWt (by intro e; have := HN.out; rw [e] at this; simp at this; omega) rfl)
      clear hx hxm hix
      obtain ⟨o, ho⟩ : ∃ o, takenV x = o := ⟨_, rfl⟩
      rw [ho] at HT HFX
      have HT := Lib.hid (fun (u : World) (h : OvsAt u x.d x.D) => show Calls Try.prog 25 #[wtV x] u fun e w' => e = .returned (.agg #[.int .i64 o.r, .int .u32 o.a, .int .i64 o.n, .int .i64 o.i, .int .i64 o.og, .slice o.p1 o.n1 o.c1, .int .u32 o.nx, .int .i64 o.md, .int .i64 o.pf, .slice o.p2 o.n2 o.c2, .int .i64 o.f]) ∧ w' = _ from HT.out u h)
      have HA := Lib.hid (fun (u : World) (hu : Below wr.heap.size wr u) => rladd2_any u X q1 L n1 c1' _ (HR2.out.next hu) (by have := HN2.out; omega) _ HAL.out o.f x.c HFX.out)
      have HSN := Lib.hid (show prS (l.take (k + 1)) = (chF add (prS (l.take k)).1 o.f x.c, chO add (prS (l.take k)).1 (prS (l.take k)).2 o.f x.c) from by rw [HX.out, prS_snoc, ho])
      have HSU := Lib.hid (fun (u : World) (hu : u.heap[q]? = wr.heap[q]?) => show u.cell? ⟨q, off + k * 16, none⟩ = some (.int .u32 x.a) ∧ u.cell? ⟨q, off + k * 16 + 1, none⟩ = some (.int .i64 x.n) ∧ u.cell? ⟨q, off + k * 16 + 2, none⟩ = some (.int .i64 x.c) ∧ u.cell? ⟨q, off + k * 16 + 3, none⟩ = some (.int .i64 x.x.r) ∧ u.cell? ⟨q, off + k * 16 + 4, none⟩ = some (.int .u32 x.x.a) ∧ u.cell? ⟨q, off + k * 16 + 5, none⟩ = some (.int .i64 x.x.n) ∧ u.cell? ⟨q, off + k * 16 + 6, none⟩ = some (.int .i64 x.x.i) ∧ u.cell? ⟨q, off + k * 16 + 7, none⟩ = some (.int .i64 x.x.og) ∧ u.cell? ⟨q, off + k * 16 + 8, none⟩ = some (.slice x.x.p1 x.x.n1 x.x.c1) ∧ u.cell? ⟨q, off + k * 16 + 9, none⟩ = some (.int .u32 x.x.nx) ∧ u.cell? ⟨q, off + k * 16 + 10, none⟩ = some (.int .i64 x.x.md) ∧ u.cell? ⟨q, off + k * 16 + 11, none⟩ = some (.int .i64 x.x.pf) ∧ u.cell? ⟨q, off + k * 16 + 12, none⟩ = some (.slice x.x.p2 x.x.n2 x.x.c2) ∧ u.cell? ⟨q, off + k * 16 + 13, none⟩ = some (.int .i64 x.x.f) ∧ u.cell? ⟨q, off + k * 16 + 14, none⟩ = some (.slice x.d x.dn x.dc) ∧ u.cell? ⟨q, off + k * 16 + 15, none⟩ = some (.int .i64 x.at_) from ⟨cell_same c0 hu, cell_same c1 hu, cell_same c2 hu, cell_same c3 hu, cell_same c4 hu, cell_same c5 hu, cell_same c6 hu, cell_same c7 hu, cell_same c8 hu, cell_same c9 hu, cell_same c10 hu, cell_same c11 hu, cell_same c12 hu, cell_same c13 hu, cell_same c14 hu, cell_same c15 hu⟩)
      have HQU := Lib.hid (World.block_lt_of_cell? wr _ c0)
      have HDU := Lib.hid (show OvsAt wr.drew x.d x.D from (HDX.out.below HB2.out).below (Below.refl _ _).drew)
      have hS : wr.drew.cell? ⟨q, off + k * 16, none⟩ = some (.int .u32 x.a) ∧ wr.drew.cell? ⟨q, off + k * 16 + 1, none⟩ = some (.int .i64 x.n) ∧ wr.drew.cell? ⟨q, off + k * 16 + 2, none⟩ = some (.int .i64 x.c) ∧ wr.drew.cell? ⟨q, off + k * 16 + 3, none⟩ = some (.int .i64 x.x.r) ∧ wr.drew.cell? ⟨q, off + k * 16 + 4, none⟩ = some (.int .u32 x.x.a) ∧ wr.drew.cell? ⟨q, off + k * 16 + 5, none⟩ = some (.int .i64 x.x.n) ∧ wr.drew.cell? ⟨q, off + k * 16 + 6, none⟩ = some (.int .i64 x.x.i) ∧ wr.drew.cell? ⟨q, off + k * 16 + 7, none⟩ = some (.int .i64 x.x.og) ∧ wr.drew.cell? ⟨q, off + k * 16 + 8, none⟩ = some (.slice x.x.p1 x.x.n1 x.x.c1) ∧ wr.drew.cell? ⟨q, off + k * 16 + 9, none⟩ = some (.int .u32 x.x.nx) ∧ wr.drew.cell? ⟨q, off + k * 16 + 10, none⟩ = some (.int .i64 x.x.md) ∧ wr.drew.cell? ⟨q, off + k * 16 + 11, none⟩ = some (.int .i64 x.x.pf) ∧ wr.drew.cell? ⟨q, off + k * 16 + 12, none⟩ = some (.slice x.x.p2 x.x.n2 x.x.c2) ∧ wr.drew.cell? ⟨q, off + k * 16 + 13, none⟩ = some (.int .i64 x.x.f) ∧ wr.drew.cell? ⟨q, off + k * 16 + 14, none⟩ = some (.slice x.d x.dn x.dc) ∧ wr.drew.cell? ⟨q, off + k * 16 + 15, none⟩ = some (.int .i64 x.at_) := HSU.out _ rfl
      have hfld := fun u : World => opt_field1 (.int .i64 o.r) (.int .u32 o.a) (.int .i64 o.n) (.int .i64 o.i) (.int .i64 o.og) (.slice o.p1 o.n1 o.c1) (.int .u32 o.nx) (.int .i64 o.md) (.int .i64 o.pf) (.slice o.p2 o.n2 o.c2) (.int .i64 o.f) u
      clear c0  c1  c2  c3  c4  c5  c6  c7  c8  c9  c10  c11  c12  c13  c14  c15 ho
      go_wp2_with fail
      go_region_held_law (fun W => W.cell? ⟨q, off + k * 16, none⟩ = some (.int .u32 x.a) ∧ W.cell? ⟨q, off + k * 16 + 1, none⟩ = some (.int .i64 x.n) ∧ W.cell? ⟨q, off + k * 16 + 2, none⟩ = some (.int .i64 x.c) ∧ W.cell? ⟨q, off + k * 16 + 3, none⟩ = some (.int .i64 x.x.r) ∧ W.cell? ⟨q, off + k * 16 + 4, none⟩ = some (.int .u32 x.x.a) ∧ W.cell? ⟨q, off + k * 16 + 5, none⟩ = some (.int .i64 x.x.n) ∧ W.cell? ⟨q, off + k * 16 + 6, none⟩ = some (.int .i64 x.x.i) ∧ W.cell? ⟨q, off + k * 16 + 7, none⟩ = some (.int .i64 x.x.og) ∧ W.cell? ⟨q, off + k * 16 + 8, none⟩ = some (.slice x.x.p1 x.x.n1 x.x.c1) ∧ W.cell? ⟨q, off + k * 16 + 9, none⟩ = some (.int .u32 x.x.nx) ∧ W.cell? ⟨q, off + k * 16 + 10, none⟩ = some (.int .i64 x.x.md) ∧ W.cell? ⟨q, off + k * 16 + 11, none⟩ = some (.int .i64 x.x.pf) ∧ W.cell? ⟨q, off + k * 16 + 12, none⟩ = some (.slice x.x.p2 x.x.n2 x.x.c2) ∧ W.cell? ⟨q, off + k * 16 + 13, none⟩ = some (.int .i64 x.x.f) ∧ W.cell? ⟨q, off + k * 16 + 14, none⟩ = some (.slice x.d x.dn x.dc) ∧ W.cell? ⟨q, off + k * 16 + 15, none⟩ = some (.int .i64 x.at_)) (with_reducible assumption) (first | (go_at_call 25; (with_reducible refine (HT.out _ HDU.out).mono ?_); rintro e u ⟨rfl, hu⟩; have HBu := Lib.hid (show Below wr.heap.size wr u from (Below.refl wr.heap.size wr).drew.trans (hu ▸ two_below wr.drew _ _)); have hS := HSU.out u (HBu.out.block q HQU.out); clear hu) | (go_at_call 11; refine (HA.out u HBu.out).mono ?_; rintro e v ⟨rfl, hto⟩; obtain ⟨q2, L2, n2, c2, h1, h2, h3, h4⟩ := hto; have HR3 := Lib.hid h1; have HAL3 := Lib.hid h2; have HN3 := Lib.hid h3; have HT3 := Lib.hid h4; have hS := HSU.out v ((h4.block q (Nat.lt_of_lt_of_le HQU.out HBu.out.size) (by have h1 := HQW.out; have h2 := HXE.out; intro e; omega)).trans (HBu.out.block q HQU.out)); clear h1 h2 h3 h4))
      all_goals
        have hb4 : Below w.heap.size w v := HB2.out.trans ((HBu.out.mono HB2.out.size).trans (HT3.out.below (Nat.le_trans HB2.out.size HBu.out.size) fun k hk => by have h2 := HXE.out; have hk : k = X := hk; omega))
        have hr4 := HR3.out
        have ha4 := HAL3.out
        have he4 := HSN.out
        go_wp2_with fail
        go_roundw
        case rel =>
          refine ⟨k + 1, by omega, by go_num, ⟨q2, L2, n2, c2, ?_, ?_, by have h1 := HN2.out; have h2 := HN3.out; omega⟩, hb4⟩
          · rw [he4]; exact hr4
          · rw [he4]; exact ha4
        case measure => simp [intOf]; omega
    · obtain rfl : k = n := by omega
      have e : l.take k = l := List.take_of_length_le (by rw [HN.out]; exact Nat.le_refl _)
      have h1 := HR2.out
      have h2 := HAL.out
      rw [e] at h1 h2
      have HR3 := Lib.hid h1
      have HAL3 := Lib.hid h2
      have hkI : ¬ (k : Int) < (k : Int) := by omega
      clear h1 h2 e
      go_wp2_with fail
      go_ret
      exact ⟨X, q1, L, n1, c1', rfl, HR3.out, HAL3.out, HN2.out, HB2.out⟩
end Go.Proofs.Yteeihjdkenlebaa
