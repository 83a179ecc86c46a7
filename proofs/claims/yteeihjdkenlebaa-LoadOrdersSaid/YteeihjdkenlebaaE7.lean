/- load: wants and options in memory; what a want takes; copies of options without lists. -/
import Derived.Test.YteeihjdkenlebaaE3
namespace Go.Proofs.Yteeihjdkenlebaa
open Go.RowKit Go.Maps
set_option linter.unusedVariables false
set_option linter.unusedSimpArgs false
set_option maxRecDepth 100000

/-- An option: its cells. -/
structure Ov where
  intro ::
  r : Int
  a : Int
  n : Int
  i : Int
  og : Int
  p1 : Option Addr
  n1 : Nat
  c1 : Nat
  nx : Int
  md : Int
  pf : Int
  p2 : Option Addr
  n2 : Nat
  c2 : Nat
  f : Int
def Ov.zero : Ov := ⟨0, 0, 0, 0, 0, none, 0, 0, 0, 0, 0, none, 0, 0, 0⟩
def ovC (x : Ov) : List Value := [.int .i64 x.r, .int .u32 x.a, .int .i64 x.n, .int .i64 x.i, .int .i64 x.og, .slice x.p1 x.n1 x.c1, .int .u32 x.nx, .int .i64 x.md, .int .i64 x.pf, .slice x.p2 x.n2 x.c2, .int .i64 x.f]
abbrev atV (og : Int) (p1 : Option Addr) (n1 c1 : Nat) (nx md pf : Int) (p2 : Option Addr) (n2 c2 : Nat) : Value := .agg #[.int .i64 og, .slice p1 n1 c1, .int .u32 nx, .int .i64 md, .int .i64 pf, .slice p2 n2 c2]
abbrev rtV (r a n i og : Int) (p1 : Option Addr) (n1 c1 : Nat) (nx md pf : Int) (p2 : Option Addr) (n2 c2 : Nat) : Value := .agg #[.int .i64 r, .int .u32 a, .int .i64 n, .int .i64 i, .int .i64 og, .slice p1 n1 c1, .int .u32 nx, .int .i64 md, .int .i64 pf, .slice p2 n2 c2]
abbrev ovV (x : Ov) : Value := .agg #[.int .i64 x.r, .int .u32 x.a, .int .i64 x.n, .int .i64 x.i, .int .i64 x.og, .slice x.p1 x.n1 x.c1, .int .u32 x.nx, .int .i64 x.md, .int .i64 x.pf, .slice x.p2 x.n2 x.c2, .int .i64 x.f]
def InOv (x : Ov) : Prop := (Lit.int .i64 x.f).wf = true
theorem rowOv : RowC 52 51 ovC InOv Ov.zero (ovV Ov.zero) 11 120 where
  len x := rfl
  pos := by omega
  zs := rfl
  byl := by omega
  info := by kernel_rfl
  under := Try.underlying52
  elem := by kernel_rfl
  size w := by kernel_rfl
  one x u hu := by
    simp [ovC] at hu
    rcases hu with rfl | rfl | rfl | rfl | rfl | rfl | rfl | rfl | rfl | rfl | rfl <;> rfl
abbrev OvsAt (w : World) (p : Option Addr) (l : List Ov) : Prop := LAt ovC InOv Ov.zero 11 w p l
/-- A want: its cells, and its detours. -/
structure Wt where
  intro ::
  a : Int
  n : Int
  c : Int
  x : Ov
  d : Option Addr
  dn : Nat
  dc : Nat
  at_ : Int
  D : List Ov
def Wt.zero : Wt := ⟨0, 0, 0, Ov.zero, none, 0, 0, 0, []⟩
def wtC (x : Wt) : List Value := [.int .u32 x.a, .int .i64 x.n, .int .i64 x.c, .int .i64 x.x.r, .int .u32 x.x.a, .int .i64 x.x.n, .int .i64 x.x.i, .int .i64 x.x.og, .slice x.x.p1 x.x.n1 x.x.c1, .int .u32 x.x.nx, .int .i64 x.x.md, .int .i64 x.x.pf, .slice x.x.p2 x.x.n2 x.x.c2, .int .i64 x.x.f, .slice x.d x.dn x.dc, .int .i64 x.at_]
abbrev wtV (x : Wt) : Value := .agg #[.int .u32 x.a, .int .i64 x.n, .int .i64 x.c, .int .i64 x.x.r, .int .u32 x.x.a, .int .i64 x.x.n, .int .i64 x.x.i, .int .i64 x.x.og, .slice x.x.p1 x.x.n1 x.x.c1, .int .u32 x.x.nx, .int .i64 x.x.md, .int .i64 x.x.pf, .slice x.x.p2 x.x.n2 x.x.c2, .int .i64 x.x.f, .slice x.d x.dn x.dc, .int .i64 x.at_]
def InWt (x : Wt) : Prop := (Lit.int .i64 x.c).wf = true ∧ InOv x.x ∧ x.D.length = x.dn ∧ x.dn ≤ maxLen
theorem rowWt : RowC 38 54 wtC InWt Wt.zero (wtV Wt.zero) 16 176 where
  len x := rfl
  pos := by omega
  zs := rfl
  byl := by omega
  info := by kernel_rfl
  under := Try.underlying38
  elem := by kernel_rfl
  size w := by kernel_rfl
  one x u hu := by
    simp [wtC] at hu
    rcases hu with rfl | rfl | rfl | rfl | rfl | rfl | rfl | rfl | rfl | rfl | rfl | rfl | rfl | rfl | rfl | rfl <;> rfl
/-- Wants in memory. -/
structure WtsAt (w : World) (p : Option Addr) (l : List Wt) : Prop where
  intro ::
  at_ : LAt wtC InWt Wt.zero 16 w p l
  det : ∀ x ∈ l, OvsAt w x.d x.D
theorem ov_cell {w : World} {p : Option Addr} {l : List Ov} {n k : Nat} (h : OvsAt w p l) (hn : l.length = n) (hk : k < n) : ∃ b off, p = some ⟨b, off, none⟩ ∧ w.cell? ⟨b, off + k * 11, none⟩ = some (.int .i64 (l.getD k Ov.zero).r) ∧ w.cell? ⟨b, off + k * 11 + 1, none⟩ = some (.int .u32 (l.getD k Ov.zero).a) ∧ w.cell? ⟨b, off + k * 11 + 2, none⟩ = some (.int .i64 (l.getD k Ov.zero).n) ∧ w.cell? ⟨b, off + k * 11 + 3, none⟩ = some (.int .i64 (l.getD k Ov.zero).i) ∧ w.cell? ⟨b, off + k * 11 + 4, none⟩ = some (.int .i64 (l.getD k Ov.zero).og) ∧ w.cell? ⟨b, off + k * 11 + 5, none⟩ = some (.slice (l.getD k Ov.zero).p1 (l.getD k Ov.zero).n1 (l.getD k Ov.zero).c1) ∧ w.cell? ⟨b, off + k * 11 + 6, none⟩ = some (.int .u32 (l.getD k Ov.zero).nx) ∧ w.cell? ⟨b, off + k * 11 + 7, none⟩ = some (.int .i64 (l.getD k Ov.zero).md) ∧ w.cell? ⟨b, off + k * 11 + 8, none⟩ = some (.int .i64 (l.getD k Ov.zero).pf) ∧ w.cell? ⟨b, off + k * 11 + 9, none⟩ = some (.slice (l.getD k Ov.zero).p2 (l.getD k Ov.zero).n2 (l.getD k Ov.zero).c2) ∧ w.cell? ⟨b, off + k * 11 + 10, none⟩ = some (.int .i64 (l.getD k Ov.zero).f) := by
  obtain ⟨b, off, rfl, hc⟩ := h.cell hn hk
  exact ⟨b, off, rfl, hc 0 _ rfl, hc 1 _ rfl, hc 2 _ rfl, hc 3 _ rfl, hc 4 _ rfl, hc 5 _ rfl, hc 6 _ rfl, hc 7 _ rfl, hc 8 _ rfl, hc 9 _ rfl, hc 10 _ rfl⟩
/-- What a want takes. -/
def takenV (x : Wt) : Ov := if 0 ≤ x.at_ ∧ x.at_ < x.dn then x.D.getD x.at_.toNat Ov.zero else x.x
theorem ov_boxes {w : World} {g : Nat} {r a n i og : Int} {p1 : Option Addr} {n1 c1 : Nat} {nx md pf : Int} {p2 : Option Addr} {n2 c2 : Nat} {f : Int} (h : Blk w g 51 [.int .i64 r, .int .u32 a, .int .i64 n, .int .i64 i, .int .i64 og, .slice p1 n1 c1, .int .u32 nx, .int .i64 md, .int .i64 pf, .slice p2 n2 c2, .int .i64 f]) :
    w.cell? ⟨g, 0, none⟩ = some (.int .i64 r) ∧ w.cell? ⟨g, 1, none⟩ = some (.int .u32 a) ∧ w.cell? ⟨g, 2, none⟩ = some (.int .i64 n) ∧ w.cell? ⟨g, 3, none⟩ = some (.int .i64 i) ∧ w.cell? ⟨g, 4, none⟩ = some (.int .i64 og) ∧ w.cell? ⟨g, 5, none⟩ = some (.slice p1 n1 c1) ∧ w.cell? ⟨g, 6, none⟩ = some (.int .u32 nx) ∧ w.cell? ⟨g, 7, none⟩ = some (.int .i64 md) ∧ w.cell? ⟨g, 8, none⟩ = some (.int .i64 pf) ∧ w.cell? ⟨g, 9, none⟩ = some (.slice p2 n2 c2) ∧ w.cell? ⟨g, 10, none⟩ = some (.int .i64 f) :=
  ⟨h.cellAt rfl, h.cellAt rfl, h.cellAt rfl, h.cellAt rfl, h.cellAt rfl, h.cellAt rfl, h.cellAt rfl, h.cellAt rfl, h.cellAt rfl, h.cellAt rfl, h.cellAt rfl⟩
set_option maxHeartbeats 4000000 in
theorem ldtaken_any (w : World) (x : Wt) (hd : OvsAt w x.d x.D) (hn : x.D.length = x.dn) (hm : x.dn ≤ maxLen) :
    Calls Try.prog 38 #[wtV x] w fun e w' => e = .returned (ovV (takenV x)) ∧ w' = (w.alloc (.cells (wtC x).toArray 54)).alloc (.cells (ovC (takenV x)).toArray 51) := by
  unfold maxLen at hm
  obtain ⟨xa, xn, xc, ⟨fr, fa, fn, fi, fog, fp1, fn1, fc1, fnx, fmd, fpf, fp2, fn2, fc2, ff⟩, d, dn, dc, at_, D⟩ := x
  dsimp only at hd hn hm
  unfold takenV
  dsimp only
  have HB := Lib.hid (fun o1 o2 => show Below w.heap.size w ((w.alloc o1).alloc o2) from (newB w o1).trans ((newB (w.alloc o1) o2).mono (newB w o1).size))
  by_cases h0 : 0 ≤ at_
  · have t0 : decide (0 ≤ at_) = true := decide_eq_true h0
    by_cases h1 : at_ < dn
    · have t1 : decide (at_ < (dn : Int)) = true := decide_eq_true h1
      rw [if_pos ⟨h0, h1⟩]
      obtain ⟨k, rfl⟩ : ∃ k : Nat, at_ = k := ⟨at_.toNat, by omega⟩
      have hk : k < dn := by omega
      obtain ⟨b, off, rfl, c0, c1, c2, c3, c4, c5, c6, c7, c8, c9, c10⟩ := ov_cell hd hn hk
      rw [Int.toNat_natCast]
      obtain ⟨y, hy⟩ : ∃ y, D.getD k Ov.zero = y := ⟨_, rfl⟩
      rw [hy] at c0 c1 c2 c3 c4 c5 c6 c7 c8 c9 c10 ⊢
      obtain ⟨yr, ya, yn, yi, yog, yp1, yn1, yc1, ynx, ymd, ypf, yp2, yn2, yc2, yf⟩ := y
      dsimp only at c0 c1 c2 c3 c4 c5 c6 c7 c8 c9 c10
      clear hy
      have hU := HB.out (.cells #[.int .u32 xa, .int .i64 xn, .int .i64 xc, .int .i64 fr, .int .u32 fa, .int .i64 fn, .int .i64 fi, .int .i64 fog, .slice fp1 fn1 fc1, .int .u32 fnx, .int .i64 fmd, .int .i64 fpf, .slice fp2 fn2 fc2, .int .i64 ff, .slice (some ⟨b, off, none⟩) dn dc, .int .i64 (k : Int)] 54) (.cells #[.int .i64 0, .int .u32 0, .int .i64 0, .int .i64 0, .int .i64 0, .slice none 0 0, .int .u32 0, .int .i64 0, .int .i64 0, .slice none 0 0, .int .i64 0] 51)
      replace c0 := kept hU c0
      replace c1 := kept hU c1
      replace c2 := kept hU c2
      replace c3 := kept hU c3
      replace c4 := kept hU c4
      replace c5 := kept hU c5
      replace c6 := kept hU c6
      replace c7 := kept hU c7
      replace c8 := kept hU c8
      replace c9 := kept hU c9
      replace c10 := kept hU c10
      clear hU
      go_enter Try.func38, Try.ntmps38
      go_wp2_with fail
      ((try simp only [Exit.inBlock, Exit.then]); refine bodyPost_ret (v := ovV ⟨yr, ya, yn, yi, yog, yp1, yn1, yc1, ynx, ymd, ypf, yp2, yn2, yc2, yf⟩) (by simp [results, Try.results38, go_sem]) rfl ⟨rfl, rfl⟩)
    · have t1 : decide (at_ < (dn : Int)) = false := decide_eq_false h1
      rw [if_neg (fun h => h1 h.2)]
      go_enter Try.func38, Try.ntmps38
      go_wp2_with fail
      ((try simp only [Exit.inBlock, Exit.then]); refine bodyPost_ret (v := ovV ⟨fr, fa, fn, fi, fog, fp1, fn1, fc1, fnx, fmd, fpf, fp2, fn2, fc2, ff⟩) (by simp [results, Try.results38, go_sem]) rfl ⟨rfl, rfl⟩)
  · have t0 : decide (0 ≤ at_) = false := decide_eq_false h0
    rw [if_neg (fun h => h0 h.1)]
    go_enter Try.func38, Try.ntmps38
    go_wp2_with fail
    ((try simp only [Exit.inBlock, Exit.then]); refine bodyPost_ret (v := ovV ⟨fr, fa, fn, fi, fog, fp1, fn1, fc1, fnx, fmd, fpf, fp2, fn2, fc2, ff⟩) (by simp [results, Try.results38, go_sem]) rfl ⟨rfl, rfl⟩)
end Go.Proofs.Yteeihjdkenlebaa
