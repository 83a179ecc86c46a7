/- best: routes in memory; what is looked at of one. -/
import Derived.Test.YtljbebeaahcjaaaEM
import Derived.Test.YtljbebeaahcjaaaJ1
namespace Go.Proofs.Ytljbebeaahcjaaa
open Go.RowKit Go.Maps
set_option linter.unusedVariables false
set_option linter.unusedSimpArgs false
set_option maxRecDepth 100000

/-- A route: its cells, and its attributes' lists. -/
structure Rv where
  intro ::
  r : Int
  a : Int
  n : Int
  i : Int
  x : Ao
def Ao.zero : Ao := ⟨0, none, 0, 0, [], 0, 0, 0, none, 0, 0, []⟩
def Rv.zero : Rv := ⟨0, 0, 0, 0, Ao.zero⟩
def rvC (y : Rv) : List Value := [.int .i64 y.r, .int .u32 y.a, .int .i64 y.n, .int .i64 y.i, .int .i64 y.x.og, .slice y.x.p1 y.x.n1 y.x.c1, .int .u32 y.x.nx, .int .i64 y.x.md, .int .i64 y.x.pf, .slice y.x.p2 y.x.n2 y.x.c2]
/-- What may be looked at. -/
structure InRv (y : Rv) : Prop where
  intro ::
  wr : (Lit.int .i64 y.r).wf = true
  wi : (Lit.int .i64 y.i).wf = true
  wo : (Lit.int .i64 y.x.og).wf = true
  wm : (Lit.int .i64 y.x.md).wf = true
  wp : (Lit.int .i64 y.x.pf).wf = true
theorem rowRv : RowC 22 35 rvC InRv Rv.zero (.agg #[.int .i64 0, .int .u32 0, .int .i64 0, .int .i64 0, .int .i64 0, .slice none 0 0, .int .u32 0, .int .i64 0, .int .i64 0, .slice none 0 0]) 10 112 where
  len x := rfl
  pos := by omega
  zs := rfl
  byl := by omega
  info := by kernel_rfl
  under := Try.underlying22
  elem := by kernel_rfl
  size w := by kernel_rfl
  one x u hu := by
    simp [rvC] at hu
    rcases hu with rfl | rfl | rfl | rfl | rfl | rfl | rfl | rfl | rfl | rfl <;> rfl
structure RvsAt (w : World) (p : Option Addr) (l : List Rv) : Prop where
  intro ::
  at_ : LAt rvC InRv Rv.zero 10 w p l
  ao : ∀ y ∈ l, AoAt w y.x
theorem RvsAt.below {w w' : World} {p : Option Addr} {l : List Rv} (h : RvsAt w p l) (hb : Below w.heap.size w w') : RvsAt w' p l := ⟨h.at_.below hb, fun y hy => (h.ao y hy).below hb⟩
/-- A route at a place. -/
structure RvHere (w : World) (b o : Nat) (y : Rv) : Prop where
  intro ::
  c0 : w.cell? ⟨b, o, none⟩ = some (.int .i64 y.r)
  c1 : w.cell? ⟨b, o + 1, none⟩ = some (.int .u32 y.a)
  c2 : w.cell? ⟨b, o + 2, none⟩ = some (.int .i64 y.n)
  c3 : w.cell? ⟨b, o + 3, none⟩ = some (.int .i64 y.i)
  c4 : w.cell? ⟨b, o + 4, none⟩ = some (.int .i64 y.x.og)
  c5 : w.cell? ⟨b, o + 5, none⟩ = some (.slice y.x.p1 y.x.n1 y.x.c1)
  c6 : w.cell? ⟨b, o + 6, none⟩ = some (.int .u32 y.x.nx)
  c7 : w.cell? ⟨b, o + 7, none⟩ = some (.int .i64 y.x.md)
  c8 : w.cell? ⟨b, o + 8, none⟩ = some (.int .i64 y.x.pf)
  c9 : w.cell? ⟨b, o + 9, none⟩ = some (.slice y.x.p2 y.x.n2 y.x.c2)
  ao : AoAt w y.x
  in_ : InRv y
theorem RvHere.below {w w' : World} {b o : Nat} {y : Rv} (h : RvHere w b o y) (hb : Below w.heap.size w w') : RvHere w' b o y :=
  ⟨kept hb h.c0, kept hb h.c1, kept hb h.c2, kept hb h.c3, kept hb h.c4, kept hb h.c5, kept hb h.c6, kept hb h.c7, kept hb h.c8, kept hb h.c9, h.ao.below hb, h.in_⟩
theorem rv_here {w : World} {p : Option Addr} {l : List Rv} {n k : Nat} (h : RvsAt w p l) (hn : l.length = n) (hk : k < n) : ∃ b off, p = some ⟨b, off, none⟩ ∧ RvHere w b (off + k * 10) (l.getD k Rv.zero) := by
  obtain ⟨b, off, rfl, hc⟩ := h.at_.cell hn hk
  have hm : l.getD k Rv.zero ∈ l := by simp [List.getD, show k < l.length by omega]
  exact ⟨b, off, rfl, hc 0 _ rfl, hc 1 _ rfl, hc 2 _ rfl, hc 3 _ rfl, hc 4 _ rfl, hc 5 _ rfl, hc 6 _ rfl, hc 7 _ rfl, hc 8 _ rfl, hc 9 _ rfl, h.ao _ hm, h.at_.ok _ hm⟩
def prefV (x : Ao) : Int := if x.pf < 0 then 100 else x.pf
def lenL : List Sg → Nat
  | [] => 0
  | s :: t => (if s.set then 1 else s.n) + lenL t
theorem lenL_snoc (l : List Sg) (s : Sg) : lenL (l ++ [s]) = lenL l + if s.set then 1 else s.n := by
  induction l with
  | nil => simp [lenL]
  | cons y t ih => simp only [List.cons_append, lenL, ih]; omega
def firstL : List Sg → Int
  | [] => 0
  | s :: t => if s.set then 0 else if s.n = 0 then firstL t else s.A.getD 0 0
theorem firstL_drop {l : List Sg} : ∀ {k : Nat}, (∀ s ∈ l.take k, s.set = false ∧ s.n = 0) → firstL l = firstL (l.drop k) := by
  induction l with
  | nil => intro k _; simp
  | cons s t ih =>
    intro k h
    cases k with
    | zero => rfl
    | succ k =>
      rw [List.take_succ_cons] at h
      obtain ⟨h1, h2⟩ := h s List.mem_cons_self
      simp only [List.drop_succ_cons, firstL, h1, h2, Bool.false_eq_true, if_false, if_true]
      exact ih fun s hs => h s (List.mem_cons_of_mem _ hs)
theorem pref_any (w : World) (x : Ao) : Calls Try.prog 14 #[aoV x] w fun e w' => e = .returned (.int .i64 (prefV x)) ∧ Below w.heap.size w w' := by
  have HB := Lib.hid (newB w (.cells #[.int .i64 x.og, .slice x.p1 x.n1 x.c1, .int .u32 x.nx, .int .i64 x.md, .int .i64 x.pf, .slice x.p2 x.n2 x.c2] 33))
  by_cases h : x.pf < 0
  · have t0 : decide (x.pf < 0) = true := decide_eq_true h
    have e : prefV x = 100 := if_pos h
    rw [e]
    go_enter Try.func14, Try.ntmps14
    go_wp2
    go_ret
    exact ⟨rfl, HB.out⟩
  · have t0 : decide (x.pf < 0) = false := decide_eq_false h
    have e : prefV x = x.pf := if_neg h
    rw [e]
    go_enter Try.func14, Try.ntmps14
    go_wp2
    go_ret
    exact ⟨rfl, HB.out⟩
end Go.Proofs.Ytljbebeaahcjaaa
