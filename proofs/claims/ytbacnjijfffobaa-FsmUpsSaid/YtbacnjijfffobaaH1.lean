/- fsm: what a session is in, and what it does, on numbers alone. -/
import Derived.Test.YtbacnjijfffobaaOm
import Derived.Test.YtbacnjijfffobaaBy
namespace Go.Proofs.Ytbacnjijfffobaa
open Go.RowKit

/-- A session's state. -/
structure Ph where
  phase : Int
  hold : Int
  four : Bool
  paths : Bool
  id : Int
def Ph.c (s : Ph) : List Value := [.int .i64 s.phase, .int .i64 s.hold, .bool s.four, .bool s.paths, .int .u32 s.id]
def Ph.v (s : Ph) : Value := .agg #[.int .i64 s.phase, .int .i64 s.hold, .bool s.four, .bool s.paths, .int .u32 s.id]
def Ph.at (p : Int) : Ph := ⟨p, 0, false, false, 0⟩
/-- What it does: a number, or a note; the note's bytes are told as they lie. -/
structure Ac where
  kind : Int
  n : Int
  code : Int
  sub : Int
  p : Option Addr
  len : Nat
  cap : Nat
def Ac.c (a : Ac) : List Value := [.int .i64 a.kind, .int .i64 a.n, .int .i64 a.code, .int .i64 a.sub, .slice a.p a.len a.cap]
def ac (k n : Int) : Ac := ⟨k, n, 0, 0, none, 0, 0⟩
def Ac.zero : Ac := ac 0 0
def acells (l : List Ac) : List Value := l.flatMap Ac.c
theorem acells_len (l : List Ac) : (acells l).length = l.length * 5 := by
  unfold acells
  induction l with
  | nil => rfl
  | cons a t ih => rw [List.flatMap_cons, List.length_append, ih]; simp [Ac.c]; omega
theorem acells_app (l m : List Ac) : acells (l ++ m) = acells l ++ acells m := by unfold acells; rw [List.flatMap_append]
theorem acells_get (l : List Ac) (i : Nat) (h : i < l.length) (j : Nat) (hj : j < 5) : (acells l)[i * 5 + j]? = (l.getD i Ac.zero).c[j]? := by
  induction l generalizing i with
  | nil => simp at h
  | cons a t ih =>
    unfold acells at *
    rw [List.flatMap_cons]
    cases i with
    | zero =>
      have hl : j < a.c.length := by simpa [Ac.c] using hj
      rw [List.getElem?_append_left (by simpa using hl)]
      simp
    | succ i =>
      have := ih i (by simpa using h)
      rw [List.getElem?_append_right (by simp [Ac.c]; omega)]
      rw [show (i + 1) * 5 + j - a.c.length = i * 5 + j from by simp [Ac.c]; omega, this]
      simp

/-- A note's bytes of one's own, wherever they lie. -/
structure Dt where
  p : Option Addr
  len : Nat
  cap : Nat
def noteAc (code sub : Int) (d : Dt) : Ac := ⟨4, 0, code, sub, d.p, d.len, d.cap⟩
def downL (s : Ph) : List Ac := if s.phase = 5 then [ac 10 0] else []
def closeL (retry : Int) : List Ac := [ac 5 0, ac 6 0, ac 7 0, ac 8 retry]
def noteL (code sub : Int) (d : Dt) : List Ac := if code = 0 then [] else [noteAc code sub d]
def leaveL (s : Ph) (code sub : Int) (d : Dt) (retry : Int) : List Ac := noteL code sub d ++ (closeL retry ++ downL s)
def fallV (retry : Int) (s : Ph) (code sub : Int) (d : Dt) : Ph × List Ac := (Ph.at 2, leaveL s code sub d retry)
def stopV (s : Ph) (d : Dt) : Ph × List Ac :=
  if s.phase = 1 then (s, []) else if s.phase = 2 then (Ph.at 1, leaveL s 0 0 d 0) else (Ph.at 1, leaveL s 6 2 d 0)
def tryL (retry : Int) : List Ac := [ac 8 retry, ac 1 0]
def idleV (retry : Int) (s : Ph) (kind : Int) : Ph × List Ac := if kind = 1 then ({ s with phase := 2 }, tryL retry) else (s, [])
def connectV (retry : Int) (s : Ph) (kind : Int) : Ph × List Ac :=
  if kind = 3 then ({ s with phase := 3 }, [ac 8 0, ac 2 0, ac 6 240]) else if kind = 12 then (s, tryL retry) else if kind = 4 then (s, [ac 8 retry]) else (s, [])
def takesB (p : Int) : Bool := p == 1 || p == 3
def givesB (p : Int) : Bool := p == 2 || p == 3
def beatL (s : Ph) : List Ac := [ac 3 0, ac 7 (wrap64 (s.hold.tdiv 3))]
def metV (o x : Op) : Ph := ⟨4, min x.hold o.hold, x.four && o.four, takesB o.paths && givesB x.paths, x.id⟩
def meetV (o : Op) (retry : Int) (s : Ph) (x : Op) (d : Dt) : Ph × List Ac :=
  if x.asn = o.asn then (if x.id = o.id then fallV retry s 2 3 d else (metV o x, beatL (metV o x) ++ [ac 6 (metV o x).hold])) else fallV retry s 2 2 d
def messageV (o : Op) (retry : Int) (s : Ph) (kind : Int) (x : Op) (d : Dt) : Ph × List Ac :=
  if s.phase = 3 ∧ kind = 5 then meetV o retry s x d
  else if s.phase = 4 ∧ kind = 6 then ({ s with phase := 5 }, [ac 6 s.hold, ac 9 0])
  else if s.phase = 5 ∧ kind ≠ 5 then (s, [ac 6 s.hold])
  else fallV retry s 5 (s.phase - 3 + 1) d
def againV (s : Ph) : Ph × List Ac := if s.phase = 3 then (s, []) else if s.hold = 0 then (s, [ac 7 (wrap64 (s.hold.tdiv 3))]) else (s, beatL s)
def sessionV (o : Op) (retry : Int) (s : Ph) (kind : Int) (x : Op) (code sub : Int) (d : Dt) : Ph × List Ac :=
  if kind = 5 ∨ kind = 6 ∨ kind = 7 then messageV o retry s kind x d
  else if kind = 11 then againV s
  else if kind = 10 then fallV retry s 4 0 d
  else if kind = 4 ∨ kind = 8 then fallV retry s 0 0 d
  else if kind = 9 then fallV retry s code sub d
  else (s, [])
def eventV (o : Op) (retry : Int) (s : Ph) (kind : Int) (x : Op) (code sub : Int) (d : Dt) : Ph × List Ac :=
  if kind = 2 then stopV s d else if s.phase = 1 then idleV retry s kind else if s.phase = 2 then connectV retry s kind else sessionV o retry s kind x code sub d
def okR (r : Int) : Bool := decide (1 ≤ r) && decide (r ≤ 65535)
def okL (o : Op) (r : Int) : Bool := okO o && okR r
def knownB (s : Ph) : Bool := decide (1 ≤ s.phase) && decide (s.phase ≤ 5)
def stepV (o : Op) (retry : Int) (s : Ph) (kind : Int) (x : Op) (code sub : Int) (d : Dt) : Ph × List Ac :=
  if okL o retry && knownB s then eventV o retry s kind x code sub d else (s, [])
def errL (o : Op) (r : Int) : Int := if okO o then (if okR r then 0 else 1) else 40
end Go.Proofs.Ytbacnjijfffobaa
