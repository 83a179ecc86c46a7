/- attr: numbers and segments in memory; what attributes may be. -/
import Derived.Test.YtljbebeaahcjaaaByA
namespace Go.Proofs.Ytljbebeaahcjaaa
open Go.RowKit

/-- A slice's numbers, wherever they lie. -/
def IntsAt (w : World) (p : Option Addr) (xs : List Int) : Prop :=
  xs = [] ∨ ∃ b off, p = some ⟨b, off, none⟩ ∧ ∀ i, i < xs.length → w.cell? ⟨b, off + i, none⟩ = some (.int .i64 (xs.getD i 0))
theorem IntsAt.nil (w : World) (p : Option Addr) : IntsAt w p [] := .inl rfl
theorem IntsAt.below {w w' : World} {p : Option Addr} {xs : List Int} (h : IntsAt w p xs) (hb : Below w.heap.size w w') : IntsAt w' p xs := by
  rcases h with h | ⟨b, off, hp, hc⟩
  · exact .inl h
  · exact .inr ⟨b, off, hp, fun i hi => kept hb (hc i hi)⟩
/-- A segment of a path: a set or not, and its numbers. -/
structure Seg where
  set : Bool
  nums : List Int
def Seg.none : Seg := ⟨false, []⟩
def SegAt (w : World) (b off : Nat) (s : Seg) : Prop :=
  w.cell? ⟨b, off, none⟩ = some (.bool s.set) ∧ ∃ q n c, w.cell? ⟨b, off + 1, none⟩ = some (.slice q n c) ∧ s.nums.length = n ∧ n ≤ c ∧ c ≤ maxLen ∧ IntsAt w q s.nums
theorem SegAt.below {w w' : World} {b off : Nat} {s : Seg} (h : SegAt w b off s) (hb : Below w.heap.size w w') : SegAt w' b off s := by
  obtain ⟨h1, q, n, c, h2, h3, h4, h5, h6⟩ := h
  exact ⟨kept hb h1, q, n, c, kept hb h2, h3, h4, h5, h6.below hb⟩
def SegsAt (w : World) (p : Option Addr) (l : List Seg) : Prop :=
  l = [] ∨ ∃ b off, p = some ⟨b, off, none⟩ ∧ ∀ i, i < l.length → SegAt w b (off + i * 2) (l.getD i Seg.none)
theorem SegsAt.nil (w : World) (p : Option Addr) : SegsAt w p [] := .inl rfl
theorem SegsAt.below {w w' : World} {p : Option Addr} {l : List Seg} (h : SegsAt w p l) (hb : Below w.heap.size w w') : SegsAt w' p l := by
  rcases h with h | ⟨b, off, hp, hc⟩
  · exact .inl h
  · exact .inr ⟨b, off, hp, fun i hi => (hc i hi).below hb⟩
/-- Attributes. -/
structure At where
  origin : Int
  path : List Seg
  next : Int
  med : Int
  pref : Int
  comms : List Int
def At.zero : At := ⟨0, [], 0, 0, 0, []⟩
/-- Where attributes' lists lie. -/
structure Loc where
  pp : Option Addr
  pn : Nat
  pc : Nat
  cp : Option Addr
  cn : Nat
  cc : Nat
def atL (a : At) (l : Loc) : List Value := [.int .i64 a.origin, .slice l.pp l.pn l.pc, .int .u32 a.next, .int .i64 a.med, .int .i64 a.pref, .slice l.cp l.cn l.cc]
structure AtAt (w : World) (a : At) (l : Loc) : Prop where
  path : SegsAt w l.pp a.path
  pn : a.path.length = l.pn
  pc : l.pn ≤ l.pc
  pm : l.pc ≤ maxLen
  comms : IntsAt w l.cp a.comms
  cn : a.comms.length = l.cn
  cc : l.cn ≤ l.cc
  cm : l.cc ≤ maxLen
  n0 : 0 ≤ a.next
  n1 : a.next ≤ 4294967295
theorem AtAt.below {w w' : World} {a : At} {l : Loc} (h : AtAt w a l) (hb : Below w.heap.size w w') : AtAt w' a l :=
  ⟨h.path.below hb, h.pn, h.pc, h.pm, h.comms.below hb, h.cn, h.cc, h.cm, h.n0, h.n1⟩

def oddB (lo hi n : Int) : Bool := decide (n < lo) || decide (hi < n)
theorem oddB_no {lo hi n : Int} (h : oddB lo hi n = false) : lo ≤ n ∧ n ≤ hi := by
  simp [oddB] at h; omega
def mostA (four : Bool) : Int := if four then 4294967295 else 65535
def wideA (four : Bool) : Nat := if four then 4 else 2
def segOdd (hi : Int) (s : Seg) : Bool := s.nums.length == 0 || (decide (64 < s.nums.length) || s.nums.any (oddB 0 hi))
def okPath (l : List Seg) (four : Bool) : Bool := decide (l.length ≤ 8) && !(l.any (segOdd (mostA four)))
def okComms (l : List Int) : Bool := decide (l.length ≤ 32) && !(l.any (oddB 0 4294967295))
def okA (a : At) (four : Bool) : Bool := !oddB 0 2 a.origin && (okPath a.path four && (!(a.next == 0) && (!oddB (-1) 4294967295 a.med && (!oddB (-1) 4294967295 a.pref && okComms a.comms))))

theorem any_take {α : Type} (f : α → Bool) (d : α) : ∀ (l : List α) (k : Nat), k < l.length → (l.take k).any f = false → f (l.getD k d) = true → l.any f = true
  | [], k, h, _, _ => by simp at h
  | a :: t, 0, _, _, h => by simp at h; simp [h]
  | a :: t, k + 1, h, h1, h2 => by
    simp only [List.take_succ_cons, List.any_cons, Bool.or_eq_false_iff] at h1
    have := any_take f d t k (by simpa using h) h1.2 (by simpa using h2)
    simp [this]
theorem any_step {α : Type} (f : α → Bool) (d : α) : ∀ (l : List α) (k : Nat), k < l.length → (l.take k).any f = false → f (l.getD k d) = false → (l.take (k + 1)).any f = false
  | [], k, h, _, _ => by simp at h
  | a :: t, 0, _, _, h => by simp at h; simp [h]
  | a :: t, k + 1, h, h1, h2 => by
    simp only [List.take_succ_cons, List.any_cons, Bool.or_eq_false_iff] at h1 ⊢
    exact ⟨h1.1, any_step f d t k (by simpa using h) h1.2 (by simpa using h2)⟩

/-! Functions made of two bounds. -/
def OddAt (w : World) (g : Nat) (lo hi : Int) : Prop := w.cell? ⟨g, 0, none⟩ = some (.int .i64 lo) ∧ w.cell? ⟨g + 1, 0, none⟩ = some (.int .i64 hi)
theorem OddAt.below {w w' : World} {g : Nat} {lo hi : Int} (h : OddAt w g lo hi) (hb : Below w.heap.size w w') : OddAt w' g lo hi := ⟨kept hb h.1, kept hb h.2⟩
theorem new_below (w : World) (o : Obj) : Below w.heap.size w (w.alloc o) := (Below.refl _ _).alloc (Nat.le_refl _) o
/-- Some place, or none: told by whether it is one. -/
def IdxTo (b : Bool) (e : Ending) : Prop := ∃ i : Int, e = .returned (.int .i64 i) ∧ decide (0 ≤ i) = b
end Go.Proofs.Ytljbebeaahcjaaa
