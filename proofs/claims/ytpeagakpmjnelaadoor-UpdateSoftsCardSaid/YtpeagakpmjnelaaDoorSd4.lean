/- num's Reader: what its calls give, case by case; what a write to another block leaves. -/
import Derived.Test.YtpeagakpmjnelaaDoorSd3
namespace Go.Proofs.YtpeagakpmjnelaaDoor.Ax
open Go.RowKit
set_option maxRecDepth 100000

theorem RdAt.inb {w : World} {g : Nat} {xs : List Int} (h : RdAt w g (some xs)) : InByte xs := by
  obtain ⟨b, off, cap, _, _, hx, _⟩ := h; exact hx.1
theorem inByte_cons {x : Int} {xs : List Int} (h : InByte (x :: xs)) : 0 ≤ x ∧ x ≤ 255 := by
  have := h 0 (by simp); simpa using this
theorem inByte_tail {x : Int} {xs : List Int} (h : InByte (x :: xs)) : InByte xs := fun i hi => by
  have := h (i + 1) (by simp; omega); simpa using this

/-- A call's end: a number, the reader's next state, and that nothing else that was has turned. -/
def NumTo (w w' : World) (e : Ending) (g : Nat) (v : Int) (s : Option (List Int)) : Prop := e = .returned (.int .i64 v) ∧ RdAt w' g s ∧ w.grownBy w' (some g)
theorem num_cast {w : World} {g : Nat} {s s' : Option (List Int)} {I v : Int} (h : RdAt w g s) (h1 : numV s I = v) (h2 : numNext s I = s') :
    Calls Tryd.prog 33 #[.pointer (some ⟨g, 0, none⟩), .int .i64 I] w fun e w' => NumTo w w' e g v s' := by
  subst h1 h2; exact num_any w g s I h
theorem num1_cons {w : World} {g : Nat} {k : Int} {t : List Int} (h : RdAt w g (some (k :: t))) :
    Calls Tryd.prog 33 #[.pointer (some ⟨g, 0, none⟩), .int .i64 1] w fun e w' => NumTo w w' e g k (some t) := by
  have hk : okTake (some (k :: t)) 1 = true := by simp [okTake]; omega
  exact num_cast h (by simp [numV, wideB, hk, outV, getV]) (by simp [numNext, wideB, nextV, hk])
theorem num1_nil {w : World} {g : Nat} (h : RdAt w g (some [])) :
    Calls Tryd.prog 33 #[.pointer (some ⟨g, 0, none⟩), .int .i64 1] w fun e w' => NumTo w w' e g 0 none :=
  num_cast h (by simp [numV, okTake]) (by simp [numNext, wideB, nextV, okTake])
theorem num_none {w : World} {g : Nat} (I : Int) (h : RdAt w g none) :
    Calls Tryd.prog 33 #[.pointer (some ⟨g, 0, none⟩), .int .i64 I] w fun e w' => NumTo w w' e g 0 none :=
  num_cast h (by simp [numV, okTake]) (by simp [numNext, nextV, okTake])
theorem num_ok {w : World} {g : Nat} {xs : List Int} (I : Int) (n : Nat) (hI : I = n) (h1 : 1 ≤ n) (h4 : n ≤ 4) (hn : n ≤ xs.length) (h : RdAt w g (some xs)) :
    Calls Tryd.prog 33 #[.pointer (some ⟨g, 0, none⟩), .int .i64 I] w fun e w' => NumTo w w' e g (getV (xs.take n)) (some (xs.drop n)) := by
  subst hI
  have hk : okTake (some xs) n = true := by simp [okTake]; omega
  have hw : wideB n = true := by simp [wideB]; omega
  exact num_cast h (by simp [numV, hw, hk, outV]) (by simp [numNext, hw, nextV, hk])
theorem num_short {w : World} {g : Nat} {xs : List Int} (I : Int) (n : Nat) (hI : I = n) (hn : xs.length < n) (h : RdAt w g (some xs)) :
    Calls Tryd.prog 33 #[.pointer (some ⟨g, 0, none⟩), .int .i64 I] w fun e w' => NumTo w w' e g 0 none := by
  subst hI
  have hk : okTake (some xs) n = false := by simp [okTake]; omega
  exact num_cast h (by simp [numV, hk]) (by simp [numNext, nextV, hk])

/-- The bytes come as a row of their own. -/
def BytesTo (w w' : World) (e : Ending) (g : Nat) (ys : List Int) (n : Nat) (s : Option (List Int)) : Prop :=
  ∃ q, e = .returned (.slice (some ⟨q, 0, none⟩) n n) ∧ BRow w' q ys ∧ InByte ys ∧ ys.length = n ∧ q ≠ g ∧ w.heap.size ≤ q ∧ RdAt w' g s ∧ w.grownBy w' (some g)
theorem bytes_ok {w : World} {g : Nat} {xs : List Int} (I : Int) (n : Nat) (hI : I = n) (hn : n ≤ xs.length) (h : RdAt w g (some xs)) :
    Calls Tryd.prog 32 #[.pointer (some ⟨g, 0, none⟩), .int .i64 I] w fun e w' => BytesTo w w' e g (xs.take n) n (some (xs.drop n)) := by
  subst hI
  have hk : okTake (some xs) n = true := by simp [okTake]; omega
  have ho : outV (some xs) n = xs.take n := by simp [outV, hk]
  have hl : (xs.take n).length = n := by rw [List.length_take]; omega
  refine (bytes_any w g (some xs) n h).mono ?_
  rintro e w' ⟨q, he, h1, h2, h3, h4, h5, h6⟩
  rw [ho] at he h1 h2
  rw [hl] at he
  exact ⟨q, he, h1, h2, hl, h3, h4, by simpa [nextV, hk] using h5, h6⟩
theorem bytes_bad {w : World} {g : Nat} {s : Option (List Int)} (I : Int) (hk : okTake s I = false) (h : RdAt w g s) :
    Calls Tryd.prog 32 #[.pointer (some ⟨g, 0, none⟩), .int .i64 I] w fun e w' => BytesTo w w' e g [] 0 none := by
  have ho : outV s I = [] := by simp [outV, hk]
  refine (bytes_any w g s I h).mono ?_
  rintro e w' ⟨q, he, h1, h2, h3, h4, h5, h6⟩
  rw [ho] at he h1 h2
  exact ⟨q, he, h1, h2, rfl, h3, h4, by simpa [nextV, hk] using h5, h6⟩

/-! A block of the call's own that holds no byte. -/
def notByte : Value → Bool
  | .int .u8 _ => false
  | _ => true
theorem _root_.Go.Proofs.YtpeagakpmjnelaaDoor.Blk.beyond {w : World} {g : Nat} {t : TypeId} {vs : List Value} (h : Blk w g t vs) (j : Nat) (hj : vs.length ≤ j) : w.cell? ⟨g, j, none⟩ = none := by
  obtain ⟨cs, hh, hs, _⟩ := h
  have : cs[j]? = none := Array.getElem?_eq_none (by omega)
  simp [World.cell?, hh, this]
theorem _root_.Go.Proofs.YtpeagakpmjnelaaDoor.Blk.noByte {w : World} {g : Nat} {t : TypeId} {vs : List Value} (h : Blk w g t vs) (hv : vs.all notByte = true) (j : Nat) (x : Int) : w.cell? ⟨g, j, none⟩ ≠ some (.int .u8 x) := by
  intro e
  rcases Nat.lt_or_ge j vs.length with hj | hj
  · rw [h.cell j hj] at e
    have hm : vs.getD j undef = vs[j] := by simp [List.getD, List.getElem?_eq_getElem hj]
    rw [hm] at e
    have := List.all_eq_true.1 hv vs[j] (List.getElem_mem hj)
    rw [Option.some.inj e] at this
    cases this
  · rw [h.beyond j hj] at e; cases e
theorem _root_.Go.Proofs.YtpeagakpmjnelaaDoor.BytesAt.past {w w' : World} {p : Option Addr} {xs : List Int} {g : Nat} {t : TypeId} {vs : List Value} (h : BytesAt w p xs) (hb : Blk w g t vs) (hv : vs.all notByte = true) (hg : w.grownBy w' (some g)) : BytesAt w' p xs := by
  obtain ⟨hx, h⟩ := h
  refine ⟨hx, ?_⟩
  rcases h with h | ⟨b, off, hp, hc⟩
  · exact .inl h
  · refine .inr ⟨b, off, hp, fun i hi => ?_⟩
    have hk := hc i hi
    have hlt : b < w.heap.size := World.block_lt_of_cell? w _ hk
    have hne : b ≠ g := fun e => by subst e; exact hb.noByte hv _ _ hk
    exact (World.cell?_of_block (a := ⟨b, off + i, none⟩) (hg.block b hlt (fun e => hne (Option.some.inj e)))).trans hk
/-- A reader stands where another block, that holds no byte, is written. -/
theorem RdAt.past {w w' : World} {gr : Nat} {s : Option (List Int)} {g : Nat} {t : TypeId} {vs : List Value} (h : RdAt w gr s) (hne : gr ≠ g) (hb : Blk w g t vs) (hv : vs.all notByte = true) (hg : w.grownBy w' (some g)) : RdAt w' gr s := by
  have hlt := h.lt
  have hs : w'.heap[gr]? = w.heap[gr]? := hg.block gr hlt (fun e => hne (Option.some.inj e))
  cases s with
  | none => exact World.rowIs.of_block h hs
  | some xs =>
    obtain ⟨b, off, cap, hr, hbg, hx, h1, h2⟩ := h
    exact ⟨b, off, cap, World.rowIs.of_block hr hs, hbg, hx.past hb hv hg, h1, h2⟩
/-- A block stands where another one is written. -/
theorem _root_.Go.Proofs.YtpeagakpmjnelaaDoor.Blk.grown {w w' : World} {g : Nat} {t : TypeId} {vs : List Value} (h : Blk w g t vs) {r : Nat} (hne : g ≠ r) (hg : w.grownBy w' (some r)) : Blk w' g t vs :=
  h.of_same (hg.block g h.lt (fun e => hne (Option.some.inj e)))
theorem _root_.Go.Proofs.YtpeagakpmjnelaaDoor.BRow.grown {w w' : World} {g : Nat} {xs : List Int} (h : BRow w g xs) {r : Nat} (hne : g ≠ r) (hg : w.grownBy w' (some r)) : BRow w' g xs :=
  World.rowIs.of_block h (hg.block g (World.rowIs.lt h) (fun e => hne (Option.some.inj e)))
/-- Writes to a block that is new count for nothing. -/
theorem gb_new {w a b : World} {r : Option Nat} {g : Nat} (h : w.grownBy a r) (k : a.grownBy b (some g)) (hg : w.heap.size ≤ g) : w.grownBy b r :=
  ⟨k.os.trans h.os, k.tape.trans h.tape, k.output.trans h.output, Nat.le_trans h.size k.size, fun i hi hr => (k.block i (Nat.lt_of_lt_of_le hi h.size) (fun e => by have := Option.some.inj e; omega)).trans (h.block i hi hr)⟩
theorem below_new {w a b : World} {B g : Nat} (h : Below B w a) (k : a.grownBy b (some g)) (hg : B ≤ g) (hB : B ≤ a.heap.size) : Below B w b :=
  h.trans ((Below.refl B a).grown k hB (fun q hq => by have := Option.some.inj hq; omega))
/-- A reader stands where a block that is newer is written. -/
theorem RdAt.above {w w' : World} {gr : Nat} {s : Option (List Int)} {row : Option Nat} (h : RdAt w gr s) (hg : w.grownBy w' row) (hr : ∀ r, row = some r → gr < r) : RdAt w' gr s := by
  have hlt := h.lt
  have hs : w'.heap[gr]? = w.heap[gr]? := hg.block gr hlt (fun e => by have := hr gr e.symm; omega)
  cases s with
  | none => exact World.rowIs.of_block h hs
  | some xs =>
    obtain ⟨b, off, cap, hrow, hbg, hx, h1, h2⟩ := h
    refine ⟨b, off, cap, World.rowIs.of_block hrow hs, hbg, hx.of_block (hg.block b (by omega) (fun e => by have := hr b e.symm; omega)), h1, h2⟩
end Go.Proofs.YtpeagakpmjnelaaDoor.Ax
