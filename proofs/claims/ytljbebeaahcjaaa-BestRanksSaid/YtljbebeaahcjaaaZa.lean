/- Blocks that turn: what the meter wants of memory. -/
import Derived.Test.YtljbebeaahcjaaaY1
namespace Go.Proofs.Ytljbebeaahcjaaa
open Go.RowKit Go.Maps
set_option linter.unusedVariables false
set_option linter.unusedSimpArgs false

set_option linter.unusedVariables false
set_option linter.unusedSimpArgs false
theorem Blk.type {w : World} {g : Nat} {t t' : TypeId} {vs us : List Value} (h : Blk w g t vs) (h' : Blk w g t' us) : t = t' := by
  obtain ⟨cs, h1, _⟩ := h
  obtain ⟨cs', h1', _⟩ := h'
  rw [h1] at h1'
  injection h1' with e
  injection e
/-- Nothing that was there has turned but what S names. -/
structure Turns (S : Nat → Prop) (w w' : World) : Prop where
  os : w'.os = w.os
  tape : w'.tape = w.tape
  output : w'.output = w.output
  size : w.heap.size ≤ w'.heap.size
  block : ∀ k, k < w.heap.size → ¬ S k → w'.heap[k]? = w.heap[k]?
theorem Turns.refl (S : Nat → Prop) (w : World) : Turns S w w := ⟨rfl, rfl, rfl, Nat.le_refl _, fun _ _ _ => rfl⟩
theorem Turns.next {S S' : Nat → Prop} {a b c : World} (h : Turns S a b) (k : Turns S' b c) (hs : ∀ i, S' i → S i ∨ a.heap.size ≤ i) : Turns S a c :=
  ⟨k.os.trans h.os, k.tape.trans h.tape, k.output.trans h.output, Nat.le_trans h.size k.size, fun i hi hn => (k.block i (Nat.lt_of_lt_of_le hi h.size) (fun h' => (hs i h').elim hn (by omega))).trans (h.block i hi hn)⟩
theorem Turns.trans {S : Nat → Prop} {a b c : World} (h : Turns S a b) (k : Turns S b c) : Turns S a c := h.next k fun _ => .inl
theorem Turns.of_below {S : Nat → Prop} {w w' : World} (h : Below w.heap.size w w') : Turns S w w' := ⟨h.os, h.tape, h.output, h.size, fun k hk _ => h.block k hk⟩
theorem Turns.below {S : Nat → Prop} {w w' : World} {B : Nat} (h : Turns S w w') (hB : B ≤ w.heap.size) (hS : ∀ k, S k → B ≤ k) : Below B w w' :=
  ⟨h.os, h.tape, h.output, h.size, fun k hk => h.block k (by omega) (fun hs => by have := hS k hs; omega)⟩
theorem Turns.alloc {S : Nat → Prop} {a w : World} (h : Turns S a w) (o : Obj) : Turns S a (w.alloc o) := h.trans (.of_below ((Below.refl _ _).alloc (Nat.le_refl _) _))
theorem Turns.drew {S : Nat → Prop} {a w : World} (h : Turns S a w) : Turns S a w.drew := ⟨h.os, h.tape, h.output, h.size, h.block⟩
theorem Turns.setCell {S : Nat → Prop} {a w : World} (h : Turns S a w) {p : Addr} (hp : S p.block ∨ a.heap.size ≤ p.block) (u : Value) : Turns S a (w.setCell p u) :=
  h.next (S' := fun k => k = p.block) ⟨rfl, rfl, rfl, by simp [World.setCell], fun k _ hk => Below.heap_setCell _ _ _ k hk⟩ (fun i hi => by subst hi; exact hp)
theorem below_dN (B : Nat) (w : World) (n : Nat) : Below B w (w.drewN n) := ⟨rfl, rfl, rfl, Nat.le_refl _, fun _ _ => rfl⟩
theorem newB (w : World) (o : Obj) : Below w.heap.size w (w.alloc o) := (Below.refl _ _).alloc (Nat.le_refl _) _
theorem Blk.cellAt {w : World} {g : Nat} {t : TypeId} {vs : List Value} (h : Blk w g t vs) {k : Nat} {v : Value} (hv : vs[k]? = some v) : w.cell? ⟨g, k, none⟩ = some v := by
  obtain ⟨hl, rfl⟩ := List.getElem?_eq_some_iff.1 hv
  refine (h.cell k hl).trans ?_
  simp [List.getD, hl]
set_option linter.unusedVariables false
set_option maxRecDepth 100000
set_option linter.unusedSimpArgs false
theorem Blk.notMap {w : World} {g b : Nat} {t : TypeId} {vs : List Value} {es : Array MapEntry} {c : Nat} (h : Blk w g t vs) (hm : w.heap[b]? = some (.map es c)) : g ≠ b := fun e => by
  subst e
  obtain ⟨cs, hc, _⟩ := h
  rw [hm] at hc
  cases hc
theorem LAt.turns {α : Type} {c : α → List Value} {ok : α → Prop} {zero : α} {sz : Nat} {w w' : World} {p : Option Addr} {l : List α} (h : LAt c ok zero sz w p l) {S : Nat → Prop} (hT : Turns S w w') (hp : ∀ b off, p = some ⟨b, off, none⟩ → ¬ S b) : LAt c ok zero sz w' p l :=
  ⟨h.ok, h.cells.imp id fun ⟨b, off, e, hc⟩ => ⟨b, off, e, fun i hi j u hv => by
    have h1 := hc i hi j u hv
    exact cell_same h1 (hT.block b (World.block_lt_of_cell? w _ h1) (hp b off e))⟩⟩
theorem LAt.lt {st et : TypeId} {α : Type} {c : α → List Value} {ok : α → Prop} {zero : α} {zv : Value} {sz by_ : Nat} (C : RowC st et c ok zero zv sz by_) {w : World} {p : Option Addr} {l : List α} (h : LAt c ok zero sz w p l) (hl : l ≠ []) {b off : Nat} (hp : p = some ⟨b, off, none⟩) : b < w.heap.size := by
  rcases h.cells with rfl | ⟨b', off', e, hc⟩
  · exact absurd rfl hl
  · rw [hp] at e
    simp only [Option.some.injEq, Addr.mk.injEq, and_true] at e
    obtain ⟨rfl, rfl⟩ := e
    have h0 : 0 < l.length := by cases l with | nil => exact absurd rfl hl | cons _ _ => simp
    have hp := C.pos
    have hl0 := C.len (l.getD 0 zero)
    obtain ⟨u0, hu0⟩ : ∃ u, (c (l.getD 0 zero))[0]? = some u := ⟨_, List.getElem?_eq_getElem (by omega)⟩
    exact World.block_lt_of_cell? w _ (hc 0 h0 0 u0 hu0)
theorem LAt.setOther {α : Type} {c : α → List Value} {ok : α → Prop} {zero : α} {sz : Nat} {w : World} {p : Option Addr} {l : List α} (h : LAt c ok zero sz w p l) {a : Addr} (hp : l ≠ [] → ∀ b off, p = some ⟨b, off, none⟩ → b ≠ a.block) (v : Value) : LAt c ok zero sz (w.setCell a v) p l := by
  refine ⟨h.ok, ?_⟩
  rcases h.cells with rfl | ⟨b, off, e, hc⟩
  · exact .inl rfl
  · by_cases hl : l = []
    · exact .inl hl
    · exact .inr ⟨b, off, e, fun i hi j u hv => cell_same (hc i hi j u hv) (Below.heap_setCell _ _ _ b (hp hl b off e))⟩
end Go.Proofs.Ytljbebeaahcjaaa
