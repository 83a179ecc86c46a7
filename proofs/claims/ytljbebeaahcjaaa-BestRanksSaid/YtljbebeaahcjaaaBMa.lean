/- What the frames of best's laws have in common. -/
import Derived.Test.YtljbebeaahcjaaaBL
import Derived.ProofKit
import Derived.OpenShut
import Derived.ShutString
import Derived.ChangeOld
import Derived.Deep.DeepHandedRow
import Derived.Lib.SmallJoins
import Derived.Below
import Derived.Deep.Slices
import Derived.Deep.Fields
import Derived.Deep.Strs
namespace Go.Proofs.Ytljbebeaahcjaaa
open Go.ChangeShapes Go.WideShapes Go.ChangeAt Go.RowKit Go.Joins Go.Deep
set_option linter.unusedVariables false
set_option linter.unusedSimpArgs false
set_option maxRecDepth 100000

set_option linter.unusedVariables false
set_option linter.unusedSimpArgs false
theorem ownKnobs : ownKnob Try.prog.godebug = none := by kernel_rfl
theorem laidOut : laidOutB Try.prog = true := by kernel_rfl
theorem inta_cells : Try.prog.cellsOf 3 = 1 := by kernel_rfl
theorem u32a_cells : Try.prog.cellsOf 25 = 1 := by kernel_rfl
theorem u32_range {a : Int} (h : (Lit.int .u32 a).wf = true) : 0 ≤ a ∧ a ≤ 4294967295 := by
  have h : IntKind.u32.min ≤ a ∧ a ≤ IntKind.u32.max := by simpa [Lit.wf] using h
  rw [show IntKind.u32.min = 0 from rfl, show IntKind.u32.max = 4294967295 from rfl] at h
  omega
theorem choose_listI {α : Type} (P : Nat → α → Prop) : ∀ (n : Nat), (∀ i, i < n → ∃ m, P i m) → ∃ ms : List α, ms.length = n ∧ ∀ (i : Nat) (m : α), ms[i]? = some m → P i m
  | 0, _ => ⟨[], rfl, fun i m h => by simp at h⟩
  | n + 1, h => by
    obtain ⟨ms, hl, hp⟩ := choose_listI P n (fun i hi => h i (by omega))
    obtain ⟨m, hm⟩ := h n (by omega)
    refine ⟨ms ++ [m], by simp [hl], fun i x hx => ?_⟩
    rcases Nat.lt_or_ge i n with hi | hi
    · rw [List.getElem?_append_left (by omega)] at hx
      exact hp i x hx
    · rw [List.getElem?_append_right (by omega), hl] at hx
      have : i = n := by
        have := (List.getElem?_eq_some_iff.1 hx).1
        simp at this; omega
      subst this
      simp at hx
      exact hx ▸ hm
set_option linter.unusedVariables false
set_option linter.unusedSimpArgs false
set_option maxRecDepth 100000
theorem add_addL (b off i j : Nat) : ((⟨b, off, none⟩ : Addr).add i).add j = ⟨b, off + i + j, none⟩ := by rw [add_litL, add_litL]
/-- A list of any kind of elements, as it comes. -/
theorem open_listL {st et : TypeId} {α : Type} {c : α → List Value} {ok : α → Prop} {zero : α} {zv : Value} {sz by_ : Nat} (C : RowC st et c ok zero zv sz by_) (hcells : Try.prog.cellsOf et = sz) {okA : α → Prop} (hok : ∀ m, okA m → ok m)
    {H : Type} {enc : TypeId × Value → H} {w : World} {base : Nat} {spare : Nat → Bool} {held : Bool}
    (hrd : ∀ (fuel : Nat) (cs : List Value) (y : DataW H × List MemPlace), cs.length = sz → DataW.trod enc Try.prog w base spare held fuel et cs = some y → ∃ m, okA m ∧ cs = c m)
    {fuel : Nat} {v : Value} {y : DataW H × List MemPlace} (hf : DataW.trod enc Try.prog w base spare held fuel st [v] = some y) :
    ∃ x : Option Addr × List α × Nat, v = .slice x.1 x.2.1.length x.2.2 ∧ LAt c ok zero sz w x.1 x.2.1 ∧ (∀ m ∈ x.2.1, okA m) ∧ x.2.1.length ≤ x.2.2 ∧ x.2.2 ≤ maxLen := by
  rcases open_slice C.under hf with ⟨hcs, _⟩ | ⟨a, l, cc, m, n, D, Pl, hcs, _, hl, hm, hmm, _, hi⟩
  · obtain rfl : v = .slice none 0 0 := by simpa using hcs
    exact ⟨(none, [], 0), rfl, LAt.nil _ _ _ _ _ _, fun m h => by simp at h, Nat.le_refl _, Nat.zero_le _⟩
  · obtain rfl : v = .slice (some a) l cc := by simpa using hcs
    have hlm : l ≤ m := by rw [hmm]; split <;> omega
    obtain ⟨ms, hml, hmp⟩ := choose_listI (fun i (x : α) => okA x ∧ ∀ j u, (c x)[j]? = some u → w.cell? ((a.add (i * sz)).add j) = some u) l (fun i hil => by
      obtain ⟨cs', hc', ht'⟩ := hi i (by omega)
      rw [hcells] at hc'
      obtain ⟨_, hlen, hat⟩ := World.cells?_some hc'
      obtain ⟨x, hx, rfl⟩ := hrd _ _ _ hlen ht'
      refine ⟨x, hx, fun j u hj => ?_⟩
      have hjl : j < sz := by
        rw [← C.len x]
        exact (List.getElem?_eq_some_iff.1 hj).1
      rw [hat j hjl, hj])
    have hokm : ∀ x ∈ ms, okA x := fun x hx => by
      obtain ⟨i, hi', he⟩ := List.getElem_of_mem hx
      exact (hmp i x (by rw [List.getElem?_eq_getElem hi', he])).1
    refine ⟨(some a, ms, cc), by rw [hml], ⟨fun x hx => hok x (hokm x hx), ?_⟩, hokm, by simpa [hml] using hl, hm⟩
    rcases ms with _ | ⟨m0, t⟩
    · exact .inl rfl
    · right
      obtain ⟨b, off, spot⟩ := a
      have hp := C.pos
      have hl0 := C.len m0
      obtain ⟨u0, hu0⟩ : ∃ u, (c m0)[0]? = some u := ⟨_, List.getElem?_eq_getElem (by omega)⟩
      have h0 := (hmp 0 m0 rfl).2 0 u0 hu0
      have hspot : spot = none := by
        have := World.cell?_spot h0
        simpa [Addr.add] using this
      subst hspot
      refine ⟨b, off, rfl, fun i hi' j u hj => ?_⟩
      have hx := hmp i ((m0 :: t).getD i zero) (by simp only [List.getD]; rw [List.getElem?_eq_getElem hi']; rfl)
      have := hx.2 j u hj
      rw [add_addL] at this
      exact this
structure NsArg (w : World) (x : Option Addr × List Int × Nat) : Prop where
  at_ : LAt inC InI 0 1 w x.1 x.2.1
  le : x.2.1.length ≤ x.2.2
  max : x.2.2 ≤ maxLen
end Go.Proofs.Ytljbebeaahcjaaa
