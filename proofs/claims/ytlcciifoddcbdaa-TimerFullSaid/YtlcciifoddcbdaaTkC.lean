/- timer: lives. -/
import Derived.Test.YtlcciifoddcbdaaTkB
namespace Go.Proofs.Ytlcciifoddcbdaa
open Go.RowKit Go.Maps
def kA : Tk := ⟨1, 2⟩
def kB : Tk := ⟨2, 1⟩
theorem okA : okT kA := ⟨rfl, rfl⟩
theorem okB : okT kB := ⟨rfl, rfl⟩
structure LivS (w0 u : World) (A g b n : Nat) (D : DataW Unit) : Prop where
  tm : TmP u g b n D
  ba : Blk u A 31 (tkC kA)
  bb : Blk u (A + 1) 31 (tkC kB)
  lt : g < A
  bel : Below w0.heap.size w0 u
  b0 : w0.heap.size ≤ b
theorem LivS.turn {w0 u u' : World} {A g b n n' : Nat} {D D' : DataW Unit} (h : LivS w0 u A g b n D) (hT : TmP u' g b n' D') (hG : u.grownBy u' (some b)) : LivS w0 u' A g b n' D' :=
  ⟨hT, h.ba.of_same (hG.block _ h.ba.lt (fun e => by have := h.lt; have := h.tm.lt; simp at e; omega)), h.bb.of_same (hG.block _ h.bb.lt (fun e => by have := h.lt; have := h.tm.lt; simp at e; omega)), h.lt,
    h.bel.grown hG h.bel.size (fun k e => by cases e; exact h.b0), h.b0⟩
theorem LivS.below {w0 u u' : World} {A g b n : Nat} {D : DataW Unit} (h : LivS w0 u A g b n D) (hb : Below u.heap.size u u') : LivS w0 u' A g b n D := h.turn (h.tm.next hb) (gb_belowT hb)
theorem LivS.drew {w0 u : World} {A g b n : Nat} {D : DataW Unit} (h : LivS w0 u A g b n D) : LivS w0 u.drew A g b n D := h.below (Below.refl _ u).drew
def CellsL (u : World) (A : Nat) : Prop := u.cell? ⟨A, 0, none⟩ = some (.int .i64 1) ∧ u.cell? ⟨A, 1, none⟩ = some (.int .i64 2) ∧ u.cell? ⟨A + 1, 0, none⟩ = some (.int .i64 2) ∧ u.cell? ⟨A + 1, 1, none⟩ = some (.int .i64 1)
theorem LivS.cells {w0 u : World} {A g b n : Nat} {D : DataW Unit} (h : LivS w0 u A g b n D) : CellsL u A :=
  ⟨h.ba.cell 0 (by simp [tkC]), h.ba.cell 1 (by simp [tkC]), h.bb.cell 0 (by simp [tkC]), h.bb.cell 1 (by simp [tkC])⟩
def DL1 : DataW Unit := (DataW.map []).put (litT kA) (inT 5)
def DL2 : DataW Unit := DL1.put (litT kB) (inT 3)
def DL3 : DataW Unit := DL2.del (litT kB)
def DL4 : DataW Unit := DL3.del (litT kA)
def DL5 : DataW Unit := DL4.del (litT kA)
def fL2 : Tk → Option Int := fun y => if y = kB then some 3 else if y = kA then some 5 else none
theorem tabL1 : Tab DL1 (fun y => if y = kA then some 5 else none) := Tab.empty.put ⟨_, rfl⟩ okA 5
theorem isL1 : IsMap DL1 := ⟨_, rfl⟩
theorem tabL2 : Tab DL2 fL2 := tabL1.put isL1 okB 3
theorem dueL2 : OneDue DL2 4 (some kB) := tabL2.due 4 _ (fun x e => by cases e; exact ⟨okB, rfl⟩) (fun x c h => by
  unfold fL2 at h
  by_cases e : x = kB
  · rw [if_pos e] at h; cases h; subst e; simp
  · rw [if_neg e] at h
    by_cases e2 : x = kA
    · rw [if_pos e2] at h; cases h; constructor
      · intro h; omega
      · intro h; cases h; exact absurd rfl e
    · rw [if_neg e2] at h; cases h)
theorem tabL3 : Tab DL3 (fun y => if y = kB then none else fL2 y) := tabL2.del okB
theorem momL3 : MomT DL3 kA 5 := tabL3.mom okA
theorem hasL3 : has DL3 (litT kA) = true := (tabL3 kA okA).1
theorem tabL4 : Tab DL4 (fun y => if y = kA then none else if y = kB then none else fL2 y) := tabL3.del okA
theorem hasL4 : has DL4 (litT kA) = false := (tabL4 kA okA).1
theorem hasL2 : has DL2 (litT kB) = true := (tabL2 kB okB).1
theorem hasL1 : has DL1 (litT kB) = false := (tabL1 kB okB).1
theorem hasL0 : has (DataW.map [] : DataW Unit) (litT kA) = false := rfl
theorem leastL2 {m : Int} {i : Bool} (hl : LeastT DL2 (fun _ => false) m i) : m = 3 ∧ i = true := tabL2.least hl okB (c := 3) rfl (fun y d h => by
  unfold fL2 at h
  by_cases e : y = kB
  · rw [if_pos e] at h; cases h; omega
  · rw [if_neg e] at h
    by_cases e2 : y = kA
    · rw [if_pos e2] at h; cases h; omega
    · rw [if_neg e2] at h; cases h)
theorem sizeL5 {w1 w2 w3 w4 w5 : World} {g b n1 n2 n3 n4 n5 : Nat} (h0 : TmP w1 g b n1 (.map [])) (h1 : TmP w2 g b n2 DL1) (h2 : TmP w3 g b n3 DL2) (h3 : TmP w4 g b n4 DL3) (h4 : TmP w5 g b n5 DL4) : Maps.size DL5 = 0 := by
  have e1 : Maps.size DL1 = 1 := by have := h0.size_put kA 5; rw [hasL0] at this; exact this
  have e2 : Maps.size DL2 = 2 := by have := h1.size_put kB 3; rw [hasL1, e1] at this; exact this
  have e3 : Maps.size DL3 + 1 = 2 := by have := h2.size_del kB; rw [hasL2, e2] at this; exact this
  have e4 : Maps.size DL4 + 1 = Maps.size DL3 := by have := h3.size_del kA; rw [hasL3] at this; exact this
  have e5 : Maps.size DL5 + 0 = Maps.size DL4 := by have := h4.size_del kA; rw [hasL4] at this; exact this
  omega
end Go.Proofs.Ytlcciifoddcbdaa
