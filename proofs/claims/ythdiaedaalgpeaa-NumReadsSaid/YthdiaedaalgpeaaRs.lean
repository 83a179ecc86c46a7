/- Two readers side by side: what is done to one leaves the other. -/
import Derived.Test.YthdiaedaalgpeaaRr
namespace Go.Proofs.Ythdiaedaalgpeaa
open Go.RowKit

theorem apart_row {w : World} {g : Nat} {t : TypeId} {f : Nat → Value} (hr : w.rowIs g t 2 f) (h0 : ∀ x, f 0 ≠ .int .u8 x) (h1 : ∀ x, f 1 ≠ .int .u8 x) {p : Option Addr} {xs : List Int} (hy : BytesAt w p xs) : xs = [] ∨ p.map (·.block) ≠ some g := by
  rcases hy.2 with h | ⟨b, off, rfl, hc⟩
  · exact .inl h
  · rcases xs with _ | ⟨x, r⟩
    · exact .inl rfl
    · right
      intro e
      obtain rfl : b = g := by simpa using e
      have hcell := hc 0 (by simp)
      obtain ⟨c, hb, hn, hcc⟩ := hr
      simp [World.cell?, hb] at hcell
      have hlt : off < 2 := by
        rcases Nat.lt_or_ge off c.size with h | h
        · omega
        · rw [Array.getElem?_eq_none h] at hcell; cases hcell
      rw [hcc off hlt] at hcell
      have : off = 0 ∨ off = 1 := by omega
      rcases this with rfl | rfl
      · exact h0 _ (Option.some.inj hcell)
      · exact h1 _ (Option.some.inj hcell)
theorem bytes_keep {w w' : World} {g : Nat} {p : Option Addr} {xs : List Int} (hy : BytesAt w p xs) (hg : w.grownBy w' (some g)) (ha : xs = [] ∨ p.map (·.block) ≠ some g) : BytesAt w' p xs := by
  rcases ha with rfl | h
  · exact BytesAt.nil _ _
  · exact bytes_far hy hg (fun b hb e => h (by rw [hb]; exact e))
theorem RdAt.two {w : World} {g : Nat} {s : Option (List Int)} (h : RdAt w g s) : ∃ f, w.rowIs g 47 2 f ∧ (∀ x, f 0 ≠ .int .u8 x) ∧ (∀ x, f 1 ≠ .int .u8 x) := by
  rcases s with _ | xs
  · exact ⟨_, h, fun x e => (by simp at e), fun x e => (by simp at e)⟩
  · obtain ⟨b, off, cap, hr, _⟩ := h
    exact ⟨_, hr, fun x e => (by simp at e), fun x e => (by simp at e)⟩
theorem RRel.two {w : World} {g : Nat} {s : Option (List Int)} (h : RRel w g s) : ∃ f, w.rowIs g 29 2 f ∧ (∀ x, f 0 ≠ .int .u8 x) ∧ (∀ x, f 1 ≠ .int .u8 x) := by
  obtain ⟨xs, ⟨p, cap, hb, _⟩, _⟩ := h
  exact ⟨_, hb, fun x e => (by simp at e), fun x e => (by simp at e)⟩
theorem RdAt.lt' {w : World} {g : Nat} {s : Option (List Int)} (h : RdAt w g s) : g < w.heap.size := by
  obtain ⟨f, hr, _⟩ := h.two
  exact hr.lt
theorem RRel.lt {w : World} {g : Nat} {s : Option (List Int)} (h : RRel w g s) : g < w.heap.size := by
  obtain ⟨f, hr, _⟩ := h.two
  exact hr.lt
theorem RdAt.keep {w w' : World} {g1 g2 : Nat} {s s' : Option (List Int)} (h : RdAt w g1 s) (hr : RRel w g2 s') (hne : g1 ≠ g2) (hg : w.grownBy w' (some g2)) : RdAt w' g1 s := by
  have hlt := h.lt'
  obtain ⟨f, h2, h20, h21⟩ := hr.two
  have hb : w'.heap[g1]? = w.heap[g1]? := hg.block g1 hlt (fun e => hne (Option.some.inj e))
  rcases s with _ | xs
  · exact World.rowIs.of_block h hb
  · obtain ⟨b, off, cap, hrow, hbg, hy, hl, hm⟩ := h
    refine ⟨b, off, cap, World.rowIs.of_block hrow hb, hbg, bytes_keep hy hg (apart_row h2 h20 h21 hy), hl, hm⟩
theorem RRel.keep {w w' : World} {g1 g2 : Nat} {s s' : Option (List Int)} (h : RRel w g2 s) (hr : RdAt w g1 s') (hne : g1 ≠ g2) (hg : w.grownBy w' (some g1)) : RRel w' g2 s := by
  have hlt := h.lt
  obtain ⟨f, h2, h20, h21⟩ := hr.two
  have hb : w'.heap[g2]? = w.heap[g2]? := hg.block g2 hlt (fun e => hne (Option.some.inj e).symm)
  obtain ⟨xs, ⟨p, cap, hrow, hy, hl, hm, hne'⟩, he⟩ := h
  exact ⟨xs, ⟨p, cap, hrow.of_same hb, bytes_keep hy hg (apart_row h2 h20 h21 hy), hl, hm, hne'⟩, he⟩
theorem RRel.below {w w' : World} {g : Nat} {s : Option (List Int)} (h : RRel w g s) (hb : Below w.heap.size w w') : RRel w' g s := by
  obtain ⟨xs, ⟨p, cap, hrow, hy, hl, hm, hne'⟩, he⟩ := h
  exact ⟨xs, ⟨p, cap, hrow.next hb, hy.below hb, hl, hm, hne'⟩, he⟩

/-- Calls as they came: kind and number. -/
def OpsAt (w : World) (p : Option Addr) (os : List (Int × Int)) : Prop :=
  os = [] ∨ ∃ b off, p = some ⟨b, off, none⟩ ∧ ∀ (i : Nat) (o : Int × Int), os[i]? = some o → w.cell? ⟨b, off + i * 2, none⟩ = some (.int .i64 o.1) ∧ w.cell? ⟨b, off + i * 2 + 1, none⟩ = some (.int .i64 o.2)
theorem OpsAt.below {w w' : World} {p : Option Addr} {os : List (Int × Int)} (h : OpsAt w p os) (hb : Below w.heap.size w w') : OpsAt w' p os := by
  rcases h with h0 | ⟨b, off, hp, hc⟩
  · exact .inl h0
  · exact .inr ⟨b, off, hp, fun i o ho => ⟨kept hb (hc i o ho).1, kept hb (hc i o ho).2⟩⟩
theorem next_len {s : Option (List Int)} {n : Int} {k : Nat} (h : ∀ xs, s = some xs → xs.length ≤ k) : ∀ xs, nextV s n = some xs → xs.length ≤ k := by
  intro xs hx
  unfold nextV at hx
  split at hx
  · rename_i hk
    rcases s with _ | ys
    · simp [okTake] at hk
    · have := h ys rfl
      simp at hx
      rw [← hx]; simp; omega
  · cases hx
end Go.Proofs.Ythdiaedaalgpeaa
