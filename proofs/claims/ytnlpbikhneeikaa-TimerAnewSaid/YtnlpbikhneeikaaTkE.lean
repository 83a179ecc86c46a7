/- TimerAnew: the walk. -/
import Derived.Test.YtnlpbikhneeikaaTkD
namespace Go.Proofs.Ytnlpbikhneeikaa
open Go.RowKit Go.Maps
def kC : Tk := ⟨4, 1⟩
theorem okC : okT kC := ⟨rfl, rfl⟩
structure AnS (w0 u : World) (A g b n : Nat) (D : DataW Unit) : Prop where
  tm : TmP u g b n D
  ba : Blk u A 31 (tkC kC)
  lt : g < A
  bel : Below w0.heap.size w0 u
  b0 : w0.heap.size ≤ b
theorem AnS.turn {w0 u u' : World} {A g b n n' : Nat} {D D' : DataW Unit} (h : AnS w0 u A g b n D) (hT : TmP u' g b n' D') (hG : u.grownBy u' (some b)) : AnS w0 u' A g b n' D' :=
  ⟨hT, h.ba.of_same (hG.block _ h.ba.lt (fun e => by have := h.lt; have := h.tm.lt; simp at e; omega)), h.lt, h.bel.grown hG h.bel.size (fun k e => by cases e; exact h.b0), h.b0⟩
theorem AnS.below {w0 u u' : World} {A g b n : Nat} {D : DataW Unit} (h : AnS w0 u A g b n D) (hb : Below u.heap.size u u') : AnS w0 u' A g b n D := h.turn (h.tm.next hb) (gb_belowT hb)
theorem AnS.drew {w0 u : World} {A g b n : Nat} {D : DataW Unit} (h : AnS w0 u A g b n D) : AnS w0 u.drew A g b n D := h.below (Below.refl _ u).drew
theorem AnS.cells {w0 u : World} {A g b n : Nat} {D : DataW Unit} (h : AnS w0 u A g b n D) : u.cell? ⟨A, 0, none⟩ = some (.int .i64 4) ∧ u.cell? ⟨A, 1, none⟩ = some (.int .i64 1) :=
  ⟨h.ba.cell 0 (by simp [tkC]), h.ba.cell 1 (by simp [tkC])⟩
def DA1 (a : Int) : DataW Unit := (DataW.map []).put (litT kC) (inT a)
def DA2 (a b : Int) : DataW Unit := (DA1 a).put (litT kC) (inT b)
def DA3 (a b : Int) : DataW Unit := (DA2 a b).del (litT kC)
theorem tabA1 (a : Int) : Tab (DA1 a) (fun y => if y = kC then some a else none) := Tab.empty.put ⟨_, rfl⟩ okC a
theorem tabA2 (a b : Int) : Tab (DA2 a b) (fun y => if y = kC then some b else if y = kC then some a else none) := (tabA1 a).put ⟨_, rfl⟩ okC b
theorem getA2 {a b : Int} {x : Tk} {c : Int} (h : (if x = kC then some b else if x = kC then some a else none) = some c) : x = kC ∧ b = c := by
  by_cases e : x = kC
  · rw [if_pos e] at h; cases h; exact ⟨e, rfl⟩
  · rw [if_neg e, if_neg e] at h; cases h
theorem leastA {a b m : Int} {i : Bool} (hl : LeastT (DA2 a b) (fun _ => false) m i) : m = b ∧ i = true := (tabA2 a b).least hl okC (c := b) (by simp) (fun y d h => by have := (getA2 h).2; omega)
theorem dueA0 (a b : Int) : OneDue (DA2 a b) (b - 1) none := (tabA2 a b).due _ _ (fun x e => by cases e) (fun x c h => by have := (getA2 h).2; constructor <;> intro h; omega; cases h)
theorem dueA1 (a b : Int) : OneDue (DA2 a b) b (some kC) := (tabA2 a b).due _ _ (fun x e => by cases e; exact ⟨okC, by simp⟩) (fun x c h => by
  obtain ⟨rfl, rfl⟩ := getA2 h
  simp)
theorem nextA (W : World) (g r n : Nat) (a b : Int) (h : TmP W g r n (DA2 a b)) : Calls Try.prog 18 #[.pointer (some ⟨g, 0, none⟩)] W fun e w' => e = .returned (.tuple #[.int .i64 b, .bool true]) ∧ Below W.heap.size W w' :=
  (tnext_any _ _ _ _ _ h).mono fun e w' ⟨m, i, he, hl, hb⟩ => by
    obtain ⟨rfl, rfl⟩ := leastA hl
    exact ⟨he, hb⟩
theorem dueAe (W : World) (g r n : Nat) (a b d : Int) (hd : d = b - 1) (h : TmP W g r n (DA2 a b)) : Calls Try.prog 14 #[.pointer (some ⟨g, 0, none⟩), .int .i64 d] W fun e w' => e = .returned (.slice none 0 0) ∧ TmP w' g r n (DA2 a b) ∧ W.grownBy w' (some r) :=
  (tdue1_any _ _ _ _ _ h d _ (hd ▸ dueA0 a b)).mono fun e w' ⟨v, he, hG, hd⟩ => by
    rcases hd with ⟨_, rfl, hT⟩ | ⟨x, B, hx, _⟩
    · exact ⟨he, hT, hG⟩
    · cases hx
theorem dueAl (W : World) (g r n : Nat) (a b : Int) (h : TmP W g r n (DA2 a b)) : Calls Try.prog 14 #[.pointer (some ⟨g, 0, none⟩), .int .i64 b] W fun e w' => ∃ q c B, e = .returned (.slice (some ⟨q, 0, none⟩) 1 c) ∧ 1 ≤ c ∧ r < B ∧ w'.ownsRow B 31 2 (.slice (some ⟨q, 0, none⟩) 1 c) 1 (tkC kC) ∧ TmP w' g r n (DA3 a b) ∧ W.grownBy w' (some r) :=
  (tdue1_any _ _ _ _ _ h b _ (dueA1 a b)).mono fun e w' ⟨v, he, hG, hd⟩ => by
    rcases hd with ⟨h0, _⟩ | ⟨x, B, hx, hB, hrow, hT⟩
    · cases h0
    · cases hx
      obtain ⟨q, c, rfl, hc, _⟩ := row_one hrow
      exact ⟨q, c, B, he, hc, by have := h.lt; have := h.blk.lt; omega, hrow, hT, hG⟩
theorem sizeA1 (a : Int) : Maps.size (DA1 a) = 1 := rfl
theorem setA1 (W : World) (g r : Nat) (a : Int) (h0 : 0 ≤ a) (h1 : a ≤ 9007199254740991) (h : TmP W g r 0 (.map [])) : Calls Try.prog 9 #[.pointer (some ⟨g, 0, none⟩), .agg #[.int .i64 4, .int .i64 1], .int .i64 a] W fun e w' => e = .returned (.int .i64 0) ∧ TmP w' g r 1 (DA1 a) ∧ W.grownBy w' (some r) :=
  tset_ok _ _ _ _ _ h 4 1 a okC h0 h1 (by decide) (.inr (by decide))
theorem setA2 (W : World) (g r : Nat) (a b : Int) (h0 : 0 ≤ b) (h1 : b ≤ 9007199254740991) (h : TmP W g r 1 (DA1 a)) : Calls Try.prog 9 #[.pointer (some ⟨g, 0, none⟩), .agg #[.int .i64 4, .int .i64 1], .int .i64 b] W fun e w' => e = .returned (.int .i64 0) ∧ TmP w' g r 2 (DA2 a b) ∧ W.grownBy w' (some r) :=
  tset_ok _ _ _ _ _ h 4 1 b okC h0 h1 (by decide) (.inr (by have := sizeA1 a; omega))
theorem sizeA3 {w1 w2 : World} {g r n1 n2 : Nat} {a b : Int} (h1 : TmP w1 g r n1 (DA1 a)) (h2 : TmP w2 g r n2 (DA2 a b)) : Maps.size (DA3 a b) = 0 := by
  have e2 : Maps.size (DA2 a b) = 1 := by
    have h : Maps.size (DA2 a b) = if has (DA1 a) (litT kC) then Maps.size (DA1 a) else Maps.size (DA1 a) + 1 := h1.size_put kC b
    rw [(tabA1 a kC okC).1] at h
    simpa [sizeA1] using h
  have e3 : Maps.size (DA3 a b) + (if has (DA2 a b) (litT kC) then 1 else 0) = Maps.size (DA2 a b) := h2.size_del kC
  rw [(tabA2 a b kC okC).1] at e3
  simp at e3
  omega
end Go.Proofs.Ytnlpbikhneeikaa
