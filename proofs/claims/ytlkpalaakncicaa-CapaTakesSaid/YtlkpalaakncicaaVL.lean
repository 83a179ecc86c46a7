/- A region that draws its order in the body of a loop over an iterator: as outside of one, where it defers nothing. -/
import Derived.Test.YtlkpalaakncicaaV8
import Derived.StillTailTactics
namespace Go.Proofs.Ytlkpalaakncicaa
open Go.RowKit Go.Shelf
set_option linter.unusedVariables false
set_option linter.unusedSimpArgs false

/-- What is wanted of Q where a region ends. -/
def endsN (Q : Exit → Act → World → Prop) : Exit → Act → World → Prop
  | .normal, a, w => Q .normal a w
  | _, _, _ => False
/-- An operation that defers nothing. -/
def noDefer (o : Oper) : Bool := match o.op with | .defer _ => false | _ => true
theorem noDefer_spec {o : Oper} (h : noDefer o = true) : ∀ c, o.op ≠ .defer c := fun c e => by
  unfold noDefer at h; rw [e] at h; cases h
theorem wpIn_round {P : Program} {F : Fence} (hF : F = Fence.wide ∨ ∃ lp, F = Fence.wide.inRound lp) {n : Nat} {Q : Exit → Act → World → Prop} {o : Oper} {a : Act} {w : World} {K : Act → World → Prop} (hd : noDefer o = true) (h : o.wp P a w K (endsN Q)) : o.wpIn F n P a w K Q := by
  have hfn : ∀ f, F.fn f := by rcases hF with rfl | ⟨lp, rfl⟩ <;> exact fun _ => trivial
  unfold Oper.wpIn
  refine ⟨fun f _ => hfn f, ?_⟩
  rw [Oper.semAt_plain _ _ _ (noDefer_spec hd)]
  unfold Oper.wp at h
  generalize (execOp a.eval o).run P w = r at h ⊢
  have hdd : ∀ k : Nat, (F.depth.isSome = true → 1 ≤ k) := fun k h => by rcases hF with rfl | ⟨lp, rfl⟩ <;> cases h
  cases r with
  | ok x w' =>
    cases x with
    | value v => exact h
    | skip => exact h
    | defer d => exact h
    | enter f args =>
      have hc : ∀ R : Ending → World → Prop, Calls P f args w' R → CallsIn F (n - 1) P f args w' R := fun R h => by
        rcases hF with rfl | ⟨lp, rfl⟩
        · exact callsIn_wide.2 h
        · exact CallsIn.inRound lp (callsIn_wide.2 h)
      refine ⟨hdd _, (hc _ h).mono fun e w'' he => ?_⟩
      cases e with
      | returned v => exact he
      | panicked c => exact he.elim
      | outgrown => obtain ⟨_, _, h⟩ := he; exact h.elim
    | row r args => exact ⟨hdd _, fun c cs _ => let ⟨v, w', hr, s⟩ := h c cs; ⟨v, w', hr, by rcases hF with rfl | ⟨lp, rfl⟩ <;> exact stepsIn_wide.2 s⟩⟩
    | _ => exact h.elim
  | halt x w' => cases x <;> exact h.elim
theorem wpAnyIn_round {P : Program} {F : Fence} (hF : F = Fence.wide ∨ ∃ lp, F = Fence.wide.inRound lp) {n : Nat} {Q : Exit → Act → World → Prop} {md : Region.Mode} {ops : Array Oper} (hd : ∀ (i : Nat) (o : Oper), ops[i]? = some o → noDefer o = true) : ∀ (fuel : Nat) (listed : Array Bool) (a : Act) (w : World),
    wpAny P md ops (endsN Q) fuel listed a w → wpAnyIn F n P md ops Q fuel listed a w
  | 0, _, _, _, h => h
  | fuel + 1, listed, a, w, h => by
    refine ⟨h.1, fun i hi => ?_⟩
    have h2 := h.2 i hi
    unfold wpOp at h2
    unfold wpOpIn
    rcases hc : ops[i]? with _ | o
    · rw [hc] at h2
      exact wpAnyIn_round hF hd fuel _ _ _ h2
    · rw [hc] at h2
      dsimp only at h2 ⊢
      split
      · rename_i hw
        rw [if_pos hw] at h2
        rcases h2 with h2 | ⟨_, _, _, h2⟩
        · exact wpIn_round hF (hd i o hc) (Oper.wp_mono (fun a w h => wpAnyIn_round hF hd fuel _ _ _ h) h2)
        · exact h2.elim
      · rename_i hw
        rw [if_neg hw] at h2
        exact ⟨fun f _ => by rcases hF with rfl | ⟨lp, rfl⟩ <;> exact trivial, wpAnyIn_round hF hd fuel _ _ _ h2⟩
/-- Reads in any order, then a tail in one order. -/
theorem still_tail_round {P : Program} {F : Fence} (hF : F = Fence.wide ∨ ∃ lp, F = Fence.wide.inRound lp) {m : Nat} {id : Nat} {Q : Exit → Act → World → Prop} {a : Act} {w : World} {l : List Oper} (n : Nat) (hm : P.follows .mixedOrders = true) (hB : Region.lexTailB .any l.toArray n = true) (hd : l.all noDefer = true)
    (h : wpStill P l.toArray w.drew (fun a' => wpList P l.toArray (endsN Q) (l.drop n) a' w.drew) (l.take n) a) : (Code.region id l.toArray true).wpIn F m P Q a w := by
  simp only [Region.lexTailB, Bool.and_eq_true, decide_eq_true_eq] at hB
  obtain ⟨⟨⟨⟨hsel, hn⟩, hs⟩, hc⟩, hlex⟩ := hB
  have hn' : n < l.length := by simpa using hn
  have htl : (l.take n).length = n := by simp; omega
  have hdl : (l.drop n).length = l.toArray.size - n := by simp
  have inv0 : HeadInv .any l.toArray n (Array.replicate l.toArray.size false) :=
    ⟨by simp, fun j oj _ hl => (by rw [getD_replicate_false] at hl; cases hl), fun t _ ht => getD_in (by simpa using ht) (getD_replicate_false _ _)⟩
  have H := wpAnyL_lex (md := .any) (g := l.toArray.size - n) hsel hs hc hn (l.take n) 0 _ a (fun j hj => by
    have hj' : j < n := by rw [htl] at hj; exact hj
    simp [hj']) (by simpa using htl) inv0 (by rw [htl]; exact hlex) h
  have H2 := wpAny_of_head (Q' := endsN Q) (g := l.toArray.size - n) (fun listed a' hL => by
    have := wpAny_of_seq (md := .any) (Q' := endsN Q) (l.drop n) n listed a' w.drew (fun j => by simp [List.getElem?_drop]) (by rw [hdl]; exact hL.1) hL.2
    rwa [hdl] at this) _ _ _ H
  rw [htl, show n + (l.toArray.size - n) = l.toArray.size by omega] at H2
  exact wpIn_region_any hm (wpAnyIn_round hF (fun i o ho => (List.all_eq_true.1 hd) o (by
    rw [List.getElem?_toArray] at ho; exact List.mem_of_getElem? ho)) _ _ _ _ H2)
end Go.Proofs.Ytlkpalaakncicaa
