/- the document's meter beside a law's world. -/
import Derived.Test.YtgididkpgncdjaaYC
import Derived.Test.YtgididkpgncdjaaZU
namespace Go.Proofs.Ytgididkpgncdjaa
open Go.RowKit Go.Maps
set_option linter.unusedVariables false
set_option linter.unusedSimpArgs false
set_option maxRecDepth 100000

theorem lz_then {w : World} {z : Lz} (h : LzAt w z) {src seq : Int} {q : Option Addr} {L : List Ct} {n c9 : Nat} {now : Int} (hl : CtsAt w q L) (hn : L.length = n) (ho : okRep src seq L = true) (hc : isCap now = true) : LzAt w (thenZ z ⟨src, seq, q, L, n, c9⟩ now) := by
  have h4 := (isCap_iff now).1 hc
  unfold okRep at ho
  simp only [Bool.and_eq_true, decide_eq_true_eq] at ho
  have hRC : ∀ y ∈ L, 0 ≤ y.c ∧ y.c ≤ 9007199254740991 := fun y hy => by
    have h := (distT_iff L [] ho.2.2.2).1 y hy
    unfold fineCt at h
    simp only [Bool.and_eq_true] at h
    exact (isCap_iff _).1 h.2
  have h1024 : n ≤ 1024 := by have := ho.2.2.1; omega
  unfold thenZ
  by_cases h0 : 0 < z.i
  · rw [if_pos h0]; exact ⟨hl, hn, h1024, h.r, h.rn, h.rm, hRC, h.rc, h4.1, h4.2, h.t0, h.t1⟩
  · rw [if_neg h0]; exact ⟨hl, hn, h1024, LAt.nil _ _ _ _ _ _, rfl, show (0 : Nat) ≤ 1024 by decide, hRC, (fun y hy => by cases hy), h4.1, h4.2, Int.le_refl _, show (0 : Int) ≤ 9007199254740991 by decide⟩
theorem off_low {w : World} {p : Option Addr} {L : List Ct} (h : CtsAt w p L) {x : Nat} (hx : w.heap.size ≤ x) : L ≠ [] → ∀ b off, p = some ⟨b, off, none⟩ → b ≠ x := fun hl b off e => by have := h.lt rowCt hl e; omega
/-- The document's Meter, at x, beside a law's world; its reports are the law's own arguments. -/
structure Rm (w W : World) (x : Nat) (Z : Nat → Lz) (V : Nat → Mv) : Prop where
  intro ::
  blk : Blk W x RMf (rmC Z)
  at_ : ∀ i, i < 16 → LzAt w (Z i)
  rel : RelV V Z
  ok : OkV V
  lo : w.heap.size ≤ x
  bel : Below w.heap.size w W
section
variable {w W W' : World} {x m b : Nat} {Z : Nat → Lz} {V : Nat → Mv}
theorem Rm.rf (H : Rm w W x Z V) : RfM W x Z := ⟨H.blk, fun i hi => (H.at_ i hi).below H.bel, fun i hi => ⟨off_low (H.at_ i hi).r H.lo, off_low (H.at_ i hi).wat H.lo⟩⟩
theorem Rm.next (H : Rm w W x Z V) (hb : Below W.heap.size W W') : Rm w W' x Z V := ⟨H.blk.next hb, H.at_, H.rel, H.ok, H.lo, H.bel.trans (hb.mono H.bel.size)⟩
theorem Lm.nex (H : Lm w W m b V) {cs : List Value} (hx : Blk W x RMf cs) : m ≠ x ∧ b ≠ x := by
  obtain ⟨⟨P, h⟩, _⟩ := H
  refine ⟨fun e => ?_, fun e => ?_⟩
  · subst e
    have := Blk.type h.top hx
    revert this
    decide
  · subst e
    have := Blk.type h.blk hx
    revert this
    decide
theorem Rm.other (H : Rm w W x Z V) (hT : Turns (fun k => k = b) W W') (hb : b ≠ x) (hB : Below w.heap.size w W') : Rm w W' x Z V := ⟨H.blk.of_same (hT.block x H.blk.lt (fun e => hb e.symm)), H.at_, H.rel, H.ok, H.lo, hB⟩
theorem Lm.foreign (H : Lm w W m b V) {cs : List Value} (hx : Blk W x RMf cs) (hlo : w.heap.size ≤ x) (hT : Turns (fun k => k = x) W W') : Lm w W' m b V := by
  obtain ⟨n1, n2⟩ := H.nex hx
  obtain ⟨⟨P, h⟩, hb⟩ := H
  have hk : ∀ k, k < W.heap.size → (∃ es c, W.heap[k]? = some (.map es c)) → W'.heap[k]? = W.heap[k]? := fun k hk ⟨es, c, hm⟩ => hT.block k hk (fun e => hx.notMap hm e.symm)
  exact ⟨⟨P, ⟨h.top.of_same (hT.block m h.lt.1 n1), h.blk.of_same (hT.block b h.lt.2 n2), fun i hi => (h.cm i hi).kept hk, fun i hi => (h.rm i hi).kept hk, h.ok, h.bm, h.bb, h.ne⟩⟩, hb.trans (hT.below hb.size (fun k e => by subst e; exact hlo))⟩
theorem Rm.take (H : Rm w W x Z V) (src seq : Int) (q : Option Addr) (L : List Ct) (n c9 : Nat) (hl : CtsAt w q L) (hn : L.length = n) (hm : n ≤ maxLen) (now : Int) :
    Calls Try.prog 13 #[.pointer (some ⟨x, 0, none⟩), .agg #[.int .i64 src, .int .i64 seq, .slice q n c9], .int .i64 now] W fun e w' => e = .returned (.int .i64 (takeE V src seq L now)) ∧ Turns (fun k => k = x) W w' ∧ ∃ Z', Rm w w' x Z' (takeV V src seq L now) := by
  refine (rtakeM_any W x Z H.rf V H.rel H.ok src seq q L n c9 (hl.below H.bel) hn hm now (off_low hl H.lo)).mono ?_
  rintro e w' ⟨rfl, hT, Z', hrf, hrel, hk⟩
  exact ⟨rfl, hT, Z', hrf.blk, hk (LzAt w) H.at_ (fun ho hc z hz => lz_then hz hl hn ho hc), hrel, okV_take H.ok hl.ok, H.lo, H.bel.trans (hT.below H.bel.size (fun k e => by subst e; exact H.lo))⟩
theorem Rm.demand (H : Rm w W x Z V) (p : Pf) : Calls Try.prog 17 #[.pointer (some ⟨x, 0, none⟩), .agg #[.int .u32 p.a, .int .i64 p.n]] W fun e w' => e = .returned (.int .i64 (demV V p)) ∧ Below W.heap.size W w' := rdemand_any W x Z H.rf V H.rel H.ok p
theorem Rm.demands (H : Rm w W x Z V) : Calls Try.prog 20 #[.pointer (some ⟨x, 0, none⟩)] W fun e w' => DemTo W w' V e := rdemandsM_any W x Z H.rf V H.rel H.ok
theorem Rm.over (H : Rm w W x Z V) : Calls Try.prog 22 #[.pointer (some ⟨x, 0, none⟩)] W fun e w' => e = .returned (.bool (overV V)) ∧ Below W.heap.size W w' := roverM_any W x Z H.rf V H.rel H.ok
theorem Rm.stamp (H : Rm w W x Z V) (src : Int) : Calls Try.prog 15 #[.pointer (some ⟨x, 0, none⟩), .int .i64 src] W fun e w' => e = .returned (.tuple #[.int .i64 (stampV V src).1, .bool (stampV V src).2]) ∧ W = w' := rstampM_any W x Z H.rf V H.rel H.ok src
end
theorem lzAt_zero (w : World) : LzAt w Lz.zero := ⟨LAt.nil _ _ _ _ _ _, rfl, show (0 : Nat) ≤ 1024 by decide, LAt.nil _ _ _ _ _ _, rfl, show (0 : Nat) ≤ 1024 by decide, (fun y hy => by cases hy), (fun y hy => by cases hy), Int.le_refl _, show (0 : Int) ≤ 9007199254740991 by decide, Int.le_refl _, show (0 : Int) ≤ 9007199254740991 by decide⟩
theorem rm_new {w W : World} {x : Nat} (hb : Blk W x RMf (rmC fun _ => Lz.zero)) (hlo : w.heap.size ≤ x) (hB : Below w.heap.size w W) : Rm w W x (fun _ => Lz.zero) V0 := ⟨hb, fun _ _ => lzAt_zero w, fun _ _ => relZ_zero, okV0, hlo, hB⟩
end Go.Proofs.Ytgididkpgncdjaa
