/- trie: as XT3, where a thing is of any number of cells (vC). -/
import Derived.Test.YtlkpalaakncicaaT2
import Derived.Test.YtlkpalaakncicaaByA
namespace Go.Proofs.Ytlkpalaakncicaa
open Go.RowKit
set_option linter.unusedVariables false
set_option linter.unusedSimpArgs false

theorem Blk.type {w : World} {g : Nat} {t t' : TypeId} {vs us : List Value} (h : Blk w g t vs) (h' : Blk w g t' us) : t = t' := by
  obtain ⟨cs, h1, _⟩ := h
  obtain ⟨cs', h1', _⟩ := h'
  rw [h1] at h1'
  injection h1' with e
  injection e
/-- Nothing that was there has turned but what S names. -/
structure Turns (S : Nat → Prop) (w w' : World) : Prop where
  os : w'.os = w.os
  tape : w'.tape = w.tape
  output : w'.output = w.output
  size : w.heap.size ≤ w'.heap.size
  block : ∀ k, k < w.heap.size → ¬ S k → w'.heap[k]? = w.heap[k]?
theorem Turns.refl (S : Nat → Prop) (w : World) : Turns S w w := ⟨rfl, rfl, rfl, Nat.le_refl _, fun _ _ _ => rfl⟩
theorem Turns.next {S S' : Nat → Prop} {a b c : World} (h : Turns S a b) (k : Turns S' b c) (hs : ∀ i, S' i → S i ∨ a.heap.size ≤ i) : Turns S a c :=
  ⟨k.os.trans h.os, k.tape.trans h.tape, k.output.trans h.output, Nat.le_trans h.size k.size, fun i hi hn => (k.block i (Nat.lt_of_lt_of_le hi h.size) (fun h' => (hs i h').elim hn (by omega))).trans (h.block i hi hn)⟩
theorem Turns.trans {S : Nat → Prop} {a b c : World} (h : Turns S a b) (k : Turns S b c) : Turns S a c := h.next k fun _ => .inl
theorem Turns.of_below {S : Nat → Prop} {w w' : World} (h : Below w.heap.size w w') : Turns S w w' := ⟨h.os, h.tape, h.output, h.size, fun k hk _ => h.block k hk⟩
theorem Turns.below {S : Nat → Prop} {w w' : World} {B : Nat} (h : Turns S w w') (hB : B ≤ w.heap.size) (hS : ∀ k, S k → B ≤ k) : Below B w w' :=
  ⟨h.os, h.tape, h.output, h.size, fun k hk => h.block k (by omega) (fun hs => by have := hS k hs; omega)⟩
theorem Turns.alloc {S : Nat → Prop} {a w : World} (h : Turns S a w) (o : Obj) : Turns S a (w.alloc o) := h.trans (.of_below ((Below.refl _ _).alloc (Nat.le_refl _) _))
theorem Turns.drew {S : Nat → Prop} {a w : World} (h : Turns S a w) : Turns S a w.drew := ⟨h.os, h.tape, h.output, h.size, h.block⟩
theorem Turns.setCell {S : Nat → Prop} {a w : World} (h : Turns S a w) {p : Addr} (hp : S p.block ∨ a.heap.size ≤ p.block) (u : Value) : Turns S a (w.setCell p u) :=
  h.next (S' := fun k => k = p.block) ⟨rfl, rfl, rfl, by simp [World.setCell], fun k _ hk => Below.heap_setCell _ _ _ k hk⟩ (fun i hi => by subst hi; exact hp)

/-- The cells of a value: a struct's, or its own. -/
def vC : Value → List Value
  | .agg cs => cs.toList
  | v => [v]
def thC (a n : Int) (v : Value) : List Value := [.int .u32 a, .int .i64 n] ++ vC v
def optP (o : Option Nat) : Value := .pointer (o.map fun b => ⟨b, 0, none⟩)
/-- The address of a node's pointer to what lies below it. -/
def kid (b : Nat) (c : Nat) : Addr := ⟨b, 1 + c, none⟩
/-- Which blocks a trie turns. -/
def TrIn (t : Nat) (N : Int → Nat → Option Nat) (k : Nat) : Prop := k = t ∨ ∃ x d, N x d = some k
structure TrAt (TR ND TH : TypeId) (w : World) (B t r : Nat) (s : Int) (N : Int → Nat → Option Nat) (L : List TE) : Prop where
  intro ::
  ne : TR ≠ ND ∧ TR ≠ TH ∧ ND ≠ TH ∧ 32 ≠ ND ∧ 32 ≠ TR
  tl : TL L
  tb : Blk w t TR [.pointer (some ⟨r, 0, none⟩), .int .i64 s]
  root : N 0 0 = some r
  node : ∀ x d b, N x d = some b → Blk w b ND [optP ((atT L x d).map TE.g), optP (N x (d + 1)), optP (N (x + pw d) (d + 1))]
  fit : ∀ x d b, N x d = some b → Node x d
  bt : B ≤ t
  bn : ∀ x d b, N x d = some b → B ≤ b
  inj : ∀ x d y e b, N x d = some b → N y e = some b → x = y ∧ d = e
  up : ∀ x d b, N x (d + 1) = some b → ∃ c, N (mk x d) d = some c
  thing : ∀ e ∈ L, (∃ b, N e.a e.n.toNat = some b) ∧ Blk w e.g TH (thC e.a e.n e.v) ∧ B ≤ e.g
section
variable {TR ND TH : TypeId} {w w' : World} {B t r : Nat} {s : Int} {N : Int → Nat → Option Nat} {L : List TE}
theorem TrAt.inB (h : TrAt TR ND TH w B t r s N L) {k : Nat} (hk : TrIn t N k) : B ≤ k := by
  rcases hk with rfl | ⟨x, d, hk⟩
  · exact h.bt
  · exact h.bn _ _ _ hk
theorem TrAt.inLt (h : TrAt TR ND TH w B t r s N L) {k : Nat} (hk : TrIn t N k) : k < w.heap.size := by
  rcases hk with rfl | ⟨x, d, hk⟩
  · exact h.tb.lt
  · exact (h.node _ _ _ hk).lt
theorem TrAt.kept (h : TrAt TR ND TH w B t r s N L) (hb : ∀ k, k < w.heap.size → (TrIn t N k ∨ ∃ e ∈ L, e.g = k) → w'.heap[k]? = w.heap[k]?) : TrAt TR ND TH w' B t r s N L :=
  ⟨h.ne, h.tl, h.tb.of_same (hb _ h.tb.lt (.inl (.inl rfl))), h.root, fun x d b hn => (h.node x d b hn).of_same (hb _ (h.node x d b hn).lt (.inl (.inr ⟨x, d, hn⟩))), h.fit, h.bt, h.bn, h.inj, h.up,
    fun e he => ⟨(h.thing e he).1, (h.thing e he).2.1.of_same (hb _ (h.thing e he).2.1.lt (.inr ⟨e, he, rfl⟩)), (h.thing e he).2.2⟩⟩
theorem TrAt.below (h : TrAt TR ND TH w B t r s N L) (hb : Below w.heap.size w w') : TrAt TR ND TH w' B t r s N L := h.kept fun k hk _ => hb.block k hk
theorem TrAt.drew (h : TrAt TR ND TH w B t r s N L) : TrAt TR ND TH w.drew B t r s N L := h.kept fun _ _ _ => rfl
theorem TrAt.mono {B' : Nat} (h : TrAt TR ND TH w B t r s N L) (hB : B' ≤ B) : TrAt TR ND TH w B' t r s N L :=
  ⟨h.ne, h.tl, h.tb, h.root, h.node, h.fit, Nat.le_trans hB h.bt, fun x d b hn => Nat.le_trans hB (h.bn x d b hn), h.inj, h.up, fun e he => ⟨(h.thing e he).1, (h.thing e he).2.1, Nat.le_trans hB (h.thing e he).2.2⟩⟩
theorem TrAt.t_ne (h : TrAt TR ND TH w B t r s N L) {x : Int} {d b : Nat} (hn : N x d = some b) : b ≠ t := fun e => by
  subst e; exact h.ne.1 (h.tb.type (h.node _ _ _ hn))
theorem TrAt.g_ne (h : TrAt TR ND TH w B t r s N L) {x : Int} {d b : Nat} (hn : N x d = some b) {e : TE} (he : e ∈ L) : e.g ≠ b := fun e' => by
  subst e'; exact h.ne.2.2.1 ((h.node _ _ _ hn).type (h.thing e he).2.1)
theorem TrAt.g_ne_t (h : TrAt TR ND TH w B t r s N L) {e : TE} (he : e ∈ L) : e.g ≠ t := fun e' => by
  subst e'; exact h.ne.2.1 (h.tb.type (h.thing e he).2.1)
/-- No thing where no node is. -/
theorem TrAt.no (h : TrAt TR ND TH w B t r s N L) {x : Int} {d : Nat} (hn : N x d = none) : atT L x d = none := by
  rcases hc : atT L x d with _ | e
  · rfl
  · obtain ⟨he, ea, en⟩ := atT_some hc
    obtain ⟨b, hb⟩ := (h.thing e he).1
    rw [ea, en, Int.toNat_natCast, hn] at hb
    cases hb
/-- Nothing below where no node is. -/
theorem TrAt.deep (h : TrAt TR ND TH w B t r s N L) {a : Int} (h0 : 0 ≤ a) (h1 : a < 4294967296) {d : Nat} (hn : N (mk a d) d = none) : ∀ j, d ≤ j → j ≤ 32 → N (mk a j) j = none
  | j, hj, h32 => by
    by_cases e : d = j
    · subst e; exact hn
    · obtain ⟨i, rfl⟩ : ∃ i, j = i + 1 := ⟨j - 1, by omega⟩
      have ih := h.deep h0 h1 hn i (by omega) (by omega)
      rcases hc : N (mk a ((i + 1 : Nat) : Int)) (i + 1) with _ | b
      · rfl
      · obtain ⟨c, hc⟩ := h.up _ _ _ hc
        rw [mk_down (by omega) h0 h1, ih] at hc; cases hc
theorem TrAt.upto (h : TrAt TR ND TH w B t r s N L) {a : Int} (h0 : 0 ≤ a) (h1 : a < 4294967296) {j : Nat} {b : Nat} (hj : N (mk a j) j = some b) (h32 : j ≤ 32) {d : Nat} (hd : d ≤ j) : ∃ c, N (mk a d) d = some c := by
  rcases hc : N (mk a d) d with _ | c
  · have := h.deep h0 h1 hc j hd h32
    rw [this] at hj; cases hj
  · exact ⟨c, rfl⟩
/-- The one below, by its bit. -/
theorem kid_bit {y : Int} {d : Nat} (hd : d ≤ 31) (hy : Node y (d + 1)) : y = mk y d + bitP y d * pw d := by
  have := mk_next hy.x0 hy.x1 hd
  rw [hy.eq] at this; exact this
theorem TrAt.kids (h : TrAt TR ND TH w B t r s N L) {y : Int} {d b : Nat} (hd : d ≤ 31) (hy : Node y (d + 1)) (hb : N (mk y d) d = some b) : w.cell? (kid b (bitP y d).toNat) = some (optP (N y (d + 1))) := by
  have hk := h.node _ _ _ hb
  have hy' := kid_bit hd hy
  rcases bit_cases y d with hc | hc
  · rw [hc] at hy' ⊢
    have e : mk y d = y := by omega
    have := hk.cell 1 (by simp)
    rw [e] at this
    exact this
  · rw [hc] at hy' ⊢
    have e : mk y d + pw d = y := by omega
    have := hk.cell 2 (by simp)
    rw [e] at this
    exact this
end
/-- A node more. -/
def upd (N : Int → Nat → Option Nat) (y : Int) (d : Nat) (v : Option Nat) : Int → Nat → Option Nat := fun x e => if x = y ∧ e = d then v else N x e
theorem upd_same (N : Int → Nat → Option Nat) (y : Int) (d : Nat) (v : Option Nat) : upd N y d v y d = v := if_pos ⟨rfl, rfl⟩
theorem upd_other {N : Int → Nat → Option Nat} {y : Int} {d : Nat} {v : Option Nat} {x : Int} {e : Nat} (h : ¬ (x = y ∧ e = d)) : upd N y d v x e = N x e := if_neg h
theorem upd_some {N : Int → Nat → Option Nat} {y : Int} {d : Nat} {v : Option Nat} {x : Int} {e b : Nat} (h : upd N y d v x e = some b) : (x = y ∧ e = d ∧ v = some b) ∨ (¬ (x = y ∧ e = d) ∧ N x e = some b) := by
  unfold upd at h
  by_cases hc : x = y ∧ e = d
  · rw [if_pos hc] at h; exact .inl ⟨hc.1, hc.2, h⟩
  · rw [if_neg hc] at h; exact .inr ⟨hc, h⟩
/-- The pointers of a node, one of them turned. -/
theorem kid_set {w : World} {b : Nat} {T : TypeId} {v0 : Value} {N : Int → Nat → Option Nat} {y : Int} {d : Nat} {v : Option Nat} (hd : d ≤ 31) (hy : Node y (d + 1)) (h : Blk w b T [v0, optP (N (mk y d) (d + 1)), optP (N (mk y d + pw d) (d + 1))]) :
    Blk (w.setCell (kid b (bitP y d).toNat) (optP v)) b T [v0, optP (upd N y (d + 1) v (mk y d) (d + 1)), optP (upd N y (d + 1) v (mk y d + pw d) (d + 1))] := by
  have hy' := kid_bit hd hy
  have hp := pw_pos d
  rcases bit_cases y d with hc | hc
  · rw [hc] at hy' ⊢
    have e : mk y d = y := by omega
    rw [e] at h ⊢
    rw [upd_same, upd_other (by omega)]
    exact h.set 1 _
  · rw [hc] at hy' ⊢
    have e : mk y d + pw d = y := by omega
    have e2 : upd N y (d + 1) v (mk y d) (d + 1) = N (mk y d) (d + 1) := upd_other (by omega)
    rw [e2, e, upd_same]
    rw [e] at h
    exact h.set 2 _
/-- Of another node both are others. -/
theorem kid_far {N : Int → Nat → Option Nat} {x y : Int} {d e : Nat} {v : Option Nat} (hd : d ≤ 31) (hy : Node y (d + 1)) (hx : Node x e) (hne : ¬ (x = mk y d ∧ e = d)) :
    upd N y (d + 1) v x (e + 1) = N x (e + 1) ∧ upd N y (d + 1) v (x + pw e) (e + 1) = N (x + pw e) (e + 1) := by
  have hy' := kid_bit hd hy
  have hn := node_mk (d := d) (by omega) hy.x0 hy.x1
  constructor
  · apply upd_other
    rintro ⟨h1, h2⟩
    have h2 : e = d := by omega
    subst h2 h1
    exact hne ⟨hx.eq.symm, rfl⟩
  · apply upd_other
    rintro ⟨h1, h2⟩
    have h2 : e = d := by omega
    subst h2
    rcases bit_cases y e with hc | hc <;> rw [hc] at hy'
    · exact half_ne hd hn hx (by omega)
    · exact hne ⟨by omega, rfl⟩
section
variable {TR ND TH : TypeId} {w w' : World} {B t r : Nat} {s : Int} {N : Int → Nat → Option Nat} {L : List TE}
theorem TrAt.add (h : TrAt TR ND TH w B t r s N L) {y : Int} {d b : Nat} (hd : d ≤ 31) (hy : Node y (d + 1)) (hb : N (mk y d) d = some b) (hn : N y (d + 1) = none) (hB : B ≤ w.heap.size) :
    TrAt TR ND TH ((w.alloc (.cells #[.pointer none, .pointer none, .pointer none] ND)).setCell (kid b (bitP y d).toNat) (.pointer (some ⟨w.heap.size, 0, none⟩))) B t r s (upd N y (d + 1) (some w.heap.size)) L := by
  have hlt := (h.node _ _ _ hb).lt
  have hbn : b ≠ w.heap.size := by omega
  have hnone : N y (d + 1 + 1) = none := by
    rcases hc : N y (d + 1 + 1) with _ | c
    · rfl
    · obtain ⟨c', hc'⟩ := h.up _ _ _ hc
      rw [hy.eq, hn] at hc'; cases hc'
  have hnone2 : N (y + pw (d + 1)) (d + 1 + 1) = none := by
    rcases hc : N (y + pw (d + 1)) (d + 1 + 1) with _ | c
    · rfl
    · have hf := h.fit _ _ _ hc
      obtain ⟨c', hc'⟩ := h.up _ _ _ hc
      have hf' := h.fit _ _ _ hc'
      have hk := kid_bit (d := d + 1) (by have := hf.d32; omega) hf
      rcases bit_cases (y + pw (d + 1)) (d + 1) with h0 | h0 <;> rw [h0] at hk
      · exact absurd (show mk (y + pw (d + 1)) ((d + 1 : Nat) : Int) = y + pw (d + 1) by omega) (half_ne (by have := hf.d32; omega) hf' hy)
      · rw [show mk (y + pw (d + 1)) ((d + 1 : Nat) : Int) = y by omega, hn] at hc'; cases hc'
  refine ⟨h.ne, h.tl, (h.tb.alloc _).setOther (fun e => h.t_ne hb e.symm) _, ?_, ?_, ?_, h.bt, ?_, ?_, ?_, ?_⟩
  · rw [upd_other (by omega)]; exact h.root
  · intro x e c hc
    rcases upd_some hc with ⟨rfl, rfl, e1⟩ | ⟨hne, hc⟩
    · injection e1 with e1
      subst e1
      rw [upd_other (by omega), upd_other (by omega), hnone, hnone2, h.no hn]
      exact (Blk.new w ND [.pointer none, .pointer none, .pointer none]).setOther (by show w.heap.size ≠ b; omega) _
    · by_cases hx : x = mk y d ∧ e = d
      · obtain ⟨rfl, rfl⟩ := hx
        rw [hb] at hc
        injection hc with hc
        subst hc
        exact kid_set (v := some w.heap.size) hd hy ((h.node _ _ _ hb).alloc _)
      · have hf := kid_far (N := N) (v := some w.heap.size) hd hy (h.fit _ _ _ hc) hx
        rw [hf.1, hf.2]
        refine ((h.node _ _ _ hc).alloc _).setOther ?_ _
        rintro rfl
        exact hx (h.inj _ _ _ _ _ hc hb)
  · intro x e c hc
    rcases upd_some hc with ⟨rfl, rfl, _⟩ | ⟨_, hc⟩
    · exact hy
    · exact h.fit _ _ _ hc
  · intro x e c hc
    rcases upd_some hc with ⟨rfl, rfl, e1⟩ | ⟨_, hc⟩
    · injection e1 with e1; omega
    · exact h.bn _ _ _ hc
  · intro x e x' e' c hc hc'
    rcases upd_some hc with ⟨a1, a2, e1⟩ | ⟨_, k1⟩ <;> rcases upd_some hc' with ⟨b1, b2, e2⟩ | ⟨_, k2⟩
    · exact ⟨a1.trans b1.symm, a2.trans b2.symm⟩
    · injection e1 with e1; have := (h.node _ _ _ k2).lt; omega
    · injection e2 with e2; have := (h.node _ _ _ k1).lt; omega
    · exact h.inj _ _ _ _ _ k1 k2
  · intro x e c hc
    rcases upd_some hc with ⟨rfl, e1, _⟩ | ⟨_, hc⟩
    · have e1 : e = d := by omega
      subst e1
      exact ⟨b, by rw [upd_other (by omega)]; exact hb⟩
    · obtain ⟨c', hc'⟩ := h.up _ _ _ hc
      by_cases hx : mk x e = y ∧ e = d + 1
      · rw [hx.1, hx.2, upd_same]; exact ⟨_, rfl⟩
      · exact ⟨c', by rw [upd_other hx]; exact hc'⟩
  · intro e he
    obtain ⟨⟨c, hc⟩, hg, hl⟩ := h.thing e he
    refine ⟨?_, (hg.alloc _).setOther (h.g_ne hb he) _, hl⟩
    by_cases hx : e.a = y ∧ e.n.toNat = d + 1
    · rw [hx.1, hx.2, upd_same]; exact ⟨_, rfl⟩
    · exact ⟨c, by rw [upd_other hx]; exact hc⟩
/-- A prefix is given a thing. -/
theorem TrAt.put (h : TrAt TR ND TH w B t r s N L) {e : TE} (he : e.Ok) {b : Nat} (hb : N e.a e.n.toNat = some b) (hg : e.g = w.heap.size) (hB : B ≤ w.heap.size) :
    TrAt TR ND TH ((w.alloc (.cells (thC e.a e.n e.v).toArray TH)).setCell ⟨b, 0, none⟩ (.pointer (some ⟨w.heap.size, 0, none⟩))) B t r s N (insT L e) := by
  have hlt := (h.node _ _ _ hb).lt
  refine ⟨h.ne, h.tl.ins he, (h.tb.alloc _).setOther (fun e => h.t_ne hb e.symm) _, h.root, ?_, h.fit, h.bt, h.bn, h.inj, h.up, ?_⟩
  · intro x d c hc
    by_cases hx : x = e.a ∧ d = e.n.toNat
    · obtain ⟨rfl, rfl⟩ := hx
      rw [hb] at hc
      injection hc with hc
      subst hc
      rw [he.node.2, at_ins_same h.tl he]
      have := ((h.node _ _ _ hb).alloc (.cells (thC e.a e.n e.v).toArray TH)).set 0 (.pointer (some ⟨w.heap.size, 0, none⟩))
      rw [show optP ((some e).map TE.g) = .pointer (some ⟨w.heap.size, 0, none⟩) by unfold optP; rw [Option.map_some, Option.map_some, hg]]
      exact this
    · have hf := h.fit _ _ _ hc
      rw [at_ins_other h.tl he (fun hh => hx ⟨hh.1.symm, by rw [hh.2, Int.toNat_natCast]⟩)]
      refine ((h.node _ _ _ hc).alloc _).setOther ?_ _
      rintro rfl
      exact hx (h.inj _ _ _ _ _ hc hb)
  · intro x hx
    rcases mem_ins.1 hx with rfl | ⟨hx, _⟩
    · refine ⟨⟨b, hb⟩, ?_, by omega⟩
      rw [hg]
      exact (Blk.new w TH (thC x.a x.n x.v)).setOther (by show w.heap.size ≠ b; omega) _
    · obtain ⟨h1, h2, h3⟩ := h.thing x hx
      exact ⟨h1, (h2.alloc _).setOther (h.g_ne hb hx) _, h3⟩
/-- A prefix's thing is taken away. -/
theorem TrAt.clear (h : TrAt TR ND TH w B t r s N L) {a : Int} {n b : Nat} (hb : N a n = some b) :
    TrAt TR ND TH (w.setCell ⟨b, 0, none⟩ (.pointer none)) B t r s N (delT L a n) := by
  refine ⟨h.ne, h.tl.del _ _, h.tb.setOther (fun e => h.t_ne hb e.symm) _, h.root, ?_, h.fit, h.bt, h.bn, h.inj, h.up, ?_⟩
  · intro x d c hc
    by_cases hx : x = a ∧ d = n
    · obtain ⟨rfl, rfl⟩ := hx
      rw [hb] at hc
      injection hc with hc
      subst hc
      rw [at_del_same]
      exact (h.node _ _ _ hb).set 0 _
    · rw [at_del_other h.tl (fun hh => hx ⟨hh.1, by omega⟩)]
      refine (h.node _ _ _ hc).setOther ?_ _
      rintro rfl
      exact hx (h.inj _ _ _ _ _ hc hb)
  · intro x hx
    have hx := (mem_del.1 hx).1
    obtain ⟨h1, h2, h3⟩ := h.thing x hx
    exact ⟨h1, h2.setOther (h.g_ne hb hx) _, h3⟩
/-- A node that has nothing goes. -/
theorem TrAt.less (h : TrAt TR ND TH w B t r s N L) {y : Int} {d b : Nat} (hd : d ≤ 31) (hy : Node y (d + 1)) (hb : N (mk y d) d = some b) (hn : atT L y ((d + 1 : Nat) : Int) = none) (h0 : N y (d + 1 + 1) = none) (h1 : N (y + pw (d + 1)) (d + 1 + 1) = none) :
    TrAt TR ND TH (w.setCell (kid b (bitP y d).toNat) (.pointer none)) B t r s (upd N y (d + 1) none) L := by
  refine ⟨h.ne, h.tl, h.tb.setOther (fun e => h.t_ne hb e.symm) _, ?_, ?_, ?_, h.bt, ?_, ?_, ?_, ?_⟩
  · rw [upd_other (by omega)]; exact h.root
  · intro x e c hc
    rcases upd_some hc with ⟨rfl, rfl, e1⟩ | ⟨hne, hc⟩
    · cases e1
    · by_cases hx : x = mk y d ∧ e = d
      · obtain ⟨rfl, rfl⟩ := hx
        rw [hb] at hc
        injection hc with hc
        subst hc
        exact kid_set (v := none) hd hy (h.node _ _ _ hb)
      · have hf := kid_far (N := N) (v := none) hd hy (h.fit _ _ _ hc) hx
        rw [hf.1, hf.2]
        refine (h.node _ _ _ hc).setOther ?_ _
        rintro rfl
        exact hx (h.inj _ _ _ _ _ hc hb)
  · intro x e c hc
    rcases upd_some hc with ⟨_, _, e1⟩ | ⟨_, hc⟩
    · cases e1
    · exact h.fit _ _ _ hc
  · intro x e c hc
    rcases upd_some hc with ⟨_, _, e1⟩ | ⟨_, hc⟩
    · cases e1
    · exact h.bn _ _ _ hc
  · intro x e x' e' c hc hc'
    rcases upd_some hc with ⟨_, _, e1⟩ | ⟨_, hc⟩
    · cases e1
    rcases upd_some hc' with ⟨_, _, e2⟩ | ⟨_, hc'⟩
    · cases e2
    exact h.inj _ _ _ _ _ hc hc'
  · intro x e c hc
    rcases upd_some hc with ⟨_, _, e1⟩ | ⟨_, hc⟩
    · cases e1
    · obtain ⟨c', hc'⟩ := h.up _ _ _ hc
      by_cases hx : mk x e = y ∧ e = d + 1
      · exfalso
        obtain ⟨e1, rfl⟩ := hx
        have hf := h.fit _ _ _ hc
        have hk := kid_bit (d := d + 1) (by have := hf.d32; omega) hf
        rw [e1] at hk
        rcases bit_cases x (d + 1) with hcb | hcb <;> rw [hcb] at hk
        · rw [show x = y by omega, h0] at hc; cases hc
        · rw [show x = y + pw (d + 1) by omega, h1] at hc; cases hc
      · exact ⟨c', by rw [upd_other hx]; exact hc'⟩
  · intro e he
    obtain ⟨⟨c, hc⟩, hg, hl⟩ := h.thing e he
    refine ⟨⟨c, ?_⟩, hg.setOther (h.g_ne hb he) _, hl⟩
    rw [upd_other]
    · exact hc
    · rintro ⟨e1, e2⟩
      have := h.tl.at he
      have en := (h.tl.ok e he).node.2
      rw [e1, ← en, e2, hn] at this
      cases this
theorem TrAt.resize (h : TrAt TR ND TH w B t r s N L) (s' : Int) : TrAt TR ND TH (w.setCell ⟨t, 1, none⟩ (.int .i64 s')) B t r s' N L :=
  ⟨h.ne, h.tl, h.tb.set 1 _, h.root, fun x d b hn => (h.node x d b hn).setOther (h.t_ne hn) _, h.fit, h.bt, h.bn, h.inj, h.up,
    fun e he => ⟨(h.thing e he).1, (h.thing e he).2.1.setOther (h.g_ne_t he) _, (h.thing e he).2.2⟩⟩
end
/-- The first trie. -/
def N0 (r : Nat) : Int → Nat → Option Nat := fun x d => if x = 0 ∧ d = 0 then some r else none
theorem TrAt.new {TR ND TH : TypeId} (hne : TR ≠ ND ∧ TR ≠ TH ∧ ND ≠ TH ∧ 32 ≠ ND ∧ 32 ≠ TR) (w : World) (B : Nat) (hB : B ≤ w.heap.size) :
    TrAt TR ND TH ((w.alloc (.cells #[.pointer none, .pointer none, .pointer none] ND)).alloc (.cells #[.pointer (some ⟨w.heap.size, 0, none⟩), .int .i64 0] TR)) B (w.heap.size + 1) w.heap.size 0 (N0 w.heap.size) [] := by
  have hsome : ∀ x d b, N0 w.heap.size x d = some b → x = 0 ∧ d = 0 ∧ b = w.heap.size := fun x d b h => by
    unfold N0 at h
    split at h
    · rename_i hc; injection h with h; exact ⟨hc.1, hc.2, h.symm⟩
    · cases h
  refine ⟨hne, ⟨List.Pairwise.nil, fun x hx => by cases hx⟩, ?_, if_pos ⟨rfl, rfl⟩, ?_, ?_, by omega, ?_, ?_, ?_, fun e he => by cases he⟩
  · have := Blk.new (w.alloc (.cells #[.pointer none, .pointer none, .pointer none] ND)) TR [.pointer (some ⟨w.heap.size, 0, none⟩), .int .i64 0]
    rw [sz_alloc] at this
    exact this
  · intro x d b h
    obtain ⟨rfl, rfl, rfl⟩ := hsome _ _ _ h
    exact (Blk.new w ND [.pointer none, .pointer none, .pointer none]).alloc _
  · intro x d b h
    obtain ⟨rfl, rfl, rfl⟩ := hsome _ _ _ h
    exact node_zero
  · intro x d b h
    obtain ⟨rfl, rfl, rfl⟩ := hsome _ _ _ h
    exact hB
  · intro x d y e b h h'
    obtain ⟨rfl, rfl, rfl⟩ := hsome _ _ _ h
    obtain ⟨rfl, rfl, _⟩ := hsome _ _ _ h'
    exact ⟨rfl, rfl⟩
  · intro x d b h
    obtain ⟨_, h2, _⟩ := hsome _ _ _ h
    omega
end Go.Proofs.Ytlkpalaakncicaa
