/- trie: a trie and the document's trie side by side. -/
import Derived.Test.YtipecocalmmmbaaTI
namespace Go.Proofs.Ytipecocalmmmbaa
open Go.RowKit
set_option linter.unusedVariables false
set_option linter.unusedSimpArgs false

theorem set_any_int (W : World) (B t r : Nat) (N : Int → Nat → Option Nat) (L : List TE) (a n x : Int) (h : TrAt TRi NDi THi W B t r L.length N L) (hB : B ≤ W.heap.size) (a0 : 0 ≤ a) (a1 : a < 4294967296) (hl : L.length ≤ 1000000) :
    Calls Try.prog 10 #[.pointer (some ⟨t, 0, none⟩), .agg #[.int .u32 a, .int .i64 n], .int .i64 x] W fun e w' => ∃ ee N' g, e = .returned (.int .i64 ee) ∧ SetR TRi NDi THi W w' B t r N L N' (setT L a n (.int .i64 x) g) := by
  unfold setT
  rcases hk : okP a n with _ | _
  · refine (set_no_int W t r a n x (h.tb.cell 0 (by simp)) hk).mono ?_
    rintro e w' ⟨he, hb⟩
    exact ⟨_, N, 0, he, h.below hb, .of_below hb, fun i hi => .inl hi⟩
  · obtain ⟨_, n0, n1⟩ := okP_parts hk
    obtain ⟨m, rfl⟩ := Int.eq_ofNat_of_zero_le n0
    refine (set_yes_int W B t r N L a m x h hB a0 a1 hk hl).mono ?_
    rintro e w' ⟨N', g, he, hr⟩
    exact ⟨_, N', g, he, hr⟩
theorem ne_ref : RTy ≠ TRi ∧ RTy ≠ NDi ∧ RTy ≠ THi ∧ 78 ≠ TRi ∧ 78 ≠ NDi := by decide
theorem Blk.one {w : World} {g : Nat} {t t' : TypeId} {vs : List Value} {cur : Array Value} (h : Blk w g t vs) (h' : w.heap[g]? = some (Obj.cells cur t' (0, 0))) : t = t' := by
  obtain ⟨cs, h1, _⟩ := h
  rw [h1] at h'
  injection h' with e
  injection e
theorem RfAt.kept {w w' : World} {x : Nat} {l : List O3} (h : RfAt w x l) (hx : w'.heap[x]? = w.heap[x]?) (hg : ∀ (g : Nat) (cur : Array Value), w.heap[g]? = some (Obj.cells cur 78 (0, 0)) → w'.heap[g]? = w.heap[g]?) : RfAt w' x l := by
  obtain ⟨B, q, n, c, hb, ho⟩ := h.is
  refine ⟨B, q, n, c, hb.of_same hx, ho.len, ho.row.1, ?_⟩
  rcases ho.row.2 with h1 | ⟨g, c, cur, hv, hB, hh, r⟩
  · exact .inl h1
  · exact .inr ⟨g, c, cur, hv, hB, by rw [hg g cur hh]; exact hh, r⟩
theorem RfAt.lt {w : World} {x : Nat} {l : List O3} (h : RfAt w x l) : x < w.heap.size := by
  obtain ⟨B, q, n, c, hb, ho⟩ := h.is
  exact hb.lt
theorem RfAt.below {w w' : World} {x : Nat} {l : List O3} (h : RfAt w x l) (hb : Below w.heap.size w w') : RfAt w' x l :=
  h.kept (hb.block _ h.lt) fun g cur hg => hb.block g (Array.getElem?_eq_some_iff.1 hg).1
theorem RfAt.new (w : World) : RfAt (w.alloc (.cells #[.slice none 0 0] RTy)) w.heap.size [] :=
  ⟨0, none, 0, 0, Blk.new w RTy [.slice none 0 0], rfl, World.ownsRow_nil _ _ _ _⟩
/-- A trie and the document's trie, that have no block in common. -/
structure GS (w W : World) (t r x : Nat) (N : Int → Nat → Option Nat) (L : List TE) (l : List O3) : Prop where
  intro ::
  tr : TrAt TRi NDi THi W w.heap.size t r L.length N L
  rf : RfAt W x l
  xb : w.heap.size ≤ x
  bel : Below w.heap.size w W
section
variable {w W W' : World} {t r x : Nat} {N N' : Int → Nat → Option Nat} {L L' : List TE} {l l' : List O3}
theorem GS.below (h : GS w W t r x N L l) (hb : Below W.heap.size W W') : GS w W' t r x N L l := ⟨h.tr.below hb, h.rf.below hb, h.xb, h.bel.trans (hb.mono h.bel.size)⟩
theorem GS.drew (h : GS w W t r x N L l) : GS w W.drew t r x N L l := h.below (Below.refl _ _).drew
theorem GS.turnT (h : GS w W t r x N L l) (hr : SetR TRi NDi THi W W' w.heap.size t r N L N' L') : GS w W' t r x N' L' l := by
  refine ⟨hr.tr, h.rf.kept (hr.turn.block _ h.rf.lt fun hk => ?_) (fun g cur hg => hr.turn.block g (Array.getElem?_eq_some_iff.1 hg).1 fun hk => ?_), h.xb, h.bel.trans (hr.turn.below h.bel.size (fun k hk => h.tr.inB hk))⟩
  · obtain ⟨B, q, n, c, hb, ho⟩ := h.rf.is
    rcases hk with rfl | ⟨y, d, hk⟩
    · exact ne_ref.1 (hb.type h.tr.tb)
    · exact ne_ref.2.1 (hb.type (h.tr.node _ _ _ hk))
  · rcases hk with rfl | ⟨y, d, hk⟩
    · exact ne_ref.2.2.2.1 (h.tr.tb.one hg).symm
    · exact ne_ref.2.2.2.2 ((h.tr.node _ _ _ hk).one hg).symm
theorem GS.turnX (h : GS w W t r x N L l) (hf : RfAt W' x l') (ht : Turns (fun k => k = x) W W') : GS w W' t r x N L l' := by
  refine ⟨h.tr.kept (fun k hk hi => ht.block k hk fun e => ?_), hf, h.xb, h.bel.trans (ht.below h.bel.size (fun k hk => hk ▸ h.xb))⟩
  obtain ⟨B, q, n, c, hb, ho⟩ := h.rf.is
  subst e
  rcases hi with (rfl | ⟨y, d, hi⟩) | ⟨e, he, rfl⟩
  · exact ne_ref.1 (hb.type h.tr.tb)
  · exact ne_ref.2.1 (hb.type (h.tr.node _ _ _ hi))
  · exact ne_ref.2.2.1 (hb.type (h.tr.thing e he).2.1)
end
/-- A thing that is there as the document says, or is not. -/
theorem at_insT {L : List TE} (h : TL L) (a n : Int) (v : Value) (g : Nat) (hn : atT L a n = none) : delT (setT L a n v g) a n = L := by
  unfold setT
  split
  · exact del_ins h ⟨a, n, v, g⟩ hn
  · exact del_none h hn
end Go.Proofs.Ytipecocalmmmbaa
