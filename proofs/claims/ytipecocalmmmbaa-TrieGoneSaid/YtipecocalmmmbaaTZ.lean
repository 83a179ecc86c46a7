/- trie: TrieOrders's walk. -/
import Derived.Test.YtipecocalmmmbaaTY
namespace Go.Proofs.Ytipecocalmmmbaa
open Go.RowKit
set_option linter.unusedVariables false
set_option linter.unusedSimpArgs false

theorem set_any_int (W : World) (B t r : Nat) (N : Int → Nat → Option Nat) (L : List TE) (a n x : Int) (h : TrAt TRi NDi THi W B t r L.length N L) (hB : B ≤ W.heap.size) (a0 : 0 ≤ a) (a1 : a < 4294967296) (hl : L.length ≤ 1000000) :
    Calls Try.prog 10 #[.pointer (some ⟨t, 0, none⟩), .agg #[.int .u32 a, .int .i64 n], .int .i64 x] W fun e w' => ∃ ee N' g, e = .returned (.int .i64 ee) ∧ SetR TRi NDi THi W w' B t r N L N' (setT L a n (.int .i64 x) g) := by
  unfold setT
  rcases hk : okP a n with _ | _
  · refine (set_no_int W t r a n x (h.tb.cell 0 (by simp)) hk).mono ?_
    rintro e w' ⟨he, hb⟩
    exact ⟨_, N, 0, he, h.below hb, .of_below hb, fun i hi => .inl hi⟩
  · obtain ⟨_, n0, n1⟩ := okP_parts hk
    obtain ⟨m, rfl⟩ := Int.eq_ofNat_of_zero_le n0
    refine (set_yes_int W B t r N L a m x h hB a0 a1 hk hl).mono ?_
    rintro e w' ⟨N', g, he, hr⟩
    exact ⟨_, N', g, he, hr⟩
theorem SetBy.congr {L : List TE} {S T : Int × Int → Prop} (h : SetBy L S) (hs : ∀ p, S p ↔ T p) : SetBy L T := ⟨h.val, fun a n => by rw [h.has, hs]⟩
/-- Two tries that have no block in common. -/
structure OS (w W : World) (t r u s : Nat) (N M : Int → Nat → Option Nat) (L K : List TE) (S T : Int × Int → Prop) : Prop where
  intro ::
  tr1 : TrAt TRi NDi THi W w.heap.size t r L.length N L
  tr2 : TrAt TRi NDi THi W w.heap.size u s K.length M K
  dis : ∀ k, TrIn t N k → ¬ TrIn u M k
  b1 : SetBy L S
  b2 : SetBy K T
  bel : Below w.heap.size w W
section
variable {w W W' : World} {t r u s : Nat} {N M N' M' : Int → Nat → Option Nat} {L K L' K' : List TE} {S T S' T' : Int × Int → Prop}
theorem OS.below (h : OS w W t r u s N M L K S T) (hb : Below W.heap.size W W') : OS w W' t r u s N M L K S T := ⟨h.tr1.below hb, h.tr2.below hb, h.dis, h.b1, h.b2, h.bel.trans (hb.mono h.bel.size)⟩
/-- A thing's block is none that a trie turns. -/
theorem thing_out {B B' : Nat} {x y : Int} {K : List TE} (h : TrAt TRi NDi THi W B t r x N L) (k : TrAt TRi NDi THi W B' u s y M K) {e : TE} (he : e ∈ K) : ¬ TrIn t N e.g := fun hk => by
  have hb := (k.thing e he).2.1
  rcases hk with hk | ⟨x, d, hk⟩
  · rw [hk] at hb; exact h.ne.2.1 (h.tb.type hb)
  · exact h.ne.2.2.1 ((h.node _ _ _ hk).type hb)
theorem OS.turn1 (h : OS w W t r u s N M L K S T) (hr : SetR TRi NDi THi W W' w.heap.size t r N L N' L') (hb : SetBy L' S') : OS w W' t r u s N' M L' K S' T :=
  ⟨hr.tr, h.tr2.kept (fun k hk hi => hr.turn.block k hk (fun hn => by
      rcases hi with hi | ⟨e, he, rfl⟩
      · exact h.dis k hn hi
      · exact thing_out h.tr1 h.tr2 he hn)),
    fun k hk hm => (hr.grow k hk).elim (fun h1 => h.dis k h1 hm) (fun h1 => by have := h.tr2.inLt hm; omega), hb, h.b2, h.bel.trans (hr.turn.below h.bel.size (fun k hk => h.tr1.inB hk))⟩
theorem OS.turn2 (h : OS w W t r u s N M L K S T) (hr : SetR TRi NDi THi W W' w.heap.size u s M K M' K') (hb : SetBy K' T') : OS w W' t r u s N M' L K' S T' :=
  ⟨h.tr1.kept (fun k hk hi => hr.turn.block k hk (fun hn => by
      rcases hi with hi | ⟨e, he, rfl⟩
      · exact h.dis k hi hn
      · exact thing_out h.tr2 h.tr1 he hn)), hr.tr,
    fun k hk hm => (hr.grow k hm).elim (fun h1 => h.dis k hk h1) (fun h1 => by have := h.tr1.inLt hk; omega), h.b1, hb, h.bel.trans (hr.turn.below h.bel.size (fun k hk => h.tr2.inB hk))⟩
theorem OS.new (w : World) : OS w ((((w.alloc (.cells #[.pointer none, .pointer none, .pointer none] NDi)).alloc (.cells #[.pointer (some ⟨w.heap.size, 0, none⟩), .int .i64 0] TRi)).alloc (.cells #[.pointer none, .pointer none, .pointer none] NDi)).alloc (.cells #[.pointer (some ⟨w.heap.size + 2, 0, none⟩), .int .i64 0] TRi))
    (w.heap.size + 1) w.heap.size (w.heap.size + 3) (w.heap.size + 2) (N0 w.heap.size) (N0 (w.heap.size + 2)) [] [] (fun _ => False) (fun _ => False) := by
  have h1 := TrAt.new (TR := TRi) (ND := NDi) (TH := THi) ne_int w w.heap.size (Nat.le_refl _)
  obtain ⟨V, hV⟩ : ∃ V, (w.alloc (.cells #[.pointer none, .pointer none, .pointer none] NDi)).alloc (.cells #[.pointer (some ⟨w.heap.size, 0, none⟩), .int .i64 0] TRi) = V := ⟨_, rfl⟩
  rw [hV] at h1 ⊢
  have hs : V.heap.size = w.heap.size + 2 := by rw [← hV, sz_alloc, sz_alloc]
  have hb : Below w.heap.size w V := by rw [← hV]; exact two_below _ _ _
  have h2 := TrAt.new (TR := TRi) (ND := NDi) (TH := THi) ne_int V w.heap.size hb.size
  rw [hs] at h2
  have hb2 : Below V.heap.size V ((V.alloc (.cells #[.pointer none, .pointer none, .pointer none] NDi)).alloc (.cells #[.pointer (some ⟨w.heap.size + 2, 0, none⟩), .int .i64 0] TRi)) := two_below _ _ _
  refine ⟨h1.below hb2, h2, fun k hk hm => ?_, SetBy.nil, SetBy.nil, hb.trans (hb2.mono hb.size)⟩
  have e1 : k = w.heap.size + 1 ∨ k = w.heap.size := by
    rcases hk with rfl | ⟨x, d, hk⟩
    · exact .inl rfl
    · unfold N0 at hk; split at hk
      · injection hk with hk; exact .inr hk.symm
      · cases hk
  have e2 : k = w.heap.size + 3 ∨ k = w.heap.size + 2 := by
    rcases hm with rfl | ⟨x, d, hm⟩
    · exact .inl rfl
    · unfold N0 at hm; split at hm
      · injection hm with hm; exact .inr hm.symm
      · cases hm
  omega
end
end Go.Proofs.Ytipecocalmmmbaa
