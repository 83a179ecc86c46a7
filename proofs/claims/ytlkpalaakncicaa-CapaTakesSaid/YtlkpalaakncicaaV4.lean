/- trie: what Set and Delete do to a trie, on worlds alone. -/
import Derived.Test.YtlkpalaakncicaaV3
namespace Go.Proofs.Ytlkpalaakncicaa
open Go.RowKit
set_option linter.unusedVariables false
set_option linter.unusedSimpArgs false

/-- Ahead of each round of Set. -/
structure SetS (TR ND TH : TypeId) (w0 w : World) (B t r : Nat) (s : Int) (N0 : Int → Nat → Option Nat) (L : List TE) (a : Int) (n : Int) (P : Nat) (TX : TypeId) (xs : List Value) (k b : Nat) : Prop where
  intro ::
  tr : ∃ N, TrAt TR ND TH w B t r s N L ∧ N (mk a k) k = some b ∧ ∀ i, TrIn t N i → TrIn t N0 i ∨ w0.heap.size ≤ i
  pb : Blk w P 32 [.int .u32 a, .int .i64 n]
  xb : Blk w (P + 1) TX xs
  nx : TX ≠ ND ∧ TX ≠ TR
  turn : Turns (TrIn t N0) w0 w
theorem mk_self {a n : Int} (h : okP a n = true) : mk a n = a := (okP_parts h).1.symm
theorem SetS.bit {TR ND TH : TypeId} {w0 w : World} {B t r : Nat} {s : Int} {N0 : Int → Nat → Option Nat} {L : List TE} {a n : Int} {P : Nat} {TX : TypeId} {xs : List Value} {k b : Nat} (h : SetS TR ND TH w0 w B t r s N0 L a n P TX xs k b) (a0 : 0 ≤ a) (a1 : a < 4294967296) (hk : k ≤ 31) :
    ∃ o, w.cell? (kid b (bitP a k).toNat) = some (optP o) ∧ (∀ c, o = some c → SetS TR ND TH w0 w B t r s N0 L a n P TX xs (k + 1) c) ∧
      (o = none → B ≤ w0.heap.size → SetS TR ND TH w0 ((w.alloc (.cells #[.pointer none, .pointer none, .pointer none] ND)).setCell (kid b (bitP a k).toNat) (.pointer (some ⟨w.heap.size, 0, none⟩))) B t r s N0 L a n P TX xs (k + 1) w.heap.size) := by
  obtain ⟨⟨N, ht, hb, hi⟩, hp, hq, hnx, hu⟩ := h
  have hy := node_mk (a := a) (d := k + 1) (by omega) a0 a1
  have hd := mk_down (a := a) (d := k) hk a0 a1
  have hbit : bitP (mk a ((k + 1 : Nat) : Int)) k = bitP a k := by
    have h1 := kid_bit hk hy
    rw [hd] at h1
    have h2 := mk_next a0 a1 hk
    have hp := pw_pos k
    rcases bit_cases a k with e | e <;> rcases bit_cases (mk a ((k + 1 : Nat) : Int)) k with e' | e' <;> rw [e] at h2 <;> rw [e'] at h1 <;> omega
  have hb' : N (mk (mk a ((k + 1 : Nat) : Int)) k) k = some b := by rw [hd]; exact hb
  have hc := ht.kids hk hy hb'
  rw [hbit] at hc
  refine ⟨N (mk a ((k + 1 : Nat) : Int)) (k + 1), hc, fun c hc' => ⟨⟨N, ht, hc', hi⟩, hp, hq, hnx, hu⟩, fun hn hB => ?_⟩
  have hBw : B ≤ w.heap.size := Nat.le_trans hB hu.size
  have ha := ht.add hk hy hb' hn hBw
  rw [hbit] at ha
  have hPb : P ≠ b := fun e => by subst e; exact ht.ne.2.2.2.1 (hp.type (ht.node _ _ _ hb))
  have hQb : P + 1 ≠ b := fun e => by rw [e] at hq; exact hnx.1 (hq.type (ht.node _ _ _ hb))
  refine ⟨⟨_, ha, upd_same _ _ _ _, fun i hi' => ?_⟩, (hp.alloc _).setOther hPb _, (hq.alloc _).setOther hQb _, hnx, (hu.alloc _).setCell (hi b (.inr ⟨_, _, hb⟩)) _⟩
  rcases hi' with rfl | ⟨x, d, hx⟩
  · exact hi _ (.inl rfl)
  · rcases upd_some hx with ⟨_, _, e⟩ | ⟨_, hx⟩
    · injection e with e; have := hu.size; right; omega
    · exact hi _ (.inr ⟨x, d, hx⟩)
/-- What Set leaves. -/
structure SetR (TR ND TH : TypeId) (w0 w : World) (B t r : Nat) (N0 : Int → Nat → Option Nat) (L : List TE) (N : Int → Nat → Option Nat) (L' : List TE) : Prop where
  intro ::
  tr : TrAt TR ND TH w B t r L'.length N L'
  turn : Turns (TrIn t N0) w0 w
  grow : ∀ i, TrIn t N i → TrIn t N0 i ∨ w0.heap.size ≤ i
theorem SetS.last {TR ND TH : TypeId} {w0 w : World} {B t r : Nat} {s : Int} {N0 : Int → Nat → Option Nat} {L : List TE} {a : Int} {m : Nat} {P : Nat} {TX : TypeId} {xs : List Value} {b : Nat} (h : SetS TR ND TH w0 w B t r s N0 L a m P TX xs m b) (hok : okP a m = true) (a0 : 0 ≤ a) (a1 : a < 4294967296) (hs : s = L.length) (hB : B ≤ w0.heap.size) (x : Value) :
    ∃ o, w.cell? ⟨b, 0, none⟩ = some (optP o) ∧ Blk w t TR [.pointer (some ⟨r, 0, none⟩), .int .i64 s] ∧ b ≠ t ∧ b ≠ P ∧ t ≠ P ∧ (b ≠ P + 1 ∧ t ≠ P + 1) ∧
      (∀ c, o = some c → ∃ N, SetR TR ND TH w0 ((w.alloc (.cells (thC a m x).toArray TH)).setCell ⟨b, 0, none⟩ (.pointer (some ⟨w.heap.size, 0, none⟩))) B t r N0 L N (insT L ⟨a, m, x, w.heap.size⟩)) ∧
      (o = none → ∃ N, SetR TR ND TH w0 (((w.setCell ⟨t, 1, none⟩ (.int .i64 (s + 1))).alloc (.cells (thC a m x).toArray TH)).setCell ⟨b, 0, none⟩ (.pointer (some ⟨w.heap.size, 0, none⟩))) B t r N0 L N (insT L ⟨a, m, x, w.heap.size⟩)) := by
  obtain ⟨⟨N, ht, hb, hi⟩, hp, hq, hnx, hu⟩ := h
  have hbw := hb
  rw [mk_self hok] at hb
  have hbt := ht.t_ne hb
  have hbP : b ≠ P := fun e => by subst e; exact ht.ne.2.2.2.1 (hp.type (ht.node _ _ _ hb))
  have htP : t ≠ P := fun e => by subst e; exact ht.ne.2.2.2.2 (hp.type ht.tb)
  have he : TE.Ok ⟨a, m, x, w.heap.size⟩ := ⟨hok, a0, a1⟩
  have hBw : B ≤ w.heap.size := Nat.le_trans hB hu.size
  have hbQ : b ≠ P + 1 := fun e => by rw [← e] at hq; exact hnx.1 (hq.type (ht.node _ _ _ hb))
  have htQ : t ≠ P + 1 := fun e => by rw [← e] at hq; exact hnx.2 (hq.type ht.tb)
  refine ⟨(atT L a m).map TE.g, ?_, ht.tb, hbt, hbP, htP, ⟨hbQ, htQ⟩, ?_, ?_⟩
  · exact (ht.node _ _ _ hb).cell 0 (by simp)
  · intro c hc
    have hlen : ((insT L ⟨a, m, x, w.heap.size⟩).length : Int) = s := by
      rw [len_ins ht.tl, hs]
      dsimp only
      rcases hq : atT L a m with _ | e
      · rw [hq] at hc; cases hc
      · rfl
    have hput := ht.put he (b := b) (by dsimp only; rw [Int.toNat_natCast]; exact hb) rfl hBw
    dsimp only at hput
    rw [← hlen] at hput
    exact ⟨N, hput, (hu.alloc _).setCell (hi b (.inr ⟨_, _, hb⟩)) _, hi⟩
  · intro hc
    have hlen : ((insT L ⟨a, m, x, w.heap.size⟩).length : Int) = s + 1 := by
      rw [len_ins ht.tl, hs]
      dsimp only
      rcases hq : atT L a m with _ | e
      · simp
      · rw [hq] at hc; cases hc
    have hsz : (w.setCell ⟨t, 1, none⟩ (.int .i64 (s + 1))).heap.size = w.heap.size := by simp [World.setCell]
    have hput := (ht.resize (s + 1)).put he (b := b) (by dsimp only; rw [Int.toNat_natCast]; exact hb) hsz.symm (by omega)
    dsimp only at hput
    rw [hsz] at hput
    rw [← hlen] at hput
    exact ⟨N, by rw [← hlen]; exact hput, ((hu.setCell (hi t (.inl rfl)) _).alloc _).setCell (hi b (.inr ⟨_, _, hb⟩)) _, hi⟩
end Go.Proofs.Ytlkpalaakncicaa
