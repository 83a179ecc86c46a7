/- TableDoes: both tables side by side. -/
import Derived.Test.YtjimnlpmmhcdjaaIH
namespace Go.Proofs.Ytjimnlpmmhcdjaa
open Go.RowKit Go.Maps Go.Sort
set_option linter.unusedVariables false
set_option linter.unusedSimpArgs false
set_option maxRecDepth 100000

/-- A table and the document's, beside a law's world. -/
structure BB (w W : World) (g b n : Nat) (r : Nat) (L : List Dt) : Prop where
  intro ::
  t : TLv w W g b n L
  x : ∃ q c, RtAt W r q c L
  rlo : w.heap.size ≤ r
section
variable {w W W' : World} {g b n n' r : Nat} {L L' : List Dt}
theorem BB.next (h : BB w W g b n r L) (hb : Below W.heap.size W W') : BB w W' g b n r L := ⟨h.t.next hb, let ⟨q, c, hx⟩ := h.x; ⟨q, c, hx.next hb⟩, h.rlo⟩
theorem BB.apart (h : BB w W g b n r L) : r ≠ g ∧ r ≠ b := by
  obtain ⟨q, c, hx⟩ := h.x
  refine ⟨fun e => ?_, h.t.tab.map.notBlk hx.blk⟩
  subst e
  have h1 := Blk.type hx.blk h.t.tab.blk
  revert h1
  decide
theorem BB.lt (h : BB w W g b n r L) : b < W.heap.size ∧ r < W.heap.size := by
  obtain ⟨q, c, hx⟩ := h.x
  exact ⟨h.t.tab.lt.2, hx.blk.lt⟩
/-- The document's table is as it was where the program's turns. -/
theorem rt_turn {q : Option Addr} {c : Nat} (hx : RtAt W r q c L) (hT : Turns (fun k => k = b) W W') (hrb : r ≠ b) (hm : ∃ es cl, W.heap[b]? = some (.map es cl)) : RtAt W' r q c L := by
  obtain ⟨es, cl, hes⟩ := hm
  refine ⟨hx.blk.of_same (hT.block r hx.blk.lt hrb), ⟨hx.at_.ok, ?_⟩, hx.le, hx.max, hx.srt, hx.ok, hx.ne⟩
  exact hx.at_.cells.imp id fun ⟨g0, off, hp, hc⟩ => ⟨g0, off, hp, fun i hi j v hv => by
    have h1 := hc i hi j v hv
    exact cell_same h1 (hT.block g0 (World.block_lt_of_cell? W _ h1) (fun e => cell_notMap h1 hes (by rw [e])))⟩
/-- The program's is as it was where the document's turns. -/
theorem tb_turn (h : TLv w W g b n L) (hT : Turns (fun k => k = r) W W') (hrg : r ≠ g) (hrb : r ≠ b) (hr : w.heap.size ≤ r) : TLv w W' g b n L :=
  ⟨h.bel.trans (hT.below h.bel.size fun k hk => by have hk : k = r := hk; omega), ⟨h.tab.blk.of_same (hT.block g h.tab.lt.1 (fun e => hrg e.symm)), h.tab.map.of_same (hT.block b h.tab.lt.2 (fun e => hrb e.symm)), h.tab.srt, h.tab.ok⟩, h.lo⟩
end
theorem bbset {w W : World} {g b n r : Nat} {L : List Dt} (H : BB w W g b n r L) (o : Dt) (ho : InDt o) (hn : n < 1000000) (hl : L.length ≤ 1000000) :
    Calls Try.prog 9 #[.pointer (some ⟨g, 0, none⟩), dtV o] W fun e W' => e = .returned (.int .i64 (setR o L).1) ∧ Calls Try.prog 10 #[.pointer (some ⟨r, 0, none⟩), dtV o] W' (fun e W2 => e = .returned (.int .i64 (setR o L).1) ∧ (∃ n', n' ≤ n + 1 ∧ BB w W2 g b n' r (setR o L).2) ∧ Turns (fun k => k = b ∨ k = r) W W2) ∧ Turns (fun k => k = b) W W' := by
  obtain ⟨q, c, hx⟩ := H.x
  obtain ⟨hrg, hrb⟩ := H.apart
  have hmp := H.t.tab.map.heap
  refine (tbset_any W g b n L H.t.tab o ho hn).mono ?_
  rintro e W' ⟨he, n', h1, h2, h3⟩
  refine ⟨he, ?_, h3⟩
  have hx2 := rt_turn hx h3 hrb hmp
  have ht2 := H.t.turn h3 h2
  refine (rsetD_any W' r q c L hx2 o ho hl).mono ?_
  rintro e2 W2 ⟨he2, q2, c2, hx3, hT2⟩
  exact ⟨he2, ⟨n', h1, tb_turn ht2 hT2 hrg hrb H.rlo, ⟨q2, c2, hx3⟩, H.rlo⟩, (h3.mono fun k h => .inl h).trans (hT2.mono fun k h => .inr h)⟩
theorem bbdel {w W : World} {g b n r : Nat} {L : List Dt} (H : BB w W g b n r L) (p : Pf) (hp : InPf p) (hl : L.length ≤ 1000000) :
    Calls Try.prog 11 #[.pointer (some ⟨g, 0, none⟩), pfV p] W fun e W' => e = .returned (.bool (lookD L p).isSome) ∧ Calls Try.prog 12 #[.pointer (some ⟨r, 0, none⟩), pfV p] W' (fun e W2 => e = .returned (.bool (lookD L p).isSome) ∧ BB w W2 g b n r (delD p L) ∧ Turns (fun k => k = b ∨ k = r) W W2) ∧ Turns (fun k => k = b) W W' := by
  obtain ⟨q, c, hx⟩ := H.x
  obtain ⟨hrg, hrb⟩ := H.apart
  have hmp := H.t.tab.map.heap
  refine (tbdel_any W g b n L H.t.tab p hp).mono ?_
  rintro e W' ⟨he, h2, h3⟩
  refine ⟨he, ?_, h3⟩
  have hx2 := rt_turn hx h3 hrb hmp
  have ht2 := H.t.turn h3 h2
  refine (rdelD_any W' r q c L hx2 p hl).mono ?_
  rintro e2 W2 ⟨he2, q2, c2, hx3, hT2⟩
  exact ⟨he2, ⟨tb_turn ht2 hT2 hrg hrb H.rlo, ⟨q2, c2, hx3⟩, H.rlo⟩, (h3.mono fun k h => .inl h).trans (hT2.mono fun k h => .inr h)⟩
/-- Those that a table told, behind what the document's tells. -/
theorem bbexp {w W : World} {g b n r : Nat} {L : List Dt} (H : BB w W g b n r L) (now : Int) (hn : n < 1000000) (hl : L.length ≤ 1000000) :
    Calls Try.prog 14 #[.pointer (some ⟨g, 0, none⟩), .int .i64 now] W fun e W' => ∃ q1 c1, e = .returned (.slice q1 (overD now L).length c1) ∧ Turns (fun k => k = b) W W' ∧
      Calls Try.prog 15 #[.pointer (some ⟨r, 0, none⟩), .int .i64 now] W' (fun e W2 => ∃ q2 c2, e = .returned (.slice q2 (overD now L).length c2) ∧ DtsAt W2 q1 (overD now L) ∧ DtsAt W2 q2 (overD now L) ∧ BB w W2 g b n r (leftD now L) ∧ Turns (fun k => k = b ∨ k = r) W W2) := by
  obtain ⟨q, c, hx⟩ := H.x
  obtain ⟨hrg, hrb⟩ := H.apart
  have hlt := H.lt
  have hmp := H.t.tab.map.heap
  refine (tbexpire_any W g b n L H.t.tab hn now).mono ?_
  rintro e W' ⟨q1, c1, he, h1, h2, h3, h4, h5, h6⟩
  refine ⟨q1, c1, he, h5, ?_⟩
  have hx2 := rt_turn hx h5 hrb hmp
  have ht2 := H.t.turn h5 h4
  refine (rexpireD_any W' r q c L hx2 now hl).mono ?_
  rintro e2 W2 ⟨q2, c2, he2, k1, k2, k3, ⟨q3, c3, hx3, hT2⟩, k5⟩
  exact ⟨q2, c2, he2, h1.turns hT2 (fun r0 off e => by have := h6 r0 off e; omega), k1, ⟨tb_turn ht2 hT2 hrg hrb H.rlo, ⟨q3, c3, hx3⟩, H.rlo⟩, (h5.mono fun k h => .inl h).trans (hT2.mono fun k h => .inr h)⟩
end Go.Proofs.Ytjimnlpmmhcdjaa
