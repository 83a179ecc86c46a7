/- trie: what the law's lives calls, call by call. -/
import Derived.Test.YtipecocalmmmbaaTP
import Derived.Test.YtipecocalmmmbaaTAs
import Derived.Test.YtipecocalmmmbaaTDs
import Derived.Test.YtipecocalmmmbaaTEs
namespace Go.Proofs.Ytipecocalmmmbaa
open Go.RowKit
set_option linter.unusedVariables false
set_option linter.unusedSimpArgs false

/-- Where lives stands: a trie, and its two prefixes. -/
structure LvT (w W : World) (t r A : Nat) (N : Int → Nat → Option Nat) (L : List TE) : Prop where
  intro ::
  tr : TrAt TRs NDs THs W w.heap.size t r L.length N L
  a : Blk W A 32 [.int .u32 167772160, .int .i64 8]
  b : Blk W (A + 1) 32 [.int .u32 167837696, .int .i64 16]
  bel : Below w.heap.size w W
section
variable {w W W' : World} {t r A : Nat} {N N' : Int → Nat → Option Nat} {L L' : List TE}
theorem pfx_out {g : Nat} {vs : List Value} (h : TrAt TRs NDs THs W w.heap.size t r L.length N L) (hg : Blk W g 32 vs) : ¬ TrIn t N g := fun hk => by
  rcases hk with rfl | ⟨x, d, hk⟩
  · exact h.ne.2.2.2.2 (hg.type h.tb)
  · exact h.ne.2.2.2.1 (hg.type (h.node _ _ _ hk))
theorem LvT.turn (h : LvT w W t r A N L) (hr : SetR TRs NDs THs W W' w.heap.size t r N L N' L') : LvT w W' t r A N' L' :=
  ⟨hr.tr, h.a.of_same (hr.turn.block _ h.a.lt (pfx_out h.tr h.a)), h.b.of_same (hr.turn.block _ h.b.lt (pfx_out h.tr h.b)), h.bel.trans (hr.turn.below h.bel.size (fun k hk => h.tr.inB hk))⟩
theorem LvT.below (h : LvT w W t r A N L) (hb : Below W.heap.size W W') : LvT w W' t r A N L := ⟨h.tr.below hb, h.a.next hb, h.b.next hb, h.bel.trans (hb.mono h.bel.size)⟩
theorem LvT.cells (h : LvT w W t r A N L) : W.cell? ⟨A, 0, none⟩ = some (.int .u32 167772160) ∧ W.cell? ⟨A, 1, none⟩ = some (.int .i64 8) ∧ W.cell? ⟨A + 1, 0, none⟩ = some (.int .u32 167837696) ∧ W.cell? ⟨A + 1, 1, none⟩ = some (.int .i64 16) :=
  ⟨h.a.cell 0 (by simp), h.a.cell 1 (by simp), h.b.cell 0 (by simp), h.b.cell 1 (by simp)⟩
end
def eA (g : Nat) : TE := ⟨167772160, 8, .string ⟨#[97]⟩, g⟩
def eB (g : Nat) : TE := ⟨167837696, 16, .string ⟨#[98]⟩, g⟩
theorem ins1 (g : Nat) : insT [] (eB g) = [eB g] := rfl
theorem ins2 (g g' : Nat) : insT [eB g] (eA g') = [eA g', eB g] := by simp [insT, TE.less, TE.more, eA, eB]
theorem okA : okP 167772160 8 = true := by decide
theorem okB : okP 167837696 16 = true := by decide
theorem noC : okP 1 0 = false := by decide
theorem at2 (g g' : Nat) : atT [eA g', eB g] 167772160 8 = some (eA g') := by simp [atT, TE.is, eA, eB]
theorem at1 (g : Nat) : atT [eB g] 167772160 8 = none := by simp [atT, TE.is, eB]
theorem del2 (g g' : Nat) : delT [eA g', eB g] 167772160 8 = [eB g] := by simp [delT, TE.less, TE.more, eA, eB]
theorem del1 (g : Nat) : delT [eB g] 167772160 8 = [eB g] := by simp [delT, TE.less, TE.more, eB]
theorem wit1 : withinP 167772160 8 167772160 8 = true ∧ withinP 167772160 8 167837696 16 = true ∧ withinP 167837696 16 167772160 8 = false ∧ withinP 167837696 16 167837696 16 = true := by decide
theorem wA (g g' : Nat) : [eA g', eB g].filter (fun e => withinP 167772160 8 e.a e.n) = [eA g', eB g] := by simp [eA, eB, wit1]
theorem wB (g g' : Nat) : [eA g', eB g].filter (fun e => withinP 167837696 16 e.a e.n) = [eB g] := by simp [eA, eB, wit1]
theorem lng2 {g g' : Nat} (h : TL [eA g', eB g]) : lngTo [eA g', eB g] 167837701 33 = some (eB g) := by
  refine (lng_is h (by omega) (by omega)).unique h ⟨by simp, show holdsP 167837696 16 167837701 = true by decide, fun f hf _ => ?_⟩
  rcases List.mem_cons.1 hf with rfl | hf
  · show (8 : Int) ≤ 16; decide
  · rw [List.mem_singleton.1 hf]; exact Int.le_refl _
section
variable {w W : World} {t r A : Nat} {N : Int → Nat → Option Nat}
/-- The same, in a block of prefixes. -/
structure PAtT (W : World) (q : Option Addr) (ps : List (Int × Int)) : Prop where
  pat : PAt W q ps
  ty : ∀ b off, q = some ⟨b, off, none⟩ → ∃ cs, W.heap[b]? = some (.cells cs 32 (0, 0))
theorem PAtT.below {W W' : World} {q : Option Addr} {ps : List (Int × Int)} (h : PAtT W q ps) (hb : Below W.heap.size W W') : PAtT W' q ps :=
  ⟨h.pat.below hb, fun b off e => by
    obtain ⟨cs, hc⟩ := h.ty b off e
    exact ⟨cs, (hb.block b (Array.getElem?_eq_some_iff.1 hc).1).trans hc⟩⟩
theorem PAtT.turn {w W W' : World} {t r A : Nat} {N : Int → Nat → Option Nat} {L : List TE} {q : Option Addr} {ps : List (Int × Int)} (h : PAtT W q ps) (hl : LvT w W t r A N L) (ht : Turns (TrIn t N) W W') : PAtT W' q ps := by
  have hout : ∀ b off, q = some ⟨b, off, none⟩ → ¬ TrIn t N b := fun b off e hk => by
    obtain ⟨cs, hc⟩ := h.ty b off e
    have hty : ∀ T vs, Blk W b T vs → 32 = T := fun T vs hb => by
      obtain ⟨cs', h1, _⟩ := hb
      rw [hc] at h1; injection h1 with h1; injection h1
    rcases hk with rfl | ⟨x, d, hk⟩
    · exact hl.tr.ne.2.2.2.2 (hty _ _ hl.tr.tb)
    · exact hl.tr.ne.2.2.2.1 (hty _ _ (hl.tr.node _ _ _ hk))
  refine ⟨?_, fun b off e => ?_⟩
  · rcases h.pat with h1 | ⟨b, off, hq, hc⟩
    · exact .inl h1
    · refine .inr ⟨b, off, hq, fun i p hp => ?_⟩
      have h1 := (hc i p hp).1
      have h2 := (hc i p hp).2
      have hb := ht.block b (World.block_lt_of_cell? W _ h1) (hout b off hq)
      exact ⟨(World.cell?_of_block (w := W) hb).trans h1, (World.cell?_of_block (w := W) hb).trans h2⟩
  · obtain ⟨cs, hc⟩ := h.ty b off e
    exact ⟨cs, (ht.block b (Array.getElem?_eq_some_iff.1 hc).1 (hout b off e)).trans hc⟩
theorem patT_row {W : World} {base : Nat} {q : Option Addr} {n c : Nat} {ps : List (Int × Int)} (h : W.ownsRow base 32 2 (.slice q n c) n (pcells ps)) (hn : ps.length = n) : PAtT W q ps := by
  refine ⟨pat_row h hn, fun b off e => ?_⟩
  rcases h.2 with ⟨hv, _⟩ | ⟨g, cap', cur, hv, _, hh, _⟩
  · injection hv with e1; rw [e] at e1; cases e1
  · injection hv with e1 e2 e3
    rw [e] at e1; injection e1 with e1; injection e1 with e1
    subst e1
    exact ⟨cur, hh⟩
theorem pat_two (w : World) (a n b m : Int) : PAt (w.alloc (.cells #[.int .u32 a, .int .i64 n, .int .u32 b, .int .i64 m] 32)) (some ⟨w.heap.size, 0, none⟩) [(a, n), (b, m)] := by
  have h := Blk.new w 32 [.int .u32 a, .int .i64 n, .int .u32 b, .int .i64 m]
  refine .inr ⟨_, _, rfl, fun i p hp => ?_⟩
  match i, hp with
  | 0, hp => injection hp with hp; subst hp; exact ⟨h.cell 0 (by simp), h.cell 1 (by simp)⟩
  | 1, hp => injection hp with hp; subst hp; exact ⟨h.cell 2 (by simp), h.cell 3 (by simp)⟩
  | i + 2, hp => cases hp
theorem pat_one (w : World) (a n : Int) : PAt (w.alloc (.cells #[.int .u32 a, .int .i64 n] 32)) (some ⟨w.heap.size, 0, none⟩) [(a, n)] := by
  have h := Blk.new w 32 [.int .u32 a, .int .i64 n]
  refine .inr ⟨_, _, rfl, fun i p hp => ?_⟩
  match i, hp with
  | 0, hp => injection hp with hp; subst hp; exact ⟨h.cell 0 (by simp), h.cell 1 (by simp)⟩
  | i + 1, hp => cases hp
theorem keysAB (g g' : Nat) : [eA g', eB g].map tkey = [(167772160, 8), (167837696, 16)] := by simp [tkey, eA, eB]
theorem keysB (g : Nat) : [eB g].map tkey = [(167837696, 16)] := by simp [tkey, eB]
theorem setL1 (h : LvT w W t r A N []) :
    Calls Try.prog 29 #[.pointer (some ⟨t, 0, none⟩), .agg #[.int .u32 167837696, .int .i64 16], .string ⟨#[98]⟩] W fun e w' => ∃ N' g, e = .returned (.int .i64 0) ∧ LvT w w' t r A N' [eB g] :=
  (set_yes_str W w.heap.size t r N [] 167837696 16 ⟨#[98]⟩ h.tr h.bel.size (by omega) (by omega) okB (by simp)).mono fun e w' ⟨N', g, he, hr⟩ => ⟨N', g, he, h.turn hr⟩
theorem setL2 {g : Nat} (h : LvT w W t r A N [eB g]) :
    Calls Try.prog 29 #[.pointer (some ⟨t, 0, none⟩), .agg #[.int .u32 167772160, .int .i64 8], .string ⟨#[97]⟩] W fun e w' => ∃ N' g', e = .returned (.int .i64 0) ∧ LvT w w' t r A N' [eA g', eB g] :=
  (set_yes_str W w.heap.size t r N [eB g] 167772160 8 ⟨#[97]⟩ h.tr h.bel.size (by omega) (by omega) okA (by simp)).mono fun e w' ⟨N', g', he, hr⟩ => ⟨N', g', he, by have := h.turn hr; rwa [show insT [eB g] ⟨167772160, ((8 : Nat) : Int), .string ⟨#[97]⟩, g'⟩ = [eA g', eB g] from ins2 g g'] at this⟩
theorem setL3 {L : List TE} (h : LvT w W t r A N L) :
    Calls Try.prog 29 #[.pointer (some ⟨t, 0, none⟩), .agg #[.int .u32 1, .int .i64 0], .string ⟨#[99]⟩] W fun e w' => e = .returned (.int .i64 20) ∧ LvT w w' t r A N L :=
  (set_no_str W t r 1 0 ⟨#[99]⟩ (h.tr.tb.cell 0 (by simp)) noC).mono fun e w' ⟨he, hb⟩ => ⟨he, h.below hb⟩
theorem longL {g g' : Nat} (h : LvT w W t r A N [eA g', eB g]) :
    Calls Try.prog 30 #[.pointer (some ⟨t, 0, none⟩), .int .u32 167837701] W fun e w' => e = .returned (.tuple #[.agg #[.int .u32 167837696, .int .i64 16], .string ⟨#[98]⟩, .bool true]) ∧ LvT w w' t r A N [eA g', eB g] := by
  have := longest_str W w.heap.size t r _ N _ h.tr (fun e he => by
    rcases List.mem_cons.1 he with rfl | he
    · exact ⟨_, rfl⟩
    · rw [List.mem_singleton.1 he]; exact ⟨_, rfl⟩) 167837701 (by omega) (by omega)
  rw [lng2 h.tr.tl] at this
  exact this.mono fun e w' ⟨he, hb⟩ => ⟨he, h.below hb⟩
theorem withinL {L : List TE} (h : LvT w W t r A N L) (hl : L.length ≤ 1000000) (a n : Int) (a0 : 0 ≤ a) (a1 : a < 4294967296) (ps : List (Int × Int)) (hps : (L.filter (fun e => withinP a n e.a e.n)).map tkey = ps) :
    Calls Try.prog 31 #[.pointer (some ⟨t, 0, none⟩), .agg #[.int .u32 a, .int .i64 n]] W fun e w' => ∃ q c, e = .returned (.slice q ps.length c) ∧ PAtT w' q ps ∧ LvT w w' t r A N L ∧ Below W.heap.size W w' :=
  (within_str W w.heap.size t r _ N L h.tr a n a0 a1 hl).mono fun e w' ⟨qs, q, c, h1, he, hr, hb⟩ => by
    rw [hps] at h1; subst h1; exact ⟨q, c, he, patT_row hr rfl, h.below hb, hb⟩
theorem getL {g g' : Nat} (h : LvT w W t r A N [eA g', eB g]) :
    Calls Try.prog 32 #[.pointer (some ⟨t, 0, none⟩), .agg #[.int .u32 167772160, .int .i64 8]] W fun e w' => e = .returned (.tuple #[.string ⟨#[97]⟩, .bool true]) ∧ LvT w w' t r A N [eA g', eB g] ∧ Below W.heap.size W w' := by
  have := get_str W w.heap.size t r _ N _ h.tr 167772160 8 (by omega) (by omega)
  rw [at2] at this
  exact this.mono fun e w' ⟨he, hb⟩ => ⟨he, h.below hb, hb⟩
theorem delL1 {g g' : Nat} (h : LvT w W t r A N [eA g', eB g]) :
    Calls Try.prog 33 #[.pointer (some ⟨t, 0, none⟩), .agg #[.int .u32 167772160, .int .i64 8]] W fun e w' => ∃ N', e = .returned (.bool true) ∧ LvT w w' t r A N' [eB g] ∧ Turns (TrIn t N) W w' := by
  have := delete_str W w.heap.size t r N _ 167772160 8 h.tr (by omega) (by omega) (by simp)
  rw [at2, del2] at this
  exact this.mono fun e w' ⟨N', he, hr⟩ => ⟨N', he, h.turn hr, hr.turn⟩
theorem delL2 {g : Nat} (h : LvT w W t r A N [eB g]) :
    Calls Try.prog 33 #[.pointer (some ⟨t, 0, none⟩), .agg #[.int .u32 167772160, .int .i64 8]] W fun e w' => ∃ N', e = .returned (.bool false) ∧ LvT w w' t r A N' [eB g] ∧ Turns (TrIn t N) W w' := by
  have := delete_str W w.heap.size t r N _ 167772160 8 h.tr (by omega) (by omega) (by simp)
  rw [at1, del1] at this
  exact this.mono fun e w' ⟨N', he, hr⟩ => ⟨N', he, h.turn hr, hr.turn⟩
theorem lenL {g : Nat} (h : LvT w W t r A N [eB g]) :
    Calls Try.prog 34 #[.pointer (some ⟨t, 0, none⟩)] W fun e w' => e = .returned (.int .i64 1) ∧ W = w' := len_str W t 1 (h.tr.tb.cell 1 (by simp))
theorem prefixesL {g : Nat} (h : LvT w W t r A N [eB g]) :
    Calls Try.prog 35 #[.pointer (some ⟨t, 0, none⟩)] W fun e w' => ∃ q c, e = .returned (.slice q 1 c) ∧ Below W.heap.size W w' := by
  have HW := Lib.hid (within_str W w.heap.size t r _ N _ h.tr 0 0 (by omega) (by omega) (by simp))
  rw [within_all h.tr.tl] at HW
  clear h
  go_enter Try.func35, Try.ntmps35
  go_wp2_with fail
  refine HW.out.mono ?_
  rintro e w1 ⟨ps, q, c, h1, rfl, h3, h4⟩
  have HB := Lib.hid (show ps.length = 1 ∧ Below W.heap.size W w1 from ⟨by rw [h1]; rfl, h4⟩)
  clear h1 h3 h4
  go_wp2_with fail
  go_ret
  exact ⟨q, c, by rw [← HB.out.1]; rfl, HB.out.2⟩
end
end Go.Proofs.Ytipecocalmmmbaa
