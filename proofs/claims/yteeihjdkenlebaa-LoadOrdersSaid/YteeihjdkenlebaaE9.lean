/- load: Project. -/
import Derived.Test.YteeihjdkenlebaaE8
import Derived.Deep.RegionHeldLaw
namespace Go.Proofs.Yteeihjdkenlebaa
open Go.RowKit Go.Maps
set_option linter.unusedVariables false
set_option linter.unusedSimpArgs false
set_option maxRecDepth 100000

theorem wt_cell {w : World} {p : Option Addr} {l : List Wt} {n k : Nat} (h : LAt wtC InWt Wt.zero 16 w p l) (hn : l.length = n) (hk : k < n) : ∃ b off, p = some ⟨b, off, none⟩ ∧ w.cell? ⟨b, off + k * 16, none⟩ = some (.int .u32 (l.getD k Wt.zero).a) ∧ w.cell? ⟨b, off + k * 16 + 1, none⟩ = some (.int .i64 (l.getD k Wt.zero).n) ∧ w.cell? ⟨b, off + k * 16 + 2, none⟩ = some (.int .i64 (l.getD k Wt.zero).c) ∧ w.cell? ⟨b, off + k * 16 + 3, none⟩ = some (.int .i64 (l.getD k Wt.zero).x.r) ∧ w.cell? ⟨b, off + k * 16 + 4, none⟩ = some (.int .u32 (l.getD k Wt.zero).x.a) ∧ w.cell? ⟨b, off + k * 16 + 5, none⟩ = some (.int .i64 (l.getD k Wt.zero).x.n) ∧ w.cell? ⟨b, off + k * 16 + 6, none⟩ = some (.int .i64 (l.getD k Wt.zero).x.i) ∧ w.cell? ⟨b, off + k * 16 + 7, none⟩ = some (.int .i64 (l.getD k Wt.zero).x.og) ∧ w.cell? ⟨b, off + k * 16 + 8, none⟩ = some (.slice (l.getD k Wt.zero).x.p1 (l.getD k Wt.zero).x.n1 (l.getD k Wt.zero).x.c1) ∧ w.cell? ⟨b, off + k * 16 + 9, none⟩ = some (.int .u32 (l.getD k Wt.zero).x.nx) ∧ w.cell? ⟨b, off + k * 16 + 10, none⟩ = some (.int .i64 (l.getD k Wt.zero).x.md) ∧ w.cell? ⟨b, off + k * 16 + 11, none⟩ = some (.int .i64 (l.getD k Wt.zero).x.pf) ∧ w.cell? ⟨b, off + k * 16 + 12, none⟩ = some (.slice (l.getD k Wt.zero).x.p2 (l.getD k Wt.zero).x.n2 (l.getD k Wt.zero).x.c2) ∧ w.cell? ⟨b, off + k * 16 + 13, none⟩ = some (.int .i64 (l.getD k Wt.zero).x.f) ∧ w.cell? ⟨b, off + k * 16 + 14, none⟩ = some (.slice (l.getD k Wt.zero).d (l.getD k Wt.zero).dn (l.getD k Wt.zero).dc) ∧ w.cell? ⟨b, off + k * 16 + 15, none⟩ = some (.int .i64 (l.getD k Wt.zero).at_) := by
  obtain ⟨b, off, rfl, hc⟩ := h.cell hn hk
  exact ⟨b, off, rfl, hc 0 _ rfl, hc 1 _ rfl, hc 2 _ rfl, hc 3 _ rfl, hc 4 _ rfl, hc 5 _ rfl, hc 6 _ rfl, hc 7 _ rfl, hc 8 _ rfl, hc 9 _ rfl, hc 10 _ rfl, hc 11 _ rfl, hc 12 _ rfl, hc 13 _ rfl, hc 14 _ rfl, hc 15 _ rfl⟩
theorem opt_field1 (x0 x1 x2 x3 x4 x5 x6 x7 x8 x9 x10 : Value) (w : World) : (Instr.field 51 (.agg #[x0, x1, x2, x3, x4, x5, x6, x7, x8, x9, x10]) 1).run Try.prog w = .ok x10 w := by kernel_rfl
/-- Loads, want by want. -/
def prS (l : List Wt) : (Int → Option Int) × Bool := l.foldl (fun s x => (chF add s.1 (takenV x).f x.c, chO add s.1 s.2 (takenV x).f x.c)) (fun _ => none, false)
theorem prS_snoc (l : List Wt) (x : Wt) : prS (l ++ [x]) = (chF add (prS l).1 (takenV x).f x.c, chO add (prS l).1 (prS l).2 (takenV x).f x.c) := by unfold prS; rw [List.foldl_append]; rfl
theorem takenV_in {w : World} {x : Wt} (h : InWt x) (hd : OvsAt w x.d x.D) : (Lit.int .i64 (takenV x).f).wf = true := by
  unfold takenV
  split
  · rename_i h1
    have := hd.in_ h.2.2.1 (k := x.at_.toNat) (by omega)
    exact this
  · exact h.2.1
theorem WtsAt.below {w w' : World} {p : Option Addr} {l : List Wt} (h : WtsAt w p l) (hb : Below w.heap.size w w') : WtsAt w' p l := ⟨h.at_.below hb, fun x hx => (h.det x hx).below hb⟩
set_option maxHeartbeats 4000000 in
theorem ldproject_any (w : World) (p : Option Addr) (l : List Wt) (n c : Nat) (h : WtsAt w p l) (hn : l.length = n) (hm : n < 100000) :
    Calls Try.prog 21 #[.slice p n c] w fun e w' => ∃ g b n' s', e = .returned (.pointer (some ⟨g, 0, none⟩)) ∧ LdAt w' g b n' s' (prS l).1 (prS l).2 ∧ n' ≤ n ∧ Below w.heap.size w w' := by
  have H := Lib.hid h
  have HN := Lib.hid hn
  clear h hn
  go_enter Try.func21, Try.ntmps21
  go_wp2_with fail
  refine (ldnew_any _).mono ?_
  rintro e V ⟨g, b, rfl, hl, hb, hg, hbb⟩
  have HL := Lib.hid hl
  have HB := Lib.hid hb
  have HG := Lib.hid hg
  have HBB := Lib.hid hbb
  clear hl hb hg hbb
  go_wp2_with fail
  go_loopw [9] (fun i wr => ∃ k : Nat, k ≤ n ∧ i = .int .i64 k ∧ (∃ n' s', n' ≤ k ∧ LdAt wr g b n' s' (prS (l.take k)).1 (prS (l.take k)).2) ∧ Below w.heap.size w wr) (fun i _ => n - (intOf i).toNat)
  case atStart => exact ⟨0, Nat.zero_le _, rfl, ⟨0, 0, Nat.le_refl _, by rw [List.take_zero]; exact HL.out⟩, HB.out⟩
  case round =>
    obtain ⟨k, hk, rfl, ⟨n', s', hn', hl⟩, hB⟩ := hrel
    have HL2 := Lib.hid hl
    have HB2 := Lib.hid hB
    have HN2 := Lib.hid hn'
    clear hl hB hn'
    by_cases hlt : k < n
    · have hltI : (k : Int) < (n : Int) := by omega
      obtain ⟨q, off, rfl, c0, c1, c2, c3, c4, c5, c6, c7, c8, c9, c10, c11, c12, c13, c14, c15⟩ := wt_cell (H.out.below HB2.out).at_ HN.out hlt
      obtain ⟨x, hx⟩ : ∃ x, l.getD k Wt.zero = x := ⟨_, rfl⟩
      rw [hx] at c0  c1  c2  c3  c4  c5  c6  c7  c8  c9  c10  c11  c12  c13  c14  c15
      have hxm : x ∈ l := by rw [← hx]; simp [List.getD, show k < l.length by have := HN.out; omega]
      have HX := Lib.hid (show l.take (k + 1) = l.take k ++ [x] from by rw [List.take_add_one, ← hx]; simp [List.getD, show k < l.length by have := HN.out; omega])
      have hix := H.out.at_.ok x hxm
      have HIX := Lib.hid hix
      have HDX := Lib.hid (H.out.det x hxm)
      have HT := Lib.hid (fun u h => ldtaken_any u x h hix.2.2.1 hix.2.2.2)
      have HFX := Lib.hid (takenV_in hix HDX.out)
      clear hx hxm hix
      obtain ⟨o, ho⟩ : ∃ o, takenV x = o := ⟨_, rfl⟩
      rw [ho] at HT HFX
      have HT := Lib.hid (fun (u : World) (h : OvsAt u x.d x.D) => show Calls Try.prog 38 #[wtV x] u fun e w' => e = .returned (.agg #[.int .i64 o.r, .int .u32 o.a, .int .i64 o.n, .int .i64 o.i, .int .i64 o.og, .slice o.p1 o.n1 o.c1, .int .u32 o.nx, .int .i64 o.md, .int .i64 o.pf, .slice o.p2 o.n2 o.c2, .int .i64 o.f]) ∧ w' = _ from HT.out u h)
      have hHA : ∀ u, Below wr.heap.size wr u → Calls Try.prog 10 #[.pointer (some ⟨g, 0, none⟩), .int .i64 o.f, .int .i64 x.c] u fun e w' => e = .returned (.tuple #[]) ∧ ChTo u w' g b n' (chF add (prS (l.take k)).1 o.f x.c) (chO add (prS (l.take k)).1 (prS (l.take k)).2 o.f x.c) := fun u hu => ldadd_any u g b n' s' _ _ (HL2.out.next hu) (by have := HN2.out; omega) o.f x.c HFX.out
      have HA := Lib.hid hHA
      have HSN := Lib.hid (show prS (l.take (k + 1)) = (chF add (prS (l.take k)).1 o.f x.c, chO add (prS (l.take k)).1 (prS (l.take k)).2 o.f x.c) from by rw [HX.out, prS_snoc, ho])
      have hbU := newB wr (.cells #[.int .u32 x.a, .int .i64 x.n, .int .i64 x.c, .int .i64 x.x.r, .int .u32 x.x.a, .int .i64 x.x.n, .int .i64 x.x.i, .int .i64 x.x.og, .slice x.x.p1 x.x.n1 x.x.c1, .int .u32 x.x.nx, .int .i64 x.x.md, .int .i64 x.x.pf, .slice x.x.p2 x.x.n2 x.x.c2, .int .i64 x.x.f, .slice x.d x.dn x.dc, .int .i64 x.at_] 54)
      have hBX := Blk.new wr 54 [.int .u32 x.a, .int .i64 x.n, .int .i64 x.c, .int .i64 x.x.r, .int .u32 x.x.a, .int .i64 x.x.n, .int .i64 x.x.i, .int .i64 x.x.og, .slice x.x.p1 x.x.n1 x.x.c1, .int .u32 x.x.nx, .int .i64 x.x.md, .int .i64 x.x.pf, .slice x.x.p2 x.x.n2 x.x.c2, .int .i64 x.x.f, .slice x.d x.dn x.dc, .int .i64 x.at_]
      obtain ⟨U, hU⟩ : ∃ U, wr.alloc (.cells #[.int .u32 x.a, .int .i64 x.n, .int .i64 x.c, .int .i64 x.x.r, .int .u32 x.x.a, .int .i64 x.x.n, .int .i64 x.x.i, .int .i64 x.x.og, .slice x.x.p1 x.x.n1 x.x.c1, .int .u32 x.x.nx, .int .i64 x.x.md, .int .i64 x.x.pf, .slice x.x.p2 x.x.n2 x.x.c2, .int .i64 x.x.f, .slice x.d x.dn x.dc, .int .i64 x.at_] 54) = U := ⟨_, rfl⟩
      obtain ⟨P, hP⟩ : ∃ P, wr.heap.size = P := ⟨_, rfl⟩
      change Blk (wr.alloc (.cells #[.int .u32 x.a, .int .i64 x.n, .int .i64 x.c, .int .i64 x.x.r, .int .u32 x.x.a, .int .i64 x.x.n, .int .i64 x.x.i, .int .i64 x.x.og, .slice x.x.p1 x.x.n1 x.x.c1, .int .u32 x.x.nx, .int .i64 x.x.md, .int .i64 x.x.pf, .slice x.x.p2 x.x.n2 x.x.c2, .int .i64 x.x.f, .slice x.d x.dn x.dc, .int .i64 x.at_] 54)) _ _ _ at hBX
      rw [hU] at hbU hBX
      have hgP : g < P ∧ b < P := hP ▸ ⟨HL2.out.blk.lt, HL2.out.map.lt⟩
      rw [hP] at hBX
      have HSU := Lib.hid (fun (u : World) (hu : u.heap[P]? = U.heap[P]?) => show u.cell? ⟨P, 0, none⟩ = some (.int .u32 x.a) ∧ u.cell? ⟨P, 1, none⟩ = some (.int .i64 x.n) ∧ u.cell? ⟨P, 2, none⟩ = some (.int .i64 x.c) ∧ u.cell? ⟨P, 3, none⟩ = some (.int .i64 x.x.r) ∧ u.cell? ⟨P, 4, none⟩ = some (.int .u32 x.x.a) ∧ u.cell? ⟨P, 5, none⟩ = some (.int .i64 x.x.n) ∧ u.cell? ⟨P, 6, none⟩ = some (.int .i64 x.x.i) ∧ u.cell? ⟨P, 7, none⟩ = some (.int .i64 x.x.og) ∧ u.cell? ⟨P, 8, none⟩ = some (.slice x.x.p1 x.x.n1 x.x.c1) ∧ u.cell? ⟨P, 9, none⟩ = some (.int .u32 x.x.nx) ∧ u.cell? ⟨P, 10, none⟩ = some (.int .i64 x.x.md) ∧ u.cell? ⟨P, 11, none⟩ = some (.int .i64 x.x.pf) ∧ u.cell? ⟨P, 12, none⟩ = some (.slice x.x.p2 x.x.n2 x.x.c2) ∧ u.cell? ⟨P, 13, none⟩ = some (.int .i64 x.x.f) ∧ u.cell? ⟨P, 14, none⟩ = some (.slice x.d x.dn x.dc) ∧ u.cell? ⟨P, 15, none⟩ = some (.int .i64 x.at_) from
        have h := hBX.of_same hu
        ⟨h.cell 0 (by simp), h.cell 1 (by simp), h.cell 2 (by simp), h.cell 3 (by simp), h.cell 4 (by simp), h.cell 5 (by simp), h.cell 6 (by simp), h.cell 7 (by simp), h.cell 8 (by simp), h.cell 9 (by simp), h.cell 10 (by simp), h.cell 11 (by simp), h.cell 12 (by simp), h.cell 13 (by simp), h.cell 14 (by simp), h.cell 15 (by simp)⟩)
      have HU := Lib.hid hU
      have HP := Lib.hid hP
      have HBU := Lib.hid hbU
      have HPU := Lib.hid hBX.lt
      have HGP := Lib.hid hgP
      have HDU := Lib.hid (show OvsAt U.drew x.d x.D from (HDX.out.below (HB2.out)).below ((hbU : Below wr.heap.size wr U)).drew)
      clear hU hbU hBX hP hgP hHA
      go_wp2_with fail
      rw [HU.out, HP.out]
      have hS : U.drew.cell? ⟨P, 0, none⟩ = some (.int .u32 x.a) ∧ U.drew.cell? ⟨P, 1, none⟩ = some (.int .i64 x.n) ∧ U.drew.cell? ⟨P, 2, none⟩ = some (.int .i64 x.c) ∧ U.drew.cell? ⟨P, 3, none⟩ = some (.int .i64 x.x.r) ∧ U.drew.cell? ⟨P, 4, none⟩ = some (.int .u32 x.x.a) ∧ U.drew.cell? ⟨P, 5, none⟩ = some (.int .i64 x.x.n) ∧ U.drew.cell? ⟨P, 6, none⟩ = some (.int .i64 x.x.i) ∧ U.drew.cell? ⟨P, 7, none⟩ = some (.int .i64 x.x.og) ∧ U.drew.cell? ⟨P, 8, none⟩ = some (.slice x.x.p1 x.x.n1 x.x.c1) ∧ U.drew.cell? ⟨P, 9, none⟩ = some (.int .u32 x.x.nx) ∧ U.drew.cell? ⟨P, 10, none⟩ = some (.int .i64 x.x.md) ∧ U.drew.cell? ⟨P, 11, none⟩ = some (.int .i64 x.x.pf) ∧ U.drew.cell? ⟨P, 12, none⟩ = some (.slice x.x.p2 x.x.n2 x.x.c2) ∧ U.drew.cell? ⟨P, 13, none⟩ = some (.int .i64 x.x.f) ∧ U.drew.cell? ⟨P, 14, none⟩ = some (.slice x.d x.dn x.dc) ∧ U.drew.cell? ⟨P, 15, none⟩ = some (.int .i64 x.at_) := HSU.out _ rfl
      clear c0  c1  c2  c3  c4  c5  c6  c7  c8  c9  c10  c11  c12  c13  c14  c15
      have hfld := fun u : World => opt_field1 (.int .i64 o.r) (.int .u32 o.a) (.int .i64 o.n) (.int .i64 o.i) (.int .i64 o.og) (.slice o.p1 o.n1 o.c1) (.int .u32 o.nx) (.int .i64 o.md) (.int .i64 o.pf) (.slice o.p2 o.n2 o.c2) (.int .i64 o.f) u
      go_region_held_law (fun W => W.cell? ⟨P, 0, none⟩ = some (.int .u32 x.a) ∧ W.cell? ⟨P, 1, none⟩ = some (.int .i64 x.n) ∧ W.cell? ⟨P, 2, none⟩ = some (.int .i64 x.c) ∧ W.cell? ⟨P, 3, none⟩ = some (.int .i64 x.x.r) ∧ W.cell? ⟨P, 4, none⟩ = some (.int .u32 x.x.a) ∧ W.cell? ⟨P, 5, none⟩ = some (.int .i64 x.x.n) ∧ W.cell? ⟨P, 6, none⟩ = some (.int .i64 x.x.i) ∧ W.cell? ⟨P, 7, none⟩ = some (.int .i64 x.x.og) ∧ W.cell? ⟨P, 8, none⟩ = some (.slice x.x.p1 x.x.n1 x.x.c1) ∧ W.cell? ⟨P, 9, none⟩ = some (.int .u32 x.x.nx) ∧ W.cell? ⟨P, 10, none⟩ = some (.int .i64 x.x.md) ∧ W.cell? ⟨P, 11, none⟩ = some (.int .i64 x.x.pf) ∧ W.cell? ⟨P, 12, none⟩ = some (.slice x.x.p2 x.x.n2 x.x.c2) ∧ W.cell? ⟨P, 13, none⟩ = some (.int .i64 x.x.f) ∧ W.cell? ⟨P, 14, none⟩ = some (.slice x.d x.dn x.dc) ∧ W.cell? ⟨P, 15, none⟩ = some (.int .i64 x.at_)) (with_reducible assumption) (first | (go_at_call 38; (with_reducible refine (HT.out _ HDU.out).mono ?_); rintro e u ⟨rfl, hu⟩; have HBu := Lib.hid (show Below U.drew.heap.size U.drew u from hu ▸ two_below _ _ _); have hS := HSU.out u (HBu.out.block P HPU.out); clear hu) | (go_at_call 10; have hh := HBU.out.drew.trans (HBu.out.mono HBU.out.size); refine (HA.out u hh).mono ?_; rintro e v ⟨rfl, n2, s2, h1, h2, h3⟩; have HN3 := Lib.hid h1; have HL3 := Lib.hid h2; have HT3 := Lib.hid h3; have hS := HSU.out v ((h3.block P (Nat.lt_of_lt_of_le HPU.out HBu.out.size) (by have hgp := HGP.out; rintro (e | e) <;> omega)).trans (HBu.out.block P HPU.out)); clear h1 h2 h3))
      all_goals
        have hb4 : Below w.heap.size w v := HB2.out.trans ((hh.mono HB2.out.size).trans (HT3.out.below (Nat.le_trans HB2.out.size hh.size) fun k hk => by have h1 := HG.out; have h2 := HBB.out; rcases hk with rfl | rfl <;> assumption))
        have hl4 := HL3.out
        have he4 := HSN.out
        go_wp2_with fail
        go_roundw
        case rel =>
          refine ⟨k + 1, by omega, by go_num, ⟨n2, s2, by have h1 := HN2.out; have h2 := HN3.out; omega, ?_⟩, hb4⟩
          rw [he4]
          exact hl4
        case measure => simp [intOf]; omega
    · obtain rfl : k = n := by omega
      go_wp2_with fail
      go_ret
      have e : l.take k = l := List.take_of_length_le (by rw [HN.out]; exact Nat.le_refl _)
      have := HL2.out
      rw [e] at this
      exact ⟨g, b, _, _, rfl, this, HN2.out, HB2.out⟩
end Go.Proofs.Yteeihjdkenlebaa
