/- best: routes at places, copied. -/
import Derived.Test.YtljbebeaahcjaaaB3
import Derived.Test.YtljbebeaahcjaaaY5
namespace Go.Proofs.Ytljbebeaahcjaaa
open Go.RowKit Go.Maps Go.Sort
set_option linter.unusedVariables false
set_option linter.unusedSimpArgs false
set_option maxRecDepth 100000

/-- The same route, with lists of its own. -/
structure RvLike (x y : Rv) : Prop where
  intro ::
  r : y.r = x.r
  a : y.a = x.a
  n : y.n = x.n
  i : y.i = x.i
  x : AoLike x.x y.x
/-- Copies of routes, so far. -/
structure Copies (w : World) (R : Nat) (l : List Rv) (B : List Nat) (O : List Rv) : Prop where
  intro ::
  len : O.length = B.length
  ao : ∀ y ∈ O, AoAt w y.x
  nw : ∀ y ∈ O, AoNew (R + 1) y.x
  like : ∀ k, k < B.length → RvLike (l.getD (B.getD k 0) Rv.zero) (O.getD k Rv.zero)
theorem Copies.nil (w : World) (R : Nat) (l : List Rv) : Copies w R l [] [] := ⟨rfl, fun y h => (by cases h), fun y h => (by cases h), fun k h => (by cases h)⟩
theorem Copies.below {w w' : World} {R : Nat} {l O : List Rv} {B : List Nat} (h : Copies w R l B O) (hb : Below w.heap.size w w') : Copies w' R l B O := ⟨h.len, fun y hy => (h.ao y hy).below hb, h.nw, h.like⟩
theorem Copies.turn {w w' : World} {R : Nat} {l O : List Rv} {B : List Nat} (h : Copies w R l B O) (hT : Turns (fun k => k = R) w w') : Copies w' R l B O := ⟨h.len, fun y hy => (h.ao y hy).turns (h.nw y hy) hT fun k hk => by have hk : k = R := hk; omega, h.nw, h.like⟩
theorem Copies.snoc {w : World} {R : Nat} {l O : List Rv} {B : List Nat} (h : Copies w R l B O) {j : Nat} {y : Rv} (ha : AoAt w y.x) (hn : AoNew (R + 1) y.x) (hl : RvLike (l.getD j Rv.zero) y) : Copies w R l (B ++ [j]) (O ++ [y]) := by
  refine ⟨by simp [h.len], fun z hz => ?_, fun z hz => ?_, fun k hk => ?_⟩
  · rcases List.mem_append.1 hz with hz | hz
    · exact h.ao z hz
    · rw [List.mem_singleton] at hz; subst hz; exact ha
  · rcases List.mem_append.1 hz with hz | hz
    · exact h.nw z hz
    · rw [List.mem_singleton] at hz; subst hz; exact hn
  · have hO := h.len
    by_cases e : k < B.length
    · have h1 := h.like k e
      have e1 : (B ++ [j]).getD k 0 = B.getD k 0 := by simp [List.getD, List.getElem?_append_left e]
      have e2 : (O ++ [y]).getD k Rv.zero = O.getD k Rv.zero := by simp [List.getD, List.getElem?_append_left (show k < O.length by omega)]
      rw [e1, e2]; exact h1
    · have : k = B.length := by simp at hk; omega
      subst this
      have e1 : (B ++ [j]).getD B.length 0 = j := by simp [List.getD]
      have e2 : (O ++ [y]).getD B.length Rv.zero = y := by rw [← hO]; simp [List.getD]
      rw [e1, e2]; exact hl
theorem rv_lit (w : World) (y : Rv) (hy : InRv y) : LAt rvC InRv Rv.zero 10 (w.alloc (.cells #[.int .i64 y.r, .int .u32 y.a, .int .i64 y.n, .int .i64 y.i, .int .i64 y.x.og, .slice y.x.p1 y.x.n1 y.x.c1, .int .u32 y.x.nx, .int .i64 y.x.md, .int .i64 y.x.pf, .slice y.x.p2 y.x.n2 y.x.c2] 35)) (some ⟨w.heap.size, 0, none⟩) [y] :=
  (LOwn.lit rowRv w 0 [y] (fun z hz => by simp at hz; rw [hz]; exact hy) (Nat.zero_le _) (by unfold maxLen; simp)).at rowRv
/-- What those hands back. -/
def ThoseR (w w' : World) (l : List Rv) (B : List Nat) (e : Ending) : Prop := ∃ R c O, e = .returned (.slice (some ⟨R, 0, none⟩) B.length c) ∧ w.heap.size ≤ R ∧ LAt rvC InRv Rv.zero 10 w' (some ⟨R, 0, none⟩) O ∧ B.length ≤ c ∧ Copies w' R l B O ∧ Below w.heap.size w w'
set_option maxHeartbeats 16000000 in
theorem those_any (w : World) (p : Option Addr) (l : List Rv) (n c : Nat) (h : RvsAt w p l) (hn : l.length = n) (hn6 : n ≤ 1000000) (q : Option Addr) (B : List Nat) (m cap : Nat) (hq : LAt inC InI 0 1 w q (plc B)) (hm : B.length = m) (hm6 : m ≤ 1000000) (hB : ∀ i ∈ B, i < n) :
    Calls Try.prog 25 #[.slice p n c, .slice q m cap] w fun e w' => ThoseR w w' l B e := by
  have hmk : ∀ u, (Instr.makeSlice 22 (.int .i64 0) (.int .i64 (m : Int))).run Try.prog u = .ok (.slice (some ⟨u.heap.size, 0, none⟩) 0 m) (u.alloc (.cells (madeCells #[.int .i64 0, .int .u32 0, .int .i64 0, .int .i64 0, .int .i64 0, .slice none 0 0, .int .u32 0, .int .i64 0, .int .i64 0, .slice none 0 0] (m * 10)) 35)) := run_make0L rowRv m (by omega)
  have hb0 := newB w (.cells (madeCells #[.int .i64 0, .int .u32 0, .int .i64 0, .int .i64 0, .int .i64 0, .slice none 0 0, .int .u32 0, .int .i64 0, .int .i64 0, .slice none 0 0] (m * 10)) 35)
  have hO0 : LOwn 35 rvC InRv 10 (w.alloc (.cells (madeCells #[.int .i64 0, .int .u32 0, .int .i64 0, .int .i64 0, .int .i64 0, .slice none 0 0, .int .u32 0, .int .i64 0, .int .i64 0, .slice none 0 0] (m * 10)) 35)) w.heap.size (some ⟨w.heap.size, 0, none⟩) 0 m ([] : List Rv) := LOwn.made rowRv w m (by unfold maxLen; omega)
  obtain ⟨R, hR⟩ : ∃ R, w.heap.size = R := ⟨_, rfl⟩
  obtain ⟨V, hV⟩ : ∃ V, w.alloc (.cells (madeCells #[.int .i64 0, .int .u32 0, .int .i64 0, .int .i64 0, .int .i64 0, .slice none 0 0, .int .u32 0, .int .i64 0, .int .i64 0, .slice none 0 0] (m * 10)) 35) = V := ⟨_, rfl⟩
  rw [hV, hR] at hO0
  rw [hV] at hb0
  have HVE := Lib.hid hV
  have HRE := Lib.hid hR
  have HB0 := Lib.hid hb0
  have HO0 := Lib.hid hO0
  have HRV := Lib.hid (show R < V.heap.size from by rw [← hV, sz_alloc]; omega)
  have HH := Lib.hid h
  have HN := Lib.hid hn
  have HQ := Lib.hid hq
  have HM := Lib.hid hm
  have HBI := Lib.hid hB
  have HM6 := Lib.hid hm6
  unfold ThoseR
  rw [hm]
  clear hV hR hb0 hO0 h hn hq hm hB
  go_enter Try.func25, Try.ntmps25
  go_wp2_with fail
  rw [HVE.out, HRE.out]
  go_wp2_with fail
  go_loopw [5, 13] (fun sv iv wr => ∃ k : Nat, k ≤ m ∧ iv = .int .i64 k ∧ sv = .slice (some ⟨R, 0, none⟩) k m ∧ ∃ O, LOwn 35 rvC InRv 10 wr R (some ⟨R, 0, none⟩) k m O ∧ Copies wr R l (B.take k) O ∧ Below w.heap.size w wr) (fun _ iv _ => m - (intOf iv).toNat)
  case atStart => exact ⟨0, Nat.zero_le _, rfl, rfl, [], HO0.out, by rw [List.take_zero]; exact Copies.nil _ _ _, HB0.out⟩
  case round =>
    obtain ⟨k, hk, rfl, rfl, O, hO, hC, hB⟩ := hrel
    have HO := Lib.hid hO
    have HC := Lib.hid hC
    have HB := Lib.hid hB
    clear hO hC hB
    by_cases hlt : k < m
    · have hltI : (k : Int) < (m : Int) := by omega
      obtain ⟨b1, o1, rfl, g1⟩ := in_cell (HQ.out.below HB.out) (show (plc B).length = m by unfold plc; rw [List.length_map, HM.out]) hlt
      rw [plc_get HM.out hlt] at g1
      have hjm : B.getD k 0 ∈ B := by simp [List.getD, show k < B.length by have := HM.out; omega]
      have hjn : B.getD k 0 < n := HBI.out _ hjm
      have HTK := Lib.hid (show B.take (k + 1) = B.take k ++ [B.getD k 0] from by rw [List.take_add_one]; simp [List.getD, show k < B.length by have := HM.out; omega])
      obtain ⟨j, hj⟩ : ∃ j, B.getD k 0 = j := ⟨_, rfl⟩
      rw [hj] at g1 hjn HTK
      have hjI : (j : Int) < (n : Int) := by omega
      obtain ⟨b, off, rfl, hr⟩ := rv_here (HH.out.below HB.out) HN.out hjn
      obtain ⟨y, hy⟩ : ∃ y, l.getD j Rv.zero = y := ⟨_, rfl⟩
      have HY := Lib.hid hy
      rw [hy] at hr
      have c0 := hr.c0; have c1 := hr.c1; have c2 := hr.c2; have c3 := hr.c3; have c4 := hr.c4; have c5 := hr.c5; have c6 := hr.c6; have c7 := hr.c7; have c8 := hr.c8; have c9 := hr.c9
      have HOR := Lib.hid (ownroute_any wr y.r y.a y.n y.i y.x hr.ao)
      have HIN := Lib.hid hr.in_
      have HRW := Lib.hid (show R < wr.heap.size from by
        rcases HO.out.row.2 with ⟨hv, _⟩ | ⟨g, cap3, cur, hv, hB, hh, _⟩
        · simp only [Value.slice.injEq] at hv; cases hv.1
        · simp only [Value.slice.injEq, Option.some.injEq, Addr.mk.injEq, and_true] at hv
          obtain ⟨⟨rfl, _⟩, _⟩ := hv
          exact (Array.getElem?_eq_some_iff.1 hh).1)
      clear hy hr hj hjm
      go_wp2_with fail
      refine HOR.out.mono ?_
      rintro e u ⟨z, rfl, hz1, hz2, hz3, hb⟩
      obtain ⟨og, p1, n1, c1z, L, nx, md, pf, p2, n2, c2z, K⟩ := z
      have HIY := Lib.hid (show InRv ⟨y.r, y.a, y.n, y.i, ⟨og, p1, n1, c1z, L, nx, md, pf, p2, n2, c2z, K⟩⟩ from ⟨HIN.out.wr, HIN.out.wi, by have := HIN.out.wo; rw [← hz2.og] at this; exact this, by have := HIN.out.wm; rw [← hz2.md] at this; exact this, by have := HIN.out.wp; rw [← hz2.pf] at this; exact this⟩)
      have hlit := newB u (.cells #[.int .i64 y.r, .int .u32 y.a, .int .i64 y.n, .int .i64 y.i, .int .i64 og, .slice p1 n1 c1z, .int .u32 nx, .int .i64 md, .int .i64 pf, .slice p2 n2 c2z] 35)
      have LIT := Lib.hid (rv_lit u ⟨y.r, y.a, y.n, y.i, ⟨og, p1, n1, c1z, L, nx, md, pf, p2, n2, c2z, K⟩⟩ HIY.out)
      have HBU := Lib.hid (HB.out.trans ((hb.trans (hlit.mono hb.size)).mono HB.out.size))
      have OW := Lib.hid (HO.out.below (hb.trans (hlit.mono hb.size)))
      have HCU := Lib.hid (((HC.out.below hb).snoc (j := j) (y := ⟨y.r, y.a, y.n, y.i, ⟨og, p1, n1, c1z, L, nx, md, pf, p2, n2, c2z, K⟩⟩) hz1 (hz3.mono (by have := HRW.out; omega)) (by rw [HY.out]; exact ⟨rfl, rfl, rfl, rfl, hz2⟩)).below hlit)
      have HSZ := Lib.hid (show R ≤ (u.alloc (.cells #[.int .i64 y.r, .int .u32 y.a, .int .i64 y.n, .int .i64 y.i, .int .i64 og, .slice p1 n1 c1z, .int .u32 nx, .int .i64 md, .int .i64 pf, .slice p2 n2 c2z] 35)).heap.size from by have := HRW.out; have := hb.size; rw [sz_alloc]; omega)
      clear hz1 hz2 hz3 hb hlit c0 c1 c2 c3 c4 c5 c6 c7 c8 c9
      go_wp2_with (refine wpList_appR (o := ⟨some 24, _, _, _, _, _⟩) rowRv (by kernel_rfl) (.tmp 17) (.tmp 23) rfl R (some ⟨R, 0, none⟩) k m O OW.out rfl (some ⟨u.heap.size, 0, none⟩) 1 1 [⟨y.r, y.a, y.n, y.i, ⟨og, p1, n1, c1z, L, nx, md, pf, p2, n2, c2z, K⟩⟩] LIT.out rfl (by omega) rfl (k + 1) rfl (by have := HM6.out; omega) (by omega) HSZ.out ?_; intro w9 h9 g9)
      have HT9 := Lib.hid (show Turns (fun k => k = R) (u.alloc (.cells #[.int .i64 y.r, .int .u32 y.a, .int .i64 y.n, .int .i64 y.i, .int .i64 og, .slice p1 n1 c1z, .int .u32 nx, .int .i64 md, .int .i64 pf, .slice p2 n2 c2z] 35)) w9 from ⟨g9.out.os, g9.out.tape, g9.out.output, g9.out.size, fun k hk hn => g9.out.block k hk (fun e => hn (by simpa [Value.ownBlock] using e))⟩)
      go_roundw
      case rel => exact ⟨k + 1, by omega, by go_num, rfl, _, h9.out, by rw [HTK.out]; exact HCU.out.turn HT9.out, HBU.out.trans (HT9.out.below HBU.out.size fun k hk => by have hk : k = R := hk; have := HRE.out; omega)⟩
      case measure => simp [intOf]; omega
    · obtain rfl : k = m := by omega
      go_wp2_with fail
      go_ret
      have hC := HC.out
      rw [List.take_of_length_le (by rw [HM.out]; exact Nat.le_refl _)] at hC
      exact ⟨R, k, O, rfl, by have := HRE.out; omega, HO.out.at rowRv, Nat.le_refl _, hC, HB.out⟩
end Go.Proofs.Ytljbebeaahcjaaa
