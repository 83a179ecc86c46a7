/- The document's set: one attribute of a type that is known. / The document's set, of any type that is known; its Get: what is seen. / The document's Get: what lies in memory while it reads. -/
import Derived.Test.YtpeagakpmjnelaaDoorBa
namespace Go.Proofs.YtpeagakpmjnelaaDoor.Ax
open Go.RowKit
set_option maxRecDepth 100000

structure RAt (w : World) (B g : Nat) (a : At) (l : Loc) : Prop where
  blk : Blk w g 27 (atL a l)
  path : PathOwn w B l.pp l.pn l.pc a.path
  comms : w.ownsRow B 3 1 (.slice l.cp l.cn l.cc) l.cn (a.comms.map (Value.int .i64))
  n0 : 0 ≤ a.next
  n1 : a.next ≤ 4294967295
theorem RAt.next {w w' : World} {B g : Nat} {a : At} {l : Loc} (h : RAt w B g a l) (hb : Below w.heap.size w w') : RAt w' B g a l :=
  ⟨h.blk.next hb, h.path.below hb, row_below h.comms hb, h.n0, h.n1⟩
theorem ra_path {w w' : World} {B g : Nat} {a : At} {l : Loc} (h : RAt w B g a l) (hg : w.grownBy w' (some g)) : PathOwn w' B l.pp l.pn l.pc a.path ∧ w'.ownsRow B 3 1 (.slice l.cp l.cn l.cc) l.cn (a.comms.map (Value.int .i64)) :=
  ⟨h.path.past h.blk (by decide) (by decide) hg, row_past h.comms h.blk (by decide) hg⟩
def RSetTo (w w' : World) (B g : Nat) (r : Option At) (e : Ending) : Prop :=
  match r with
  | some a => (∃ l, e = .returned (.bool true) ∧ RAt w' B g a l) ∧ w.grownBy w' (some g)
  | none => e = .returned (.bool false) ∧ w.grownBy w' (some g)
theorem gb_self (w : World) (r : Option Nat) : w.grownBy w r := gb_below (Below.refl _ _)

set_option maxRecDepth 100000 in
set_option maxHeartbeats 2000000 in
theorem rset1_no (g : Nat) (p : Option Addr) (n c : Nat) (four : Bool) (w : World) (h1 : n ≠ 1) :
    Calls Tryd.prog 43 #[.pointer (some ⟨g, 0, none⟩), .int .i64 1, .slice p n c, .bool four] w fun e w' => e = .returned (.bool false) ∧ w = w' := by
  have t1 : ((n : Int) == 1) = false := by simp; omega
  go_enter Tryd.func43, Tryd.ntmps43
  go_wp2_with fail
  go_ret
  exact ⟨rfl, rfl⟩
set_option maxRecDepth 100000 in
set_option maxHeartbeats 2000000 in
theorem rset1_odd (g : Nat) (b off c : Nat) (x : Int) (four : Bool) (w : World) (hx : w.cell? ⟨b, off, none⟩ = some (.int .u8 x)) (h2 : 2 < x) (_ : x ≤ 255) :
    Calls Tryd.prog 43 #[.pointer (some ⟨g, 0, none⟩), .int .i64 1, .slice (some ⟨b, off, none⟩) 1 c, .bool four] w fun e w' => e = .returned (.bool false) ∧ w = w' := by
  have t1 : decide (2 < x) = true := by simpa using h2
  go_enter Tryd.func43, Tryd.ntmps43
  go_wp2_with fail
  go_ret
  exact ⟨rfl, rfl⟩
set_option maxRecDepth 100000 in
set_option maxHeartbeats 2000000 in
theorem rset1_ok (B g : Nat) (a : At) (l : Loc) (b off c : Nat) (x : Int) (four : Bool) (w : World) (hh : RAt w B g a l) (hx : w.cell? ⟨b, off, none⟩ = some (.int .u8 x)) (h0 : 0 ≤ x) (h2 : x ≤ 2) :
    Calls Tryd.prog 43 #[.pointer (some ⟨g, 0, none⟩), .int .i64 1, .slice (some ⟨b, off, none⟩) 1 c, .bool four] w fun e w' => RSetTo w w' B g (some { a with origin := x }) e := by
  have t1 : decide (2 < x) = false := by simp; omega
  have HH := Lib.hid hh
  have c0 := hh.blk.cell 0 (by simp [atL])
  have f0 := hh.blk.f 0
  simp only [atL, List.getD_cons_zero] at c0
  clear hh
  go_enter Tryd.func43, Tryd.ntmps43
  go_wp2_with fail
  go_ret
  have hg := gb_set w ⟨g, 0, none⟩ (.int .i64 x)
  exact ⟨⟨l, rfl, HH.out.blk.set 0 _, (ra_path HH.out hg).1, (ra_path HH.out hg).2, HH.out.n0, HH.out.n1⟩, hg⟩
set_option maxRecDepth 100000 in
set_option maxHeartbeats 2000000 in
theorem rset3_no (g : Nat) (p : Option Addr) (n c : Nat) (four : Bool) (w : World) (h1 : n ≠ 4) :
    Calls Tryd.prog 43 #[.pointer (some ⟨g, 0, none⟩), .int .i64 3, .slice p n c, .bool four] w fun e w' => e = .returned (.bool false) ∧ w = w' := by
  have t1 : ((n : Int) == 4) = false := by simp; omega
  go_enter Tryd.func43, Tryd.ntmps43
  go_wp2_with fail
  go_ret
  exact ⟨rfl, rfl⟩
set_option maxRecDepth 100000 in
set_option maxHeartbeats 2000000 in
theorem rset3_ok (B g : Nat) (a : At) (l : Loc) (p : Option Addr) (xs : List Int) (c : Nat) (four : Bool) (w : World) (hh : RAt w B g a l) (hb : BytesAt w p xs) (hn : xs.length = 4) (hz : getV xs ≠ 0) :
    Calls Tryd.prog 43 #[.pointer (some ⟨g, 0, none⟩), .int .i64 3, .slice p 4 c, .bool four] w fun e w' => RSetTo w w' B g (some { a with next := getV xs }) e := by
  have HH := Lib.hid hh
  have c0 := hh.blk.cell 2 (by simp [atL])
  have f0 := hh.blk.f 2
  simp only [atL, List.getD_cons_zero, List.getD_cons_succ] at c0
  obtain ⟨y0, y1⟩ := bytes_val hb 4 (by omega) (by omega)
  have hg := rget_any p xs c w (by omega) hb
  rw [hn] at hg
  have HG := Lib.hid hg
  obtain ⟨y, hy⟩ : ∃ y, getV xs = y := ⟨_, rfl⟩
  rw [hy] at HG y0 y1 hz ⊢
  clear hh hb hn hg hy
  have t1 : (y != 0) = true := by simpa using hz
  have T1 := Lib.hid t1
  go_enter Tryd.func43, Tryd.ntmps43
  go_wp2_with fail
  refine HG.out.mono ?_; rintro e w1 ⟨rfl, rfl⟩
  go_wp2_with fail
  go_ret
  have hg := gb_set w ⟨g, 2, none⟩ (.int .u32 y)
  exact ⟨⟨l, by first | rfl | (show Ending.returned (.bool (y != 0)) = _; rw [T1.out]), HH.out.blk.set 2 _, (ra_path HH.out hg).1, (ra_path HH.out hg).2, y0, y1⟩, hg⟩
set_option maxRecDepth 100000 in
set_option maxHeartbeats 2000000 in
theorem rset4_no (g : Nat) (p : Option Addr) (n c : Nat) (four : Bool) (w : World) (h1 : n ≠ 4) :
    Calls Tryd.prog 43 #[.pointer (some ⟨g, 0, none⟩), .int .i64 4, .slice p n c, .bool four] w fun e w' => e = .returned (.bool false) ∧ w = w' := by
  have t1 : ((n : Int) == 4) = false := by simp; omega
  go_enter Tryd.func43, Tryd.ntmps43
  go_wp2_with fail
  go_ret
  exact ⟨rfl, rfl⟩
set_option maxRecDepth 100000 in
set_option maxHeartbeats 2000000 in
theorem rset4_ok (B g : Nat) (a : At) (l : Loc) (p : Option Addr) (xs : List Int) (c : Nat) (four : Bool) (w : World) (hh : RAt w B g a l) (hb : BytesAt w p xs) (hn : xs.length = 4) :
    Calls Tryd.prog 43 #[.pointer (some ⟨g, 0, none⟩), .int .i64 4, .slice p 4 c, .bool four] w fun e w' => RSetTo w w' B g (some { a with med := getV xs }) e := by
  have HH := Lib.hid hh
  have c0 := hh.blk.cell 3 (by simp [atL])
  have f0 := hh.blk.f 3
  simp only [atL, List.getD_cons_zero, List.getD_cons_succ] at c0
  obtain ⟨y0, y1⟩ := bytes_val hb 4 (by omega) (by omega)
  have hg := rget_any p xs c w (by omega) hb
  rw [hn] at hg
  have HG := Lib.hid hg
  obtain ⟨y, hy⟩ : ∃ y, getV xs = y := ⟨_, rfl⟩
  rw [hy] at HG y0 y1 ⊢
  clear hh hb hn hg hy
  go_enter Tryd.func43, Tryd.ntmps43
  go_wp2_with fail
  refine HG.out.mono ?_; rintro e w1 ⟨rfl, rfl⟩
  go_wp2_with fail
  go_ret
  have hg := gb_set w ⟨g, 3, none⟩ (.int .i64 y)
  exact ⟨⟨l, rfl, HH.out.blk.set 3 _, (ra_path HH.out hg).1, (ra_path HH.out hg).2, HH.out.n0, HH.out.n1⟩, hg⟩
set_option maxRecDepth 100000 in
set_option maxHeartbeats 2000000 in
theorem rset5_no (g : Nat) (p : Option Addr) (n c : Nat) (four : Bool) (w : World) (h1 : n ≠ 4) :
    Calls Tryd.prog 43 #[.pointer (some ⟨g, 0, none⟩), .int .i64 5, .slice p n c, .bool four] w fun e w' => e = .returned (.bool false) ∧ w = w' := by
  have t1 : ((n : Int) == 4) = false := by simp; omega
  go_enter Tryd.func43, Tryd.ntmps43
  go_wp2_with fail
  go_ret
  exact ⟨rfl, rfl⟩
set_option maxRecDepth 100000 in
set_option maxHeartbeats 2000000 in
theorem rset5_ok (B g : Nat) (a : At) (l : Loc) (p : Option Addr) (xs : List Int) (c : Nat) (four : Bool) (w : World) (hh : RAt w B g a l) (hb : BytesAt w p xs) (hn : xs.length = 4) :
    Calls Tryd.prog 43 #[.pointer (some ⟨g, 0, none⟩), .int .i64 5, .slice p 4 c, .bool four] w fun e w' => RSetTo w w' B g (some { a with pref := getV xs }) e := by
  have HH := Lib.hid hh
  have c0 := hh.blk.cell 4 (by simp [atL])
  have f0 := hh.blk.f 4
  simp only [atL, List.getD_cons_zero, List.getD_cons_succ] at c0
  obtain ⟨y0, y1⟩ := bytes_val hb 4 (by omega) (by omega)
  have hg := rget_any p xs c w (by omega) hb
  rw [hn] at hg
  have HG := Lib.hid hg
  obtain ⟨y, hy⟩ : ∃ y, getV xs = y := ⟨_, rfl⟩
  rw [hy] at HG y0 y1 ⊢
  clear hh hb hn hg hy
  go_enter Tryd.func43, Tryd.ntmps43
  go_wp2_with fail
  refine HG.out.mono ?_; rintro e w1 ⟨rfl, rfl⟩
  go_wp2_with fail
  go_ret
  have hg := gb_set w ⟨g, 4, none⟩ (.int .i64 y)
  exact ⟨⟨l, rfl, HH.out.blk.set 4 _, (ra_path HH.out hg).1, (ra_path HH.out hg).2, HH.out.n0, HH.out.n1⟩, hg⟩
set_option maxRecDepth 100000 in
set_option maxHeartbeats 2000000 in
theorem rset3_zero (B g : Nat) (a : At) (l : Loc) (p : Option Addr) (xs : List Int) (c : Nat) (four : Bool) (w : World) (hh : RAt w B g a l) (hb : BytesAt w p xs) (hn : xs.length = 4) (hz : getV xs = 0) :
    Calls Tryd.prog 43 #[.pointer (some ⟨g, 0, none⟩), .int .i64 3, .slice p 4 c, .bool four] w fun e w' => RSetTo w w' B g none e := by
  have c0 := hh.blk.cell 2 (by simp [atL])
  have f0 := hh.blk.f 2
  simp only [atL, List.getD_cons_zero, List.getD_cons_succ] at c0
  have hg := rget_any p xs c w (by omega) hb
  rw [hn, hz] at hg
  have HG := Lib.hid hg
  clear hh hb hn hg hz
  go_enter Tryd.func43, Tryd.ntmps43
  go_wp2_with fail
  refine HG.out.mono ?_; rintro e w1 ⟨rfl, rfl⟩
  go_wp2_with fail
  go_ret
  exact ⟨rfl, gb_set w ⟨g, 2, none⟩ (.int .u32 0)⟩
set_option maxRecDepth 100000 in
set_option maxHeartbeats 2000000 in
theorem rset2_any (B g : Nat) (a : At) (l : Loc) (Bp : Nat) (p : Option Addr) (xs : List Int) (n c : Nat) (four : Bool) (w : World) (hh : RAt w B g a l) (hBw : B ≤ w.heap.size) (hy : Own w Bp p c xs) (hn : xs.length = n) (hl : n ≤ 1000000) :
    Calls Tryd.prog 43 #[.pointer (some ⟨g, 0, none⟩), .int .i64 2, .slice p n c, .bool four] w fun e w' => RSetTo w w' B g (readV four a 2 xs) e := by
  have hr : readV four a 2 xs = (pathR four (xs.length + 1) 0 xs).map (fun l => { a with path := l }) := by
    rw [pathR_ok four xs hy.bytes.1, show readV four a 2 xs = (match pathG (wideA four) (xs.length + 1) xs with
      | some l => if okPath l four then some { a with path := l } else none
      | none => none) from rfl]
    rcases pathG (wideA four) (xs.length + 1) xs with _ | l
    · rfl
    · simp only [Option.bind_some]
      split <;> rfl
  rw [hr]
  have HP := Lib.hid (rpath_any four p xs n c w hy.bytes hn (by have := hy.le; omega) hy.max (fun b hb => (hy.block_lt hb).2) hl)
  obtain ⟨r, hr2⟩ : ∃ r, pathR four (xs.length + 1) 0 xs = r := ⟨_, rfl⟩
  rw [hr2] at HP ⊢
  have HH := Lib.hid hh
  have HBW := Lib.hid hBw
  clear hh hy hn hr hr2 hBw
  rcases r with _ | nl
  · go_enter Tryd.func43, Tryd.ntmps43
    go_wp2_with fail
    refine HP.out.mono ?_; rintro e w1 ⟨rfl, hb1⟩
    have HB1 := Lib.hid hb1
    have H1 := HH.out.next hb1
    have c1 := H1.blk.cell 1 (by simp [atL])
    have f1 := H1.blk.f 1
    simp only [atL, List.getD_cons_zero, List.getD_cons_succ] at c1
    clear hb1 H1
    go_wp2_with fail
    go_ret
    exact ⟨rfl, gb_trans (gb_below HB1.out) (gb_set w1 ⟨g, 1, none⟩ (.slice none 0 0))⟩
  · go_enter Tryd.func43, Tryd.ntmps43
    go_wp2_with fail
    refine HP.out.mono ?_; rintro e w1 ⟨q, m, cap, rfl, hpo, hb1⟩
    have HPO := Lib.hid hpo
    have HB1 := Lib.hid hb1
    have H1 := Lib.hid (HH.out.next hb1)
    have c1 := H1.out.blk.cell 1 (by simp [atL])
    have f1 := H1.out.blk.f 1
    simp only [atL, List.getD_cons_zero, List.getD_cons_succ] at c1
    clear hb1 hpo
    go_wp2_with fail
    go_ret
    have hg := gb_set w1 ⟨g, 1, none⟩ (.slice q m cap)
    exact ⟨⟨⟨q, m, cap, l.cp, l.cn, l.cc⟩, rfl, H1.out.blk.set 1 _, (HPO.out.past H1.out.blk (by decide) (by decide) hg).mono HBW.out, (ra_path H1.out hg).2, HH.out.n0, HH.out.n1⟩, gb_trans (gb_below HB1.out) hg⟩
set_option maxRecDepth 100000 in
set_option maxHeartbeats 2000000 in
theorem rset8_any (B g : Nat) (a : At) (l : Loc) (Bp : Nat) (p : Option Addr) (xs : List Int) (n c : Nat) (four : Bool) (w : World) (hh : RAt w B g a l) (hBw : B ≤ w.heap.size) (hy : Own w Bp p c xs) (hn : xs.length = n) (hl : n ≤ 1000000) :
    Calls Tryd.prog 43 #[.pointer (some ⟨g, 0, none⟩), .int .i64 8, .slice p n c, .bool four] w fun e w' => RSetTo w w' B g (readV four a 8 xs) e := by
  rw [readV_comms four a xs hy.bytes.1]
  have HP := Lib.hid (rcomms_any p xs n c w hy.bytes hn (by have := hy.le; omega) hl)
  obtain ⟨r, hr2⟩ : ∃ r, commsG xs = r := ⟨_, rfl⟩
  rw [hr2] at HP ⊢
  have HH := Lib.hid hh
  have HBW := Lib.hid hBw
  clear hh hy hn hr2 hBw
  rcases r with _ | nl
  · have c1 := HH.out.blk.cell 5 (by simp [atL])
    have f1 := HH.out.blk.f 5
    simp only [atL, List.getD_cons_zero, List.getD_cons_succ] at c1
    go_enter Tryd.func43, Tryd.ntmps43
    go_wp2_with fail
    refine HP.out.mono ?_; rintro e w1 ⟨rfl, rfl⟩
    go_wp2_with fail
    go_ret
    exact ⟨rfl, gb_set w ⟨g, 5, none⟩ (.slice none 0 0)⟩
  · go_enter Tryd.func43, Tryd.ntmps43
    go_wp2_with fail
    refine HP.out.mono ?_; rintro e w1 ⟨v, rfl, hro, hb1⟩
    obtain ⟨q, cap, rfl, _, _⟩ := row_form hro
    have HRO := Lib.hid hro
    have HB1 := Lib.hid hb1
    have H1 := Lib.hid (HH.out.next hb1)
    have c1 := H1.out.blk.cell 5 (by simp [atL])
    have f1 := H1.out.blk.f 5
    simp only [atL, List.getD_cons_zero, List.getD_cons_succ] at c1
    clear hb1 hro
    obtain ⟨m, hm⟩ : ∃ m, nl.length = m := ⟨_, rfl⟩
    rw [hm] at HRO ⊢
    clear hm
    go_wp2_with fail
    go_ret
    have hg := gb_set w1 ⟨g, 5, none⟩ (.slice q m cap)
    exact ⟨⟨⟨l.pp, l.pn, l.pc, q, m, cap⟩, rfl, H1.out.blk.set 5 _, (ra_path H1.out hg).1, (row_past HRO.out H1.out.blk (by decide) hg).mono HBW.out, HH.out.n0, HH.out.n1⟩, gb_trans (gb_below HB1.out) hg⟩
end Go.Proofs.YtpeagakpmjnelaaDoor.Ax
namespace Go.Proofs.YtpeagakpmjnelaaDoor.Ax
open Go.RowKit
set_option maxRecDepth 100000

theorem rset_any (B g : Nat) (a : At) (l : Loc) (Bp k : Nat) (p : Option Addr) (xs : List Int) (n c : Nat) (four : Bool) (w : World) (hh : RAt w B g a l) (hBw : B ≤ w.heap.size) (hy : Own w Bp p c xs) (hn : xs.length = n) (hl : n ≤ 1000000) (hk : k = 1 ∨ k = 2 ∨ k = 3 ∨ k = 4 ∨ k = 5 ∨ k = 8) :
    Calls Tryd.prog 43 #[.pointer (some ⟨g, 0, none⟩), .int .i64 k, .slice p n c, .bool four] w fun e w' => RSetTo w w' B g (readV four a k xs) e := by
  have no : ∀ {e : Ending} {w' : World}, e = .returned (.bool false) ∧ w = w' → RSetTo w w' B g none e := fun h => ⟨h.1, by rw [← h.2]; exact gb_self _ _⟩
  rcases hk with rfl | rfl | rfl | rfl | rfl | rfl
  · by_cases h1 : n = 1
    · subst h1
      obtain ⟨x, rfl⟩ : ∃ x, xs = [x] := by
        rcases xs with _ | ⟨x, _ | ⟨y, t⟩⟩
        · simp at hn
        · exact ⟨x, rfl⟩
        · simp at hn
      have hbd := hy.byte 0 (by simp)
      simp at hbd
      have hgx : getV [x] = x := by simp [getV]
      have hcell : ∃ b off, p = some ⟨b, off, none⟩ ∧ w.cell? ⟨b, off, none⟩ = some (.int .u8 x) := by
        rcases hy.bytes.2 with h | ⟨b, off, hp, hc⟩
        · cases h
        · exact ⟨b, off, hp, by simpa using hc 0 (by simp)⟩
      obtain ⟨b, off, rfl, hx⟩ := hcell
      by_cases h2 : 2 < x
      · rw [show readV four a 1 [x] = none from (readV_1 four a [x]).trans <| if_neg (fun h => by rw [hgx] at h; have := oddB_no h.2; omega)]
        exact (rset1_odd g b off c x four w hx h2 hbd.2).mono fun _ _ h => no h
      · rw [show readV four a 1 [x] = some { a with origin := x } from (readV_1 four a [x]).trans <| by rw [if_pos ⟨rfl, by rw [hgx]; simp [oddB]; omega⟩, hgx]]
        exact rset1_ok B g a l b off c x four w hh hx hbd.1 (by omega)
    · rw [show readV four a 1 xs = none from (readV_1 four a xs).trans <| if_neg (fun h => by omega)]
      exact (rset1_no g p n c four w h1).mono fun _ _ h => no h
  · exact rset2_any B g a l Bp p xs n c four w hh hBw hy hn hl
  · by_cases h1 : n = 4
    · subst h1
      by_cases h2 : getV xs = 0
      · rw [show readV four a 3 xs = none from (readV_3 four a xs).trans <| if_neg (fun h => h.2 h2)]
        exact rset3_zero B g a l p xs c four w hh hy.bytes hn h2
      · rw [show readV four a 3 xs = some { a with next := getV xs } from (readV_3 four a xs).trans <| if_pos ⟨hn, h2⟩]
        exact rset3_ok B g a l p xs c four w hh hy.bytes hn h2
    · rw [show readV four a 3 xs = none from (readV_3 four a xs).trans <| if_neg (fun h => by omega)]
      exact (rset3_no g p n c four w h1).mono fun _ _ h => no h
  · by_cases h1 : n = 4
    · subst h1
      rw [show readV four a 4 xs = some { a with med := getV xs } from (readV_4 four a xs).trans <| if_pos hn]
      exact rset4_ok B g a l p xs c four w hh hy.bytes hn
    · rw [show readV four a 4 xs = none from (readV_4 four a xs).trans <| if_neg (fun h => by omega)]
      exact (rset4_no g p n c four w h1).mono fun _ _ h => no h
  · by_cases h1 : n = 4
    · subst h1
      rw [show readV four a 5 xs = some { a with pref := getV xs } from (readV_5 four a xs).trans <| if_pos hn]
      exact rset5_ok B g a l p xs c four w hh hy.bytes hn
    · rw [show readV four a 5 xs = none from (readV_5 four a xs).trans <| if_neg (fun h => by omega)]
      exact (rset5_no g p n c four w h1).mono fun _ _ h => no h
  · exact rset8_any B g a l Bp p xs n c four w hh hBw hy hn hl

/-- The types that were there: a row of truths, as the bits tell. -/
theorem base_div : ∀ f : Int, 0 ≤ f → f ≤ 255 → baseV f = f / 32 * 32 := by
  intro f h0 h1
  obtain ⟨n, rfl⟩ := Int.eq_ofNat_of_zero_le h0
  have hn : n < 256 := by omega
  have key : ∀ m : Fin 256, baseV (m.val : Int) = (m.val : Int) / 32 * 32 := by decide +kernel
  exact key ⟨n, hn⟩
theorem wide_div : ∀ f : Int, 0 ≤ f → f ≤ 255 → ((wideOf f : Nat) : Int) = 1 + f / 16 % 2 := by
  intro f h0 h1
  obtain ⟨n, rfl⟩ := Int.eq_ofNat_of_zero_le h0
  have hn : n < 256 := by omega
  have key : ∀ m : Fin 256, ((wideOf (m.val : Int) : Nat) : Int) = 1 + (m.val : Int) / 16 % 2 := by decide +kernel
  exact key ⟨n, hn⟩
theorem opt_ge : ∀ f : Int, 0 ≤ f → f ≤ 255 → optB f = !decide (f < 128) := by
  intro f h0 h1
  obtain ⟨n, rfl⟩ := Int.eq_ofNat_of_zero_le h0
  have hn : n < 256 := by omega
  have key : ∀ m : Fin 256, optB (m.val : Int) = !decide ((m.val : Int) < 128) := by decide +kernel
  exact key ⟨n, hn⟩
theorem seen_set : ∀ th ∈ allTh, ∀ k ∈ [1, 2, 3, 4, 5, 8], ∀ j ∈ List.range 9, seenB (setT th k) j = (j == k || seenB th j) := by decide +kernel
theorem whole_seen : ∀ th ∈ allTh, wholeB th = (seenB th 1 && (seenB th 2 && seenB th 3)) := by decide +kernel
end Go.Proofs.YtpeagakpmjnelaaDoor.Ax
namespace Go.Proofs.YtpeagakpmjnelaaDoor.Ax
open Go.RowKit
set_option maxRecDepth 100000

theorem apart_rowIs {w : World} {g : Nat} {t : TypeId} {n : Nat} {f : Nat → Value} (hr : w.rowIs g t n f) (hf : ∀ i, i < n → ∀ x, f i ≠ .int .u8 x) {p : Option Addr} {xs : List Int} (hy : BytesAt w p xs) : xs = [] ∨ p.map (·.block) ≠ some g := by
  rcases hy.2 with h | ⟨b, off, rfl, hc⟩
  · exact .inl h
  · rcases xs with _ | ⟨x, r⟩
    · exact .inl rfl
    · right
      intro e
      obtain rfl : b = g := by simpa using e
      have hcell := hc 0 (by simp)
      obtain ⟨c, hb, hn, hcc⟩ := hr
      simp [World.cell?, hb] at hcell
      have hlt : off < n := by
        rcases Nat.lt_or_ge off c.size with h | h
        · omega
        · rw [Array.getElem?_eq_none h] at hcell; cases hcell
      rw [hcc off hlt] at hcell
      exact hf off hlt _ (Option.some.inj hcell)
theorem RRel.past {w w' : World} {g r : Nat} {s : Option (List Int)} {t : TypeId} {n : Nat} {f : Nat → Value} (h : RRel w g s) (hr : w.rowIs r t n f) (hf : ∀ i, i < n → ∀ x, f i ≠ .int .u8 x) (hne : g ≠ r) (hg : w.grownBy w' (some r)) : RRel w' g s := by
  have hlt := h.lt
  obtain ⟨xs, ⟨p, cap, hrow, hy, hl, hm, hne'⟩, he⟩ := h
  refine ⟨xs, ⟨p, cap, hrow.of_same (hg.block g hlt (fun e => hne (Option.some.inj e))), ?_, hl, hm, hne'⟩, he⟩
  rcases apart_rowIs hr hf hy with rfl | h
  · exact BytesAt.nil _ _
  · exact bytes_far hy hg (fun b hb e => h (by rw [hb]; exact e))
theorem atL_far (a : At) (l : Loc) : ∀ i, i < (atL a l).length → ∀ x, (atL a l).getD i undef ≠ .int .u8 x := by
  intro i hi x
  have h6 : i < 6 := hi
  have : i = 0 ∨ i = 1 ∨ i = 2 ∨ i = 3 ∨ i = 4 ∨ i = 5 := by omega
  rcases this with rfl | rfl | rfl | rfl | rfl | rfl <;> simp [atL]
def seenF (th : Int) (j : Nat) : Value := .bool (decide (j < 9) && seenB th j)
def zerosA : List Value := [.int .i64 0, .slice none 0 0, .int .u32 0, .int .i64 0, .int .i64 0, .slice none 0 0]
structure RGSt (w W wr : World) (gr : Nat) (a : At) (l : Loc) (th : Int) (st : Option (List Int)) : Prop where
  atA : RAt wr W.heap.size (w.heap.size + 1) a l
  seen : wr.rowIs (w.heap.size + 2) 4 256 (seenF th)
  out : Blk wr w.heap.size 27 zerosA
  rd : RRel wr gr st
  bel : Below w.heap.size w wr
  sz : W.heap.size ≤ wr.heap.size
theorem RGSt.next {w W wr w' : World} {gr : Nat} {a : At} {l : Loc} {th : Int} {st : Option (List Int)} (h : RGSt w W wr gr a l th st) (hb : Below wr.heap.size wr w') : RGSt w W w' gr a l th st :=
  ⟨h.atA.next hb, World.rowIs.of_block h.seen (hb.block _ h.seen.lt), h.out.next hb, h.rd.below hb, h.bel.trans (hb.mono h.bel.size), Nat.le_trans h.sz hb.size⟩
theorem RGSt.num {w W wr w' : World} {gr : Nat} {a : At} {l : Loc} {th : Int} {st st' : Option (List Int)} (h : RGSt w W wr gr a l th st) (hr : RRel w' gr st') (hg : wr.grownBy w' (some gr)) (h1 : w.heap.size + 2 < gr) (h2 : gr < W.heap.size) : RGSt w W w' gr a l th st' :=
  ⟨⟨h.atA.blk.grown (by omega) hg, h.atA.path.read hg h2, h.atA.comms.kept hg (row_not h.atA.comms h2), h.atA.n0, h.atA.n1⟩, World.rowIs.of_block h.seen (hg.block _ h.seen.lt (fun e => by have := Option.some.inj e; omega)), h.out.grown (by omega) hg, hr, below_new h.bel hg (by omega) h.bel.size, Nat.le_trans h.sz hg.size⟩
theorem RGSt.mark {w W wr : World} {gr : Nat} {a : At} {l : Loc} {th : Int} {st : Option (List Int)} (h : RGSt w W wr gr a l th st) (k : Nat) (hk : k = 1 ∨ k = 2 ∨ k = 3 ∨ k = 4 ∨ k = 5 ∨ k = 8) (hth : th ∈ allTh) (h1 : w.heap.size + 2 < gr) (h2 : gr < W.heap.size) : RGSt w W (wr.setCell ⟨w.heap.size + 2, k, none⟩ (.bool true)) gr a l (setT th k) st := by
  have hg := gb_set wr ⟨w.heap.size + 2, k, none⟩ (.bool true)
  have hB : w.heap.size + 2 < W.heap.size := by omega
  have hseen := World.rowIs.set h.seen k (.bool true)
  refine ⟨⟨h.atA.blk.grown (by simp) hg, h.atA.path.read hg hB, h.atA.comms.kept hg (row_not h.atA.comms hB), h.atA.n0, h.atA.n1⟩, World.rowIs.congr hseen (fun j hj => ?_), h.out.grown (by simp) hg, h.rd.past h.seen (fun i hi x => by simp [seenF]) (by omega) hg, below_new h.bel hg (by simp) h.bel.size, Nat.le_trans h.sz hg.size⟩
  have key : ∀ j ∈ List.range 9, seenB (setT th k) j = (j == k || seenB th j) := seen_set th hth k (by simpa using hk)
  by_cases h9 : j < 9
  · have := key j (by simpa using h9)
    unfold seenF
    rw [this]
    by_cases e : j = k
    · simp [e]; omega
    · have e' : (j == k) = false := by simpa using e
      rw [e']; simp [e]
  · have hne : j ≠ k := by omega
    unfold seenF
    simp [hne, h9]
theorem RGSt.put {w W wr w' : World} {gr : Nat} {a a' : At} {l l' : Loc} {th : Int} {st : Option (List Int)} (h : RGSt w W wr gr a l th st) (hh : RAt w' W.heap.size (w.heap.size + 1) a' l') (hg : wr.grownBy w' (some (w.heap.size + 1))) (h1 : w.heap.size + 2 < gr) : RGSt w W w' gr a' l' th st :=
  ⟨hh, World.rowIs.of_block h.seen (hg.block _ h.seen.lt (fun e => by have := Option.some.inj e; omega)), h.out.grown (by omega) hg, h.rd.past h.atA.blk (atL_far a l) (by omega) hg, below_new h.bel hg (by omega) h.bel.size, Nat.le_trans h.sz hg.size⟩
/-- One attribute, as the reader reads it. -/
theorem nextV_none (n : Int) : nextV none n = none := by simp [nextV, okTake]
theorem getS_read (four : Bool) (f : Nat) (s : At × Int) (x : Int) (t : List Int) (hb : InByte t) :
    getS four (f + 1) s (x :: t) = (nextV (numNext (numNext (some t) 1) (wideOf x : Nat)) (numV (numNext (some t) 1) (wideOf x : Nat))).bind (fun ys => (takeV four s x (numV (some t) 1).toNat (outV (numNext (numNext (some t) 1) (wideOf x : Nat)) (numV (numNext (some t) 1) (wideOf x : Nat)))).bind (fun s' => getS four f s' ys)) := by
  rcases t with _ | ⟨k, r⟩
  · rw [show numNext (some []) 1 = none from (numV_no (wide := 1) (xs := []) (by simp)).2, numNext_none, nextV_none]
    rfl
  · rw [(numV_one k r).1, (numV_one k r).2]
    have hw : 1 ≤ wideOf x ∧ wideOf x ≤ 4 := by unfold wideOf; split <;> omega
    have hd : getS four (f + 1) s (x :: k :: r) = if wideOf x ≤ r.length then
      (if (getV (r.take (wideOf x))).toNat ≤ (r.drop (wideOf x)).length then
        (takeV four s x k.toNat ((r.drop (wideOf x)).take (getV (r.take (wideOf x))).toNat)).bind (fun s' => getS four f s' ((r.drop (wideOf x)).drop (getV (r.take (wideOf x))).toNat))
      else none)
      else none := rfl
    rw [hd]
    by_cases hl : wideOf x ≤ r.length
    · rw [if_pos hl, (numV_ok hw.1 hw.2 hl).1, (numV_ok hw.1 hw.2 hl).2]
      have h0 := (getV_bd r (inByte_tail hb) (wideOf x) hl).1
      obtain ⟨n, hn⟩ := Int.eq_ofNat_of_zero_le h0
      rw [hn]
      by_cases h2 : n ≤ (r.drop (wideOf x)).length
      · have hk : okTake (some (r.drop (wideOf x))) (n : Int) = true := by simp [okTake]; simpa using h2
        rw [if_pos (by simpa using h2)]
        simp only [nextV, outV, hk, if_true, Option.getD_some, Option.bind_some, Int.toNat_natCast]
      · have hk : okTake (some (r.drop (wideOf x))) (n : Int) = false := by simp [okTake]; simpa using h2
        rw [if_neg (by simpa using h2)]
        simp only [nextV, hk]
        rfl
    · rw [if_neg hl, (numV_no (by omega)).2, nextV_none]; rfl
end Go.Proofs.YtpeagakpmjnelaaDoor.Ax
