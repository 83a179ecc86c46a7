/- The document's set: one attribute of a type that is known. -/
import Derived.Test.YtcabiodgmhcdlaaDoorBa
namespace Go.Proofs.YtcabiodgmhcdlaaDoor
open Go.RowKit

structure RAt (w : World) (B g : Nat) (a : At) (l : Loc) : Prop where
  blk : Blk w g 26 (atL a l)
  path : PathOwn w B l.pp l.pn l.pc a.path
  comms : w.ownsRow B 3 1 (.slice l.cp l.cn l.cc) l.cn (a.comms.map (Value.int .i64))
  n0 : 0 ≤ a.next
  n1 : a.next ≤ 4294967295
theorem RAt.next {w w' : World} {B g : Nat} {a : At} {l : Loc} (h : RAt w B g a l) (hb : Below w.heap.size w w') : RAt w' B g a l :=
  ⟨h.blk.next hb, h.path.below hb, row_below h.comms hb, h.n0, h.n1⟩
theorem ra_path {w w' : World} {B g : Nat} {a : At} {l : Loc} (h : RAt w B g a l) (hg : w.grownBy w' (some g)) : PathOwn w' B l.pp l.pn l.pc a.path ∧ w'.ownsRow B 3 1 (.slice l.cp l.cn l.cc) l.cn (a.comms.map (Value.int .i64)) :=
  ⟨h.path.past h.blk (by decide) (by decide) hg, row_past h.comms h.blk (by decide) hg⟩
def RSetTo (w w' : World) (B g : Nat) (r : Option At) (e : Ending) : Prop :=
  match r with
  | some a => (∃ l, e = .returned (.bool true) ∧ RAt w' B g a l) ∧ w.grownBy w' (some g)
  | none => e = .returned (.bool false) ∧ w.grownBy w' (some g)
theorem gb_self (w : World) (r : Option Nat) : w.grownBy w r := gb_below (Below.refl _ _)

set_option maxRecDepth 100000 in
set_option maxHeartbeats 2000000 in
theorem rset1_no (g : Nat) (p : Option Addr) (n c : Nat) (four : Bool) (w : World) (h1 : n ≠ 1) :
    Calls Tryd.prog 42 #[.pointer (some ⟨g, 0, none⟩), .int .i64 1, .slice p n c, .bool four] w fun e w' => e = .returned (.bool false) ∧ w = w' := by
  have t1 : ((n : Int) == 1) = false := by simp; omega
  go_enter Tryd.func42, Tryd.ntmps42
  go_wp2_with fail
  go_ret
  exact ⟨rfl, rfl⟩
set_option maxRecDepth 100000 in
set_option maxHeartbeats 2000000 in
theorem rset1_odd (g : Nat) (b off c : Nat) (x : Int) (four : Bool) (w : World) (hx : w.cell? ⟨b, off, none⟩ = some (.int .u8 x)) (h2 : 2 < x) (_ : x ≤ 255) :
    Calls Tryd.prog 42 #[.pointer (some ⟨g, 0, none⟩), .int .i64 1, .slice (some ⟨b, off, none⟩) 1 c, .bool four] w fun e w' => e = .returned (.bool false) ∧ w = w' := by
  have t1 : decide (2 < x) = true := by simpa using h2
  go_enter Tryd.func42, Tryd.ntmps42
  go_wp2_with fail
  go_ret
  exact ⟨rfl, rfl⟩
set_option maxRecDepth 100000 in
set_option maxHeartbeats 2000000 in
theorem rset1_ok (B g : Nat) (a : At) (l : Loc) (b off c : Nat) (x : Int) (four : Bool) (w : World) (hh : RAt w B g a l) (hx : w.cell? ⟨b, off, none⟩ = some (.int .u8 x)) (h0 : 0 ≤ x) (h2 : x ≤ 2) :
    Calls Tryd.prog 42 #[.pointer (some ⟨g, 0, none⟩), .int .i64 1, .slice (some ⟨b, off, none⟩) 1 c, .bool four] w fun e w' => RSetTo w w' B g (some { a with origin := x }) e := by
  have t1 : decide (2 < x) = false := by simp; omega
  have HH := Lib.hid hh
  have c0 := hh.blk.cell 0 (by simp [atL])
  have f0 := hh.blk.f 0
  simp only [atL, List.getD_cons_zero] at c0
  clear hh
  go_enter Tryd.func42, Tryd.ntmps42
  go_wp2_with fail
  go_ret
  have hg := gb_set w ⟨g, 0, none⟩ (.int .i64 x)
  exact ⟨⟨l, rfl, HH.out.blk.set 0 _, (ra_path HH.out hg).1, (ra_path HH.out hg).2, HH.out.n0, HH.out.n1⟩, hg⟩
set_option maxRecDepth 100000 in
set_option maxHeartbeats 2000000 in
theorem rset3_no (g : Nat) (p : Option Addr) (n c : Nat) (four : Bool) (w : World) (h1 : n ≠ 4) :
    Calls Tryd.prog 42 #[.pointer (some ⟨g, 0, none⟩), .int .i64 3, .slice p n c, .bool four] w fun e w' => e = .returned (.bool false) ∧ w = w' := by
  have t1 : ((n : Int) == 4) = false := by simp; omega
  go_enter Tryd.func42, Tryd.ntmps42
  go_wp2_with fail
  go_ret
  exact ⟨rfl, rfl⟩
set_option maxRecDepth 100000 in
set_option maxHeartbeats 2000000 in
theorem rset3_ok (B g : Nat) (a : At) (l : Loc) (p : Option Addr) (xs : List Int) (c : Nat) (four : Bool) (w : World) (hh : RAt w B g a l) (hb : BytesAt w p xs) (hn : xs.length = 4) (hz : getV xs ≠ 0) :
    Calls Tryd.prog 42 #[.pointer (some ⟨g, 0, none⟩), .int .i64 3, .slice p 4 c, .bool four] w fun e w' => RSetTo w w' B g (some { a with next := getV xs }) e := by
  have HH := Lib.hid hh
  have c0 := hh.blk.cell 2 (by simp [atL])
  have f0 := hh.blk.f 2
  simp only [atL, List.getD_cons_zero, List.getD_cons_succ] at c0
  obtain ⟨y0, y1⟩ := bytes_val hb 4 (by omega) (by omega)
  have hg := rget_any p xs c w (by omega) hb
  rw [hn] at hg
  have HG := Lib.hid hg
  obtain ⟨y, hy⟩ : ∃ y, getV xs = y := ⟨_, rfl⟩
  rw [hy] at HG y0 y1 hz ⊢
  clear hh hb hn hg hy
  have t1 : (y != 0) = true := by simpa using hz
  have T1 := Lib.hid t1
  go_enter Tryd.func42, Tryd.ntmps42
  go_wp2_with fail
  refine HG.out.mono ?_; rintro e w1 ⟨rfl, rfl⟩
  go_wp2_with fail
  go_ret
  have hg := gb_set w ⟨g, 2, none⟩ (.int .u32 y)
  exact ⟨⟨l, by first | rfl | (show Ending.returned (.bool (y != 0)) = _; rw [T1.out]), HH.out.blk.set 2 _, (ra_path HH.out hg).1, (ra_path HH.out hg).2, y0, y1⟩, hg⟩
set_option maxRecDepth 100000 in
set_option maxHeartbeats 2000000 in
theorem rset4_no (g : Nat) (p : Option Addr) (n c : Nat) (four : Bool) (w : World) (h1 : n ≠ 4) :
    Calls Tryd.prog 42 #[.pointer (some ⟨g, 0, none⟩), .int .i64 4, .slice p n c, .bool four] w fun e w' => e = .returned (.bool false) ∧ w = w' := by
  have t1 : ((n : Int) == 4) = false := by simp; omega
  go_enter Tryd.func42, Tryd.ntmps42
  go_wp2_with fail
  go_ret
  exact ⟨rfl, rfl⟩
set_option maxRecDepth 100000 in
set_option maxHeartbeats 2000000 in
theorem rset4_ok (B g : Nat) (a : At) (l : Loc) (p : Option Addr) (xs : List Int) (c : Nat) (four : Bool) (w : World) (hh : RAt w B g a l) (hb : BytesAt w p xs) (hn : xs.length = 4) :
    Calls Tryd.prog 42 #[.pointer (some ⟨g, 0, none⟩), .int .i64 4, .slice p 4 c, .bool four] w fun e w' => RSetTo w w' B g (some { a with med := getV xs }) e := by
  have HH := Lib.hid hh
  have c0 := hh.blk.cell 3 (by simp [atL])
  have f0 := hh.blk.f 3
  simp only [atL, List.getD_cons_zero, List.getD_cons_succ] at c0
  obtain ⟨y0, y1⟩ := bytes_val hb 4 (by omega) (by omega)
  have hg := rget_any p xs c w (by omega) hb
  rw [hn] at hg
  have HG := Lib.hid hg
  obtain ⟨y, hy⟩ : ∃ y, getV xs = y := ⟨_, rfl⟩
  rw [hy] at HG y0 y1 ⊢
  clear hh hb hn hg hy
  go_enter Tryd.func42, Tryd.ntmps42
  go_wp2_with fail
  refine HG.out.mono ?_; rintro e w1 ⟨rfl, rfl⟩
  go_wp2_with fail
  go_ret
  have hg := gb_set w ⟨g, 3, none⟩ (.int .i64 y)
  exact ⟨⟨l, rfl, HH.out.blk.set 3 _, (ra_path HH.out hg).1, (ra_path HH.out hg).2, HH.out.n0, HH.out.n1⟩, hg⟩
set_option maxRecDepth 100000 in
set_option maxHeartbeats 2000000 in
theorem rset5_no (g : Nat) (p : Option Addr) (n c : Nat) (four : Bool) (w : World) (h1 : n ≠ 4) :
    Calls Tryd.prog 42 #[.pointer (some ⟨g, 0, none⟩), .int .i64 5, .slice p n c, .bool four] w fun e w' => e = .returned (.bool false) ∧ w = w' := by
  have t1 : ((n : Int) == 4) = false := by simp; omega
  go_enter Tryd.func42, Tryd.ntmps42
  go_wp2_with fail
  go_ret
  exact ⟨rfl, rfl⟩
set_option maxRecDepth 100000 in
set_option maxHeartbeats 2000000 in
theorem rset5_ok (B g : Nat) (a : At) (l : Loc) (p : Option Addr) (xs : List Int) (c : Nat) (four : Bool) (w : World) (hh : RAt w B g a l) (hb : BytesAt w p xs) (hn : xs.length = 4) :
    Calls Tryd.prog 42 #[.pointer (some ⟨g, 0, none⟩), .int .i64 5, .slice p 4 c, .bool four] w fun e w' => RSetTo w w' B g (some { a with pref := getV xs }) e := by
  have HH := Lib.hid hh
  have c0 := hh.blk.cell 4 (by simp [atL])
  have f0 := hh.blk.f 4
  simp only [atL, List.getD_cons_zero, List.getD_cons_succ] at c0
  obtain ⟨y0, y1⟩ := bytes_val hb 4 (by omega) (by omega)
  have hg := rget_any p xs c w (by omega) hb
  rw [hn] at hg
  have HG := Lib.hid hg
  obtain ⟨y, hy⟩ : ∃ y, getV xs = y := ⟨_, rfl⟩
  rw [hy] at HG y0 y1 ⊢
  clear hh hb hn hg hy
  go_enter Tryd.func42, Tryd.ntmps42
  go_wp2_with fail
  refine HG.out.mono ?_; rintro e w1 ⟨rfl, rfl⟩
  go_wp2_with fail
  go_ret
  have hg := gb_set w ⟨g, 4, none⟩ (.int .i64 y)
  exact ⟨⟨l, rfl, HH.out.blk.set 4 _, (ra_path HH.out hg).1, (ra_path HH.out hg).2, HH.out.n0, HH.out.n1⟩, hg⟩
set_option maxRecDepth 100000 in
set_option maxHeartbeats 2000000 in
theorem rset3_zero (B g : Nat) (a : At) (l : Loc) (p : Option Addr) (xs : List Int) (c : Nat) (four : Bool) (w : World) (hh : RAt w B g a l) (hb : BytesAt w p xs) (hn : xs.length = 4) (hz : getV xs = 0) :
    Calls Tryd.prog 42 #[.pointer (some ⟨g, 0, none⟩), .int .i64 3, .slice p 4 c, .bool four] w fun e w' => RSetTo w w' B g none e := by
  have c0 := hh.blk.cell 2 (by simp [atL])
  have f0 := hh.blk.f 2
  simp only [atL, List.getD_cons_zero, List.getD_cons_succ] at c0
  have hg := rget_any p xs c w (by omega) hb
  rw [hn, hz] at hg
  have HG := Lib.hid hg
  clear hh hb hn hg hz
  go_enter Tryd.func42, Tryd.ntmps42
  go_wp2_with fail
  refine HG.out.mono ?_; rintro e w1 ⟨rfl, rfl⟩
  go_wp2_with fail
  go_ret
  exact ⟨rfl, gb_set w ⟨g, 2, none⟩ (.int .u32 0)⟩
set_option maxRecDepth 100000 in
set_option maxHeartbeats 2000000 in
theorem rset2_any (B g : Nat) (a : At) (l : Loc) (Bp : Nat) (p : Option Addr) (xs : List Int) (n c : Nat) (four : Bool) (w : World) (hh : RAt w B g a l) (hBw : B ≤ w.heap.size) (hy : Own w Bp p c xs) (hn : xs.length = n) (hl : n ≤ 1000000) :
    Calls Tryd.prog 42 #[.pointer (some ⟨g, 0, none⟩), .int .i64 2, .slice p n c, .bool four] w fun e w' => RSetTo w w' B g (readV four a 2 xs) e := by
  have hr : readV four a 2 xs = (pathR four (xs.length + 1) 0 xs).map (fun l => { a with path := l }) := by
    rw [pathR_ok four xs hy.bytes.1, show readV four a 2 xs = (match pathG (wideA four) (xs.length + 1) xs with
      | some l => if okPath l four then some { a with path := l } else none
      | none => none) from rfl]
    rcases pathG (wideA four) (xs.length + 1) xs with _ | l
    · rfl
    · simp only [Option.bind_some]
      split <;> rfl
  rw [hr]
  have HP := Lib.hid (rpath_any four p xs n c w hy.bytes hn (by have := hy.le; omega) hy.max (fun b hb => (hy.block_lt hb).2) hl)
  obtain ⟨r, hr2⟩ : ∃ r, pathR four (xs.length + 1) 0 xs = r := ⟨_, rfl⟩
  rw [hr2] at HP ⊢
  have HH := Lib.hid hh
  have HBW := Lib.hid hBw
  clear hh hy hn hr hr2 hBw
  rcases r with _ | nl
  · go_enter Tryd.func42, Tryd.ntmps42
    go_wp2_with fail
    refine HP.out.mono ?_; rintro e w1 ⟨rfl, hb1⟩
    have HB1 := Lib.hid hb1
    have H1 := HH.out.next hb1
    have c1 := H1.blk.cell 1 (by simp [atL])
    have f1 := H1.blk.f 1
    simp only [atL, List.getD_cons_zero, List.getD_cons_succ] at c1
    clear hb1 H1
    go_wp2_with fail
    go_ret
    exact ⟨rfl, gb_trans (gb_below HB1.out) (gb_set w1 ⟨g, 1, none⟩ (.slice none 0 0))⟩
  · go_enter Tryd.func42, Tryd.ntmps42
    go_wp2_with fail
    refine HP.out.mono ?_; rintro e w1 ⟨q, m, cap, rfl, hpo, hb1⟩
    have HPO := Lib.hid hpo
    have HB1 := Lib.hid hb1
    have H1 := Lib.hid (HH.out.next hb1)
    have c1 := H1.out.blk.cell 1 (by simp [atL])
    have f1 := H1.out.blk.f 1
    simp only [atL, List.getD_cons_zero, List.getD_cons_succ] at c1
    clear hb1 hpo
    go_wp2_with fail
    go_ret
    have hg := gb_set w1 ⟨g, 1, none⟩ (.slice q m cap)
    exact ⟨⟨⟨q, m, cap, l.cp, l.cn, l.cc⟩, rfl, H1.out.blk.set 1 _, (HPO.out.past H1.out.blk (by decide) (by decide) hg).mono HBW.out, (ra_path H1.out hg).2, HH.out.n0, HH.out.n1⟩, gb_trans (gb_below HB1.out) hg⟩
set_option maxRecDepth 100000 in
set_option maxHeartbeats 2000000 in
theorem rset8_any (B g : Nat) (a : At) (l : Loc) (Bp : Nat) (p : Option Addr) (xs : List Int) (n c : Nat) (four : Bool) (w : World) (hh : RAt w B g a l) (hBw : B ≤ w.heap.size) (hy : Own w Bp p c xs) (hn : xs.length = n) (hl : n ≤ 1000000) :
    Calls Tryd.prog 42 #[.pointer (some ⟨g, 0, none⟩), .int .i64 8, .slice p n c, .bool four] w fun e w' => RSetTo w w' B g (readV four a 8 xs) e := by
  rw [readV_comms four a xs hy.bytes.1]
  have HP := Lib.hid (rcomms_any p xs n c w hy.bytes hn (by have := hy.le; omega) hl)
  obtain ⟨r, hr2⟩ : ∃ r, commsG xs = r := ⟨_, rfl⟩
  rw [hr2] at HP ⊢
  have HH := Lib.hid hh
  have HBW := Lib.hid hBw
  clear hh hy hn hr2 hBw
  rcases r with _ | nl
  · have c1 := HH.out.blk.cell 5 (by simp [atL])
    have f1 := HH.out.blk.f 5
    simp only [atL, List.getD_cons_zero, List.getD_cons_succ] at c1
    go_enter Tryd.func42, Tryd.ntmps42
    go_wp2_with fail
    refine HP.out.mono ?_; rintro e w1 ⟨rfl, rfl⟩
    go_wp2_with fail
    go_ret
    exact ⟨rfl, gb_set w ⟨g, 5, none⟩ (.slice none 0 0)⟩
  · go_enter Tryd.func42, Tryd.ntmps42
    go_wp2_with fail
    refine HP.out.mono ?_; rintro e w1 ⟨v, rfl, hro, hb1⟩
    obtain ⟨q, cap, rfl, _, _⟩ := row_form hro
    have HRO := Lib.hid hro
    have HB1 := Lib.hid hb1
    have H1 := Lib.hid (HH.out.next hb1)
    have c1 := H1.out.blk.cell 5 (by simp [atL])
    have f1 := H1.out.blk.f 5
    simp only [atL, List.getD_cons_zero, List.getD_cons_succ] at c1
    clear hb1 hro
    obtain ⟨m, hm⟩ : ∃ m, nl.length = m := ⟨_, rfl⟩
    rw [hm] at HRO ⊢
    clear hm
    go_wp2_with fail
    go_ret
    have hg := gb_set w1 ⟨g, 5, none⟩ (.slice q m cap)
    exact ⟨⟨⟨l.pp, l.pn, l.pc, q, m, cap⟩, rfl, H1.out.blk.set 5 _, (ra_path H1.out hg).1, (row_past HRO.out H1.out.blk (by decide) hg).mono HBW.out, HH.out.n0, HH.out.n1⟩, gb_trans (gb_below HB1.out) hg⟩
end Go.Proofs.YtcabiodgmhcdlaaDoor
