/- attr: take, whole. -/
import Derived.Test.YtpeagakpmjnelaaDoorA9
import Derived.RegionTactic
import Derived.ChangeAlike
namespace Go.Proofs.YtpeagakpmjnelaaDoor.Ax
open Go.RowKit
set_option maxRecDepth 100000

def optB (flags : Int) : Bool := bits BinOp.and IntKind.i64 flags 128 != 0
def seenB (th : Int) (k : Nat) : Bool := bits BinOp.and IntKind.u64 (th / 2 ^ k) 1 != 0
def setT (th : Int) (k : Nat) : Int := bits BinOp.or IntKind.u64 th (2 ^ k)
def baseV (flags : Int) : Int := bits BinOp.andNot IntKind.i64 flags 31
/-- One attribute, however known: what is heard then; none: it may not be. -/
def takeV (four : Bool) (s : At × Int) (flags : Int) (kind : Nat) (xs : List Int) : Option (At × Int) :=
  if flagsL.getD kind 0 = 0 then (if optB flags then some s else none)
  else if seenB s.2 kind then some s
  else if baseV flags = flagsL.getD kind 0 then (readV four s.1 kind xs).map (fun a => (a, setT s.2 kind)) else none
def TakeTo (w w' : World) (B g : Nat) (four : Bool) (r : Option (At × Int)) (e : Ending) : Prop :=
  match r with
  | some s => (∃ l, e = .returned (.bool true) ∧ HdAt w' B g s.1 l s.2 four) ∧ w.grownBy w' (some g)
  | none => e = .returned (.bool false) ∧ w.grownBy w' (some g)
theorem TakeTo.opt {w : World} {B g : Nat} {a : At} {l : Loc} {th : Int} {four : Bool} (h : HdAt w B g a l th four) (b : Bool) : TakeTo w w B g four (if b then some (a, th) else none) (.returned (.bool b)) := by
  cases b
  · exact ⟨rfl, gb_refl _ _⟩
  · exact ⟨⟨l, rfl, h⟩, gb_refl _ _⟩
theorem take_far (B g : Nat) (a : At) (l : Loc) (th flags : Int) (four : Bool) (k : Nat) (v : Value) (w : World) (hh : HdAt w B g a l th four) (_ : 0 ≤ flags) (_ : flags ≤ 255) (hk : 9 ≤ k) (hk2 : k ≤ 255) :
    Calls Tryd.prog 83 #[.pointer (some ⟨g, 0, none⟩), .int .i64 flags, .int .i64 k, v] w fun e w' => TakeTo w w' B g four (if optB flags then some (a, th) else none) e := by
  have HH := Lib.hid hh
  obtain ⟨r, hr⟩ : ∃ r, (if optB flags then some (a, th) else none) = r := ⟨_, rfl⟩
  rw [hr]
  have HR := Lib.hid hr
  clear hh hr
  go_enter Tryd.func83, Tryd.ntmps83
  go_wp2_with fail
  go_ret
  rw [← HR.out]
  exact TakeTo.opt HH.out (optB flags)
theorem take_unk0 (B g : Nat) (a : At) (l : Loc) (th flags : Int) (four : Bool) (v : Value) (w : World) (ht : Tab w) (hh : HdAt w B g a l th four) (_ : 0 ≤ flags) (_ : flags ≤ 255) :
    Calls Tryd.prog 83 #[.pointer (some ⟨g, 0, none⟩), .int .i64 flags, .int .i64 0, v] w fun e w' => TakeTo w w' B g four (if optB flags then some (a, th) else none) e := by
  have HH := Lib.hid hh
  have c0 : w.cell? ⟨0, 0, none⟩ = some (.int .i64 0) := ht 0 (by omega)
  obtain ⟨r, hr⟩ : ∃ r, (if optB flags then some (a, th) else none) = r := ⟨_, rfl⟩
  rw [hr]
  have HR := Lib.hid hr
  clear hh ht hr
  go_enter Tryd.func83, Tryd.ntmps83
  go_wp2_with fail
  go_ret
  rw [← HR.out]
  exact TakeTo.opt HH.out (optB flags)
theorem take_unk6 (B g : Nat) (a : At) (l : Loc) (th flags : Int) (four : Bool) (v : Value) (w : World) (ht : Tab w) (hh : HdAt w B g a l th four) (_ : 0 ≤ flags) (_ : flags ≤ 255) :
    Calls Tryd.prog 83 #[.pointer (some ⟨g, 0, none⟩), .int .i64 flags, .int .i64 6, v] w fun e w' => TakeTo w w' B g four (if optB flags then some (a, th) else none) e := by
  have HH := Lib.hid hh
  have c0 : w.cell? ⟨0, 6, none⟩ = some (.int .i64 0) := ht 6 (by omega)
  obtain ⟨r, hr⟩ : ∃ r, (if optB flags then some (a, th) else none) = r := ⟨_, rfl⟩
  rw [hr]
  have HR := Lib.hid hr
  clear hh ht hr
  go_enter Tryd.func83, Tryd.ntmps83
  go_wp2_with fail
  go_ret
  rw [← HR.out]
  exact TakeTo.opt HH.out (optB flags)
theorem take_unk7 (B g : Nat) (a : At) (l : Loc) (th flags : Int) (four : Bool) (v : Value) (w : World) (ht : Tab w) (hh : HdAt w B g a l th four) (_ : 0 ≤ flags) (_ : flags ≤ 255) :
    Calls Tryd.prog 83 #[.pointer (some ⟨g, 0, none⟩), .int .i64 flags, .int .i64 7, v] w fun e w' => TakeTo w w' B g four (if optB flags then some (a, th) else none) e := by
  have HH := Lib.hid hh
  have c0 : w.cell? ⟨0, 7, none⟩ = some (.int .i64 0) := ht 7 (by omega)
  obtain ⟨r, hr⟩ : ∃ r, (if optB flags then some (a, th) else none) = r := ⟨_, rfl⟩
  rw [hr]
  have HR := Lib.hid hr
  clear hh ht hr
  go_enter Tryd.func83, Tryd.ntmps83
  go_wp2_with fail
  go_ret
  rw [← HR.out]
  exact TakeTo.opt HH.out (optB flags)

theorem take_seen1 (B g : Nat) (a : At) (l : Loc) (th flags : Int) (four : Bool) (v : Value) (w : World) (ht : Tab w) (hh : HdAt w B g a l th four) (_ : 0 ≤ th) (_ : th < 512) (hs : seenB th 1 = true) :
    Calls Tryd.prog 83 #[.pointer (some ⟨g, 0, none⟩), .int .i64 flags, .int .i64 1, v] w fun e w' => TakeTo w w' B g four (some (a, th)) e := by
  have HH := Lib.hid hh
  have c0 : w.cell? ⟨0, 1, none⟩ = some (.int .i64 64) := ht 1 (by omega)
  have c6 := hh.blk.cell 6 (by simp [hdL])
  simp only [hdL, List.getD_cons_zero, List.getD_cons_succ] at c6
  have hs' : (bits BinOp.and IntKind.u64 (th / 2) 1 != 0) = true := hs
  clear hh ht hs
  go_enter Tryd.func83, Tryd.ntmps83
  go_wp2_with fail
  go_ret
  exact TakeTo.opt HH.out true
theorem take_base1 (B g : Nat) (a : At) (l : Loc) (th flags : Int) (four : Bool) (v : Value) (w : World) (ht : Tab w) (hh : HdAt w B g a l th four) (hg0 : 0 ≠ g) (_ : 0 ≤ th) (_ : th < 512) (_ : 0 ≤ flags) (_ : flags ≤ 255) (hs : seenB th 1 = false) (hb : baseV flags ≠ 64) :
    Calls Tryd.prog 83 #[.pointer (some ⟨g, 0, none⟩), .int .i64 flags, .int .i64 1, v] w fun e w' => TakeTo w w' B g four none e := by
  have c0 : w.cell? ⟨0, 1, none⟩ = some (.int .i64 64) := ht 1 (by omega)
  have c6 := hh.blk.cell 6 (by simp [hdL])
  have f6 := hh.blk.f 6
  simp only [hdL, List.getD_cons_zero, List.getD_cons_succ] at c6
  have hs' : (bits BinOp.and IntKind.u64 (th / 2) 1 != 0) = false := hs
  have hb' : (bits BinOp.andNot IntKind.i64 flags 31 == 64) = false := by simpa [baseV] using hb
  have c1 : (w.setCell ⟨g, 6, none⟩ (.int .u64 (bits BinOp.or IntKind.u64 th 2))).cell? ⟨0, 1, none⟩ = some (.int .i64 64) := by
    rw [World.cell?_setCell_other _ _ _ _ (by intro e; exact hg0 (congrArg Addr.block e).symm)]; exact c0
  clear hh ht hs hb
  go_enter Tryd.func83, Tryd.ntmps83
  go_wp2_with fail
  go_region
  all_goals
    go_wp2_with fail
    go_ret
    exact ⟨rfl, gb_trans (gb_set _ ⟨g, 6, none⟩ _) (gb_below (Below.refl _ _).drew)⟩
theorem take_read1 (B g : Nat) (a : At) (l : Loc) (th flags : Int) (four : Bool) (p : Option Addr) (xs : List Int) (n c : Nat) (w : World) (ht : Tab w) (hh : HdAt w B g a l th four) (hBw : B ≤ w.heap.size) (hg0 : 0 ≠ g) (hx : ∀ u, w.grownBy u (some g) → BytesAt u p xs) (hn : xs.length = n) (hl : n ≤ 1000000) (_ : 0 ≤ th) (_ : th < 512) (_ : 0 ≤ flags) (_ : flags ≤ 255) (hs : seenB th 1 = false) (hb : baseV flags = 64) :
    Calls Tryd.prog 83 #[.pointer (some ⟨g, 0, none⟩), .int .i64 flags, .int .i64 1, .slice p n c] w fun e w' => TakeTo w w' B g four ((readV four a 1 xs).map (fun a => (a, setT th 1))) e := by
  have c0 : w.cell? ⟨0, 1, none⟩ = some (.int .i64 64) := ht 1 (by omega)
  have c6 := hh.blk.cell 6 (by simp [hdL])
  have f6 := hh.blk.f 6
  simp only [hdL, List.getD_cons_zero, List.getD_cons_succ] at c6
  have hs' : (bits BinOp.and IntKind.u64 (th / 2) 1 != 0) = false := hs
  have hb' : (bits BinOp.andNot IntKind.i64 flags 31 == 64) = true := by simpa [baseV] using hb
  have c1 : (w.setCell ⟨g, 6, none⟩ (.int .u64 (bits BinOp.or IntKind.u64 th 2))).cell? ⟨0, 1, none⟩ = some (.int .i64 64) := by
    rw [World.cell?_setCell_other _ _ _ _ (by intro e; exact hg0 (congrArg Addr.block e).symm)]; exact c0
  have hgb := gb_trans (gb_set w ⟨g, 6, none⟩ (.int .u64 (bits BinOp.or IntKind.u64 th 2))) (gb_below (r := some g) (Below.refl _ _).drew)
  have hpp := hd_path hh hgb
  have HGB := Lib.hid hgb
  have HRD := Lib.hid (read_any B g a l (setT th 1) four 1 p xs n c (w.setCell ⟨g, 6, none⟩ (.int .u64 (bits BinOp.or IntKind.u64 th 2))).drew ⟨(hh.blk.set 6 _).drew, hpp.1, hpp.2, hh.n0, hh.n1⟩ (by simpa [World.setCell] using hBw) (hx _ hgb) hn hl (by omega))
  obtain ⟨r, hr⟩ : ∃ r, readV four a 1 xs = r := ⟨_, rfl⟩
  rw [hr] at HRD ⊢
  clear hh ht hs hb hr hx hpp hgb
  go_enter Tryd.func83, Tryd.ntmps83
  go_wp2_with fail
  go_region
  all_goals
    cases r
    · go_wp2_with (go_at_call 94; refine HRD.out.mono ?_; rintro e w1 ⟨rfl, hg⟩)
      go_ret
      exact ⟨rfl, gb_trans HGB.out hg⟩
    · go_wp2_with (go_at_call 94; refine HRD.out.mono ?_; rintro e w1 ⟨⟨l1, rfl, h1⟩, hg⟩)
      go_ret
      exact ⟨⟨l1, rfl, h1⟩, gb_trans HGB.out hg⟩

theorem take_seen2 (B g : Nat) (a : At) (l : Loc) (th flags : Int) (four : Bool) (v : Value) (w : World) (ht : Tab w) (hh : HdAt w B g a l th four) (_ : 0 ≤ th) (_ : th < 512) (hs : seenB th 2 = true) :
    Calls Tryd.prog 83 #[.pointer (some ⟨g, 0, none⟩), .int .i64 flags, .int .i64 2, v] w fun e w' => TakeTo w w' B g four (some (a, th)) e := by
  have HH := Lib.hid hh
  have c0 : w.cell? ⟨0, 2, none⟩ = some (.int .i64 64) := ht 2 (by omega)
  have c6 := hh.blk.cell 6 (by simp [hdL])
  simp only [hdL, List.getD_cons_zero, List.getD_cons_succ] at c6
  have hs' : (bits BinOp.and IntKind.u64 (th / 4) 1 != 0) = true := hs
  clear hh ht hs
  go_enter Tryd.func83, Tryd.ntmps83
  go_wp2_with fail
  go_ret
  exact TakeTo.opt HH.out true
theorem take_base2 (B g : Nat) (a : At) (l : Loc) (th flags : Int) (four : Bool) (v : Value) (w : World) (ht : Tab w) (hh : HdAt w B g a l th four) (hg0 : 0 ≠ g) (_ : 0 ≤ th) (_ : th < 512) (_ : 0 ≤ flags) (_ : flags ≤ 255) (hs : seenB th 2 = false) (hb : baseV flags ≠ 64) :
    Calls Tryd.prog 83 #[.pointer (some ⟨g, 0, none⟩), .int .i64 flags, .int .i64 2, v] w fun e w' => TakeTo w w' B g four none e := by
  have c0 : w.cell? ⟨0, 2, none⟩ = some (.int .i64 64) := ht 2 (by omega)
  have c6 := hh.blk.cell 6 (by simp [hdL])
  have f6 := hh.blk.f 6
  simp only [hdL, List.getD_cons_zero, List.getD_cons_succ] at c6
  have hs' : (bits BinOp.and IntKind.u64 (th / 4) 1 != 0) = false := hs
  have hb' : (bits BinOp.andNot IntKind.i64 flags 31 == 64) = false := by simpa [baseV] using hb
  have c1 : (w.setCell ⟨g, 6, none⟩ (.int .u64 (bits BinOp.or IntKind.u64 th 4))).cell? ⟨0, 2, none⟩ = some (.int .i64 64) := by
    rw [World.cell?_setCell_other _ _ _ _ (by intro e; exact hg0 (congrArg Addr.block e).symm)]; exact c0
  clear hh ht hs hb
  go_enter Tryd.func83, Tryd.ntmps83
  go_wp2_with fail
  go_region
  all_goals
    go_wp2_with fail
    go_ret
    exact ⟨rfl, gb_trans (gb_set _ ⟨g, 6, none⟩ _) (gb_below (Below.refl _ _).drew)⟩
theorem take_read2 (B g : Nat) (a : At) (l : Loc) (th flags : Int) (four : Bool) (p : Option Addr) (xs : List Int) (n c : Nat) (w : World) (ht : Tab w) (hh : HdAt w B g a l th four) (hBw : B ≤ w.heap.size) (hg0 : 0 ≠ g) (hx : ∀ u, w.grownBy u (some g) → BytesAt u p xs) (hn : xs.length = n) (hl : n ≤ 1000000) (_ : 0 ≤ th) (_ : th < 512) (_ : 0 ≤ flags) (_ : flags ≤ 255) (hs : seenB th 2 = false) (hb : baseV flags = 64) :
    Calls Tryd.prog 83 #[.pointer (some ⟨g, 0, none⟩), .int .i64 flags, .int .i64 2, .slice p n c] w fun e w' => TakeTo w w' B g four ((readV four a 2 xs).map (fun a => (a, setT th 2))) e := by
  have c0 : w.cell? ⟨0, 2, none⟩ = some (.int .i64 64) := ht 2 (by omega)
  have c6 := hh.blk.cell 6 (by simp [hdL])
  have f6 := hh.blk.f 6
  simp only [hdL, List.getD_cons_zero, List.getD_cons_succ] at c6
  have hs' : (bits BinOp.and IntKind.u64 (th / 4) 1 != 0) = false := hs
  have hb' : (bits BinOp.andNot IntKind.i64 flags 31 == 64) = true := by simpa [baseV] using hb
  have c1 : (w.setCell ⟨g, 6, none⟩ (.int .u64 (bits BinOp.or IntKind.u64 th 4))).cell? ⟨0, 2, none⟩ = some (.int .i64 64) := by
    rw [World.cell?_setCell_other _ _ _ _ (by intro e; exact hg0 (congrArg Addr.block e).symm)]; exact c0
  have hgb := gb_trans (gb_set w ⟨g, 6, none⟩ (.int .u64 (bits BinOp.or IntKind.u64 th 4))) (gb_below (r := some g) (Below.refl _ _).drew)
  have hpp := hd_path hh hgb
  have HGB := Lib.hid hgb
  have HRD := Lib.hid (read_any B g a l (setT th 2) four 2 p xs n c (w.setCell ⟨g, 6, none⟩ (.int .u64 (bits BinOp.or IntKind.u64 th 4))).drew ⟨(hh.blk.set 6 _).drew, hpp.1, hpp.2, hh.n0, hh.n1⟩ (by simpa [World.setCell] using hBw) (hx _ hgb) hn hl (by omega))
  obtain ⟨r, hr⟩ : ∃ r, readV four a 2 xs = r := ⟨_, rfl⟩
  rw [hr] at HRD ⊢
  clear hh ht hs hb hr hx hpp hgb
  go_enter Tryd.func83, Tryd.ntmps83
  go_wp2_with fail
  go_region
  all_goals
    cases r
    · go_wp2_with (go_at_call 94; refine HRD.out.mono ?_; rintro e w1 ⟨rfl, hg⟩)
      go_ret
      exact ⟨rfl, gb_trans HGB.out hg⟩
    · go_wp2_with (go_at_call 94; refine HRD.out.mono ?_; rintro e w1 ⟨⟨l1, rfl, h1⟩, hg⟩)
      go_ret
      exact ⟨⟨l1, rfl, h1⟩, gb_trans HGB.out hg⟩

theorem take_seen3 (B g : Nat) (a : At) (l : Loc) (th flags : Int) (four : Bool) (v : Value) (w : World) (ht : Tab w) (hh : HdAt w B g a l th four) (_ : 0 ≤ th) (_ : th < 512) (hs : seenB th 3 = true) :
    Calls Tryd.prog 83 #[.pointer (some ⟨g, 0, none⟩), .int .i64 flags, .int .i64 3, v] w fun e w' => TakeTo w w' B g four (some (a, th)) e := by
  have HH := Lib.hid hh
  have c0 : w.cell? ⟨0, 3, none⟩ = some (.int .i64 64) := ht 3 (by omega)
  have c6 := hh.blk.cell 6 (by simp [hdL])
  simp only [hdL, List.getD_cons_zero, List.getD_cons_succ] at c6
  have hs' : (bits BinOp.and IntKind.u64 (th / 8) 1 != 0) = true := hs
  clear hh ht hs
  go_enter Tryd.func83, Tryd.ntmps83
  go_wp2_with fail
  go_ret
  exact TakeTo.opt HH.out true
theorem take_base3 (B g : Nat) (a : At) (l : Loc) (th flags : Int) (four : Bool) (v : Value) (w : World) (ht : Tab w) (hh : HdAt w B g a l th four) (hg0 : 0 ≠ g) (_ : 0 ≤ th) (_ : th < 512) (_ : 0 ≤ flags) (_ : flags ≤ 255) (hs : seenB th 3 = false) (hb : baseV flags ≠ 64) :
    Calls Tryd.prog 83 #[.pointer (some ⟨g, 0, none⟩), .int .i64 flags, .int .i64 3, v] w fun e w' => TakeTo w w' B g four none e := by
  have c0 : w.cell? ⟨0, 3, none⟩ = some (.int .i64 64) := ht 3 (by omega)
  have c6 := hh.blk.cell 6 (by simp [hdL])
  have f6 := hh.blk.f 6
  simp only [hdL, List.getD_cons_zero, List.getD_cons_succ] at c6
  have hs' : (bits BinOp.and IntKind.u64 (th / 8) 1 != 0) = false := hs
  have hb' : (bits BinOp.andNot IntKind.i64 flags 31 == 64) = false := by simpa [baseV] using hb
  have c1 : (w.setCell ⟨g, 6, none⟩ (.int .u64 (bits BinOp.or IntKind.u64 th 8))).cell? ⟨0, 3, none⟩ = some (.int .i64 64) := by
    rw [World.cell?_setCell_other _ _ _ _ (by intro e; exact hg0 (congrArg Addr.block e).symm)]; exact c0
  clear hh ht hs hb
  go_enter Tryd.func83, Tryd.ntmps83
  go_wp2_with fail
  go_region
  all_goals
    go_wp2_with fail
    go_ret
    exact ⟨rfl, gb_trans (gb_set _ ⟨g, 6, none⟩ _) (gb_below (Below.refl _ _).drew)⟩
theorem take_read3 (B g : Nat) (a : At) (l : Loc) (th flags : Int) (four : Bool) (p : Option Addr) (xs : List Int) (n c : Nat) (w : World) (ht : Tab w) (hh : HdAt w B g a l th four) (hBw : B ≤ w.heap.size) (hg0 : 0 ≠ g) (hx : ∀ u, w.grownBy u (some g) → BytesAt u p xs) (hn : xs.length = n) (hl : n ≤ 1000000) (_ : 0 ≤ th) (_ : th < 512) (_ : 0 ≤ flags) (_ : flags ≤ 255) (hs : seenB th 3 = false) (hb : baseV flags = 64) :
    Calls Tryd.prog 83 #[.pointer (some ⟨g, 0, none⟩), .int .i64 flags, .int .i64 3, .slice p n c] w fun e w' => TakeTo w w' B g four ((readV four a 3 xs).map (fun a => (a, setT th 3))) e := by
  have c0 : w.cell? ⟨0, 3, none⟩ = some (.int .i64 64) := ht 3 (by omega)
  have c6 := hh.blk.cell 6 (by simp [hdL])
  have f6 := hh.blk.f 6
  simp only [hdL, List.getD_cons_zero, List.getD_cons_succ] at c6
  have hs' : (bits BinOp.and IntKind.u64 (th / 8) 1 != 0) = false := hs
  have hb' : (bits BinOp.andNot IntKind.i64 flags 31 == 64) = true := by simpa [baseV] using hb
  have c1 : (w.setCell ⟨g, 6, none⟩ (.int .u64 (bits BinOp.or IntKind.u64 th 8))).cell? ⟨0, 3, none⟩ = some (.int .i64 64) := by
    rw [World.cell?_setCell_other _ _ _ _ (by intro e; exact hg0 (congrArg Addr.block e).symm)]; exact c0
  have hgb := gb_trans (gb_set w ⟨g, 6, none⟩ (.int .u64 (bits BinOp.or IntKind.u64 th 8))) (gb_below (r := some g) (Below.refl _ _).drew)
  have hpp := hd_path hh hgb
  have HGB := Lib.hid hgb
  have HRD := Lib.hid (read_any B g a l (setT th 3) four 3 p xs n c (w.setCell ⟨g, 6, none⟩ (.int .u64 (bits BinOp.or IntKind.u64 th 8))).drew ⟨(hh.blk.set 6 _).drew, hpp.1, hpp.2, hh.n0, hh.n1⟩ (by simpa [World.setCell] using hBw) (hx _ hgb) hn hl (by omega))
  obtain ⟨r, hr⟩ : ∃ r, readV four a 3 xs = r := ⟨_, rfl⟩
  rw [hr] at HRD ⊢
  clear hh ht hs hb hr hx hpp hgb
  go_enter Tryd.func83, Tryd.ntmps83
  go_wp2_with fail
  go_region
  all_goals
    cases r
    · go_wp2_with (go_at_call 94; refine HRD.out.mono ?_; rintro e w1 ⟨rfl, hg⟩)
      go_ret
      exact ⟨rfl, gb_trans HGB.out hg⟩
    · go_wp2_with (go_at_call 94; refine HRD.out.mono ?_; rintro e w1 ⟨⟨l1, rfl, h1⟩, hg⟩)
      go_ret
      exact ⟨⟨l1, rfl, h1⟩, gb_trans HGB.out hg⟩

theorem take_seen4 (B g : Nat) (a : At) (l : Loc) (th flags : Int) (four : Bool) (v : Value) (w : World) (ht : Tab w) (hh : HdAt w B g a l th four) (_ : 0 ≤ th) (_ : th < 512) (hs : seenB th 4 = true) :
    Calls Tryd.prog 83 #[.pointer (some ⟨g, 0, none⟩), .int .i64 flags, .int .i64 4, v] w fun e w' => TakeTo w w' B g four (some (a, th)) e := by
  have HH := Lib.hid hh
  have c0 : w.cell? ⟨0, 4, none⟩ = some (.int .i64 128) := ht 4 (by omega)
  have c6 := hh.blk.cell 6 (by simp [hdL])
  simp only [hdL, List.getD_cons_zero, List.getD_cons_succ] at c6
  have hs' : (bits BinOp.and IntKind.u64 (th / 16) 1 != 0) = true := hs
  clear hh ht hs
  go_enter Tryd.func83, Tryd.ntmps83
  go_wp2_with fail
  go_ret
  exact TakeTo.opt HH.out true
theorem take_base4 (B g : Nat) (a : At) (l : Loc) (th flags : Int) (four : Bool) (v : Value) (w : World) (ht : Tab w) (hh : HdAt w B g a l th four) (hg0 : 0 ≠ g) (_ : 0 ≤ th) (_ : th < 512) (_ : 0 ≤ flags) (_ : flags ≤ 255) (hs : seenB th 4 = false) (hb : baseV flags ≠ 128) :
    Calls Tryd.prog 83 #[.pointer (some ⟨g, 0, none⟩), .int .i64 flags, .int .i64 4, v] w fun e w' => TakeTo w w' B g four none e := by
  have c0 : w.cell? ⟨0, 4, none⟩ = some (.int .i64 128) := ht 4 (by omega)
  have c6 := hh.blk.cell 6 (by simp [hdL])
  have f6 := hh.blk.f 6
  simp only [hdL, List.getD_cons_zero, List.getD_cons_succ] at c6
  have hs' : (bits BinOp.and IntKind.u64 (th / 16) 1 != 0) = false := hs
  have hb' : (bits BinOp.andNot IntKind.i64 flags 31 == 128) = false := by simpa [baseV] using hb
  have c1 : (w.setCell ⟨g, 6, none⟩ (.int .u64 (bits BinOp.or IntKind.u64 th 16))).cell? ⟨0, 4, none⟩ = some (.int .i64 128) := by
    rw [World.cell?_setCell_other _ _ _ _ (by intro e; exact hg0 (congrArg Addr.block e).symm)]; exact c0
  clear hh ht hs hb
  go_enter Tryd.func83, Tryd.ntmps83
  go_wp2_with fail
  go_region
  all_goals
    go_wp2_with fail
    go_ret
    exact ⟨rfl, gb_trans (gb_set _ ⟨g, 6, none⟩ _) (gb_below (Below.refl _ _).drew)⟩
theorem take_read4 (B g : Nat) (a : At) (l : Loc) (th flags : Int) (four : Bool) (p : Option Addr) (xs : List Int) (n c : Nat) (w : World) (ht : Tab w) (hh : HdAt w B g a l th four) (hBw : B ≤ w.heap.size) (hg0 : 0 ≠ g) (hx : ∀ u, w.grownBy u (some g) → BytesAt u p xs) (hn : xs.length = n) (hl : n ≤ 1000000) (_ : 0 ≤ th) (_ : th < 512) (_ : 0 ≤ flags) (_ : flags ≤ 255) (hs : seenB th 4 = false) (hb : baseV flags = 128) :
    Calls Tryd.prog 83 #[.pointer (some ⟨g, 0, none⟩), .int .i64 flags, .int .i64 4, .slice p n c] w fun e w' => TakeTo w w' B g four ((readV four a 4 xs).map (fun a => (a, setT th 4))) e := by
  have c0 : w.cell? ⟨0, 4, none⟩ = some (.int .i64 128) := ht 4 (by omega)
  have c6 := hh.blk.cell 6 (by simp [hdL])
  have f6 := hh.blk.f 6
  simp only [hdL, List.getD_cons_zero, List.getD_cons_succ] at c6
  have hs' : (bits BinOp.and IntKind.u64 (th / 16) 1 != 0) = false := hs
  have hb' : (bits BinOp.andNot IntKind.i64 flags 31 == 128) = true := by simpa [baseV] using hb
  have c1 : (w.setCell ⟨g, 6, none⟩ (.int .u64 (bits BinOp.or IntKind.u64 th 16))).cell? ⟨0, 4, none⟩ = some (.int .i64 128) := by
    rw [World.cell?_setCell_other _ _ _ _ (by intro e; exact hg0 (congrArg Addr.block e).symm)]; exact c0
  have hgb := gb_trans (gb_set w ⟨g, 6, none⟩ (.int .u64 (bits BinOp.or IntKind.u64 th 16))) (gb_below (r := some g) (Below.refl _ _).drew)
  have hpp := hd_path hh hgb
  have HGB := Lib.hid hgb
  have HRD := Lib.hid (read_any B g a l (setT th 4) four 4 p xs n c (w.setCell ⟨g, 6, none⟩ (.int .u64 (bits BinOp.or IntKind.u64 th 16))).drew ⟨(hh.blk.set 6 _).drew, hpp.1, hpp.2, hh.n0, hh.n1⟩ (by simpa [World.setCell] using hBw) (hx _ hgb) hn hl (by omega))
  obtain ⟨r, hr⟩ : ∃ r, readV four a 4 xs = r := ⟨_, rfl⟩
  rw [hr] at HRD ⊢
  clear hh ht hs hb hr hx hpp hgb
  go_enter Tryd.func83, Tryd.ntmps83
  go_wp2_with fail
  go_region
  all_goals
    cases r
    · go_wp2_with (go_at_call 94; refine HRD.out.mono ?_; rintro e w1 ⟨rfl, hg⟩)
      go_ret
      exact ⟨rfl, gb_trans HGB.out hg⟩
    · go_wp2_with (go_at_call 94; refine HRD.out.mono ?_; rintro e w1 ⟨⟨l1, rfl, h1⟩, hg⟩)
      go_ret
      exact ⟨⟨l1, rfl, h1⟩, gb_trans HGB.out hg⟩

theorem take_seen5 (B g : Nat) (a : At) (l : Loc) (th flags : Int) (four : Bool) (v : Value) (w : World) (ht : Tab w) (hh : HdAt w B g a l th four) (_ : 0 ≤ th) (_ : th < 512) (hs : seenB th 5 = true) :
    Calls Tryd.prog 83 #[.pointer (some ⟨g, 0, none⟩), .int .i64 flags, .int .i64 5, v] w fun e w' => TakeTo w w' B g four (some (a, th)) e := by
  have HH := Lib.hid hh
  have c0 : w.cell? ⟨0, 5, none⟩ = some (.int .i64 64) := ht 5 (by omega)
  have c6 := hh.blk.cell 6 (by simp [hdL])
  simp only [hdL, List.getD_cons_zero, List.getD_cons_succ] at c6
  have hs' : (bits BinOp.and IntKind.u64 (th / 32) 1 != 0) = true := hs
  clear hh ht hs
  go_enter Tryd.func83, Tryd.ntmps83
  go_wp2_with fail
  go_ret
  exact TakeTo.opt HH.out true
theorem take_base5 (B g : Nat) (a : At) (l : Loc) (th flags : Int) (four : Bool) (v : Value) (w : World) (ht : Tab w) (hh : HdAt w B g a l th four) (hg0 : 0 ≠ g) (_ : 0 ≤ th) (_ : th < 512) (_ : 0 ≤ flags) (_ : flags ≤ 255) (hs : seenB th 5 = false) (hb : baseV flags ≠ 64) :
    Calls Tryd.prog 83 #[.pointer (some ⟨g, 0, none⟩), .int .i64 flags, .int .i64 5, v] w fun e w' => TakeTo w w' B g four none e := by
  have c0 : w.cell? ⟨0, 5, none⟩ = some (.int .i64 64) := ht 5 (by omega)
  have c6 := hh.blk.cell 6 (by simp [hdL])
  have f6 := hh.blk.f 6
  simp only [hdL, List.getD_cons_zero, List.getD_cons_succ] at c6
  have hs' : (bits BinOp.and IntKind.u64 (th / 32) 1 != 0) = false := hs
  have hb' : (bits BinOp.andNot IntKind.i64 flags 31 == 64) = false := by simpa [baseV] using hb
  have c1 : (w.setCell ⟨g, 6, none⟩ (.int .u64 (bits BinOp.or IntKind.u64 th 32))).cell? ⟨0, 5, none⟩ = some (.int .i64 64) := by
    rw [World.cell?_setCell_other _ _ _ _ (by intro e; exact hg0 (congrArg Addr.block e).symm)]; exact c0
  clear hh ht hs hb
  go_enter Tryd.func83, Tryd.ntmps83
  go_wp2_with fail
  go_region
  all_goals
    go_wp2_with fail
    go_ret
    exact ⟨rfl, gb_trans (gb_set _ ⟨g, 6, none⟩ _) (gb_below (Below.refl _ _).drew)⟩
theorem take_read5 (B g : Nat) (a : At) (l : Loc) (th flags : Int) (four : Bool) (p : Option Addr) (xs : List Int) (n c : Nat) (w : World) (ht : Tab w) (hh : HdAt w B g a l th four) (hBw : B ≤ w.heap.size) (hg0 : 0 ≠ g) (hx : ∀ u, w.grownBy u (some g) → BytesAt u p xs) (hn : xs.length = n) (hl : n ≤ 1000000) (_ : 0 ≤ th) (_ : th < 512) (_ : 0 ≤ flags) (_ : flags ≤ 255) (hs : seenB th 5 = false) (hb : baseV flags = 64) :
    Calls Tryd.prog 83 #[.pointer (some ⟨g, 0, none⟩), .int .i64 flags, .int .i64 5, .slice p n c] w fun e w' => TakeTo w w' B g four ((readV four a 5 xs).map (fun a => (a, setT th 5))) e := by
  have c0 : w.cell? ⟨0, 5, none⟩ = some (.int .i64 64) := ht 5 (by omega)
  have c6 := hh.blk.cell 6 (by simp [hdL])
  have f6 := hh.blk.f 6
  simp only [hdL, List.getD_cons_zero, List.getD_cons_succ] at c6
  have hs' : (bits BinOp.and IntKind.u64 (th / 32) 1 != 0) = false := hs
  have hb' : (bits BinOp.andNot IntKind.i64 flags 31 == 64) = true := by simpa [baseV] using hb
  have c1 : (w.setCell ⟨g, 6, none⟩ (.int .u64 (bits BinOp.or IntKind.u64 th 32))).cell? ⟨0, 5, none⟩ = some (.int .i64 64) := by
    rw [World.cell?_setCell_other _ _ _ _ (by intro e; exact hg0 (congrArg Addr.block e).symm)]; exact c0
  have hgb := gb_trans (gb_set w ⟨g, 6, none⟩ (.int .u64 (bits BinOp.or IntKind.u64 th 32))) (gb_below (r := some g) (Below.refl _ _).drew)
  have hpp := hd_path hh hgb
  have HGB := Lib.hid hgb
  have HRD := Lib.hid (read_any B g a l (setT th 5) four 5 p xs n c (w.setCell ⟨g, 6, none⟩ (.int .u64 (bits BinOp.or IntKind.u64 th 32))).drew ⟨(hh.blk.set 6 _).drew, hpp.1, hpp.2, hh.n0, hh.n1⟩ (by simpa [World.setCell] using hBw) (hx _ hgb) hn hl (by omega))
  obtain ⟨r, hr⟩ : ∃ r, readV four a 5 xs = r := ⟨_, rfl⟩
  rw [hr] at HRD ⊢
  clear hh ht hs hb hr hx hpp hgb
  go_enter Tryd.func83, Tryd.ntmps83
  go_wp2_with fail
  go_region
  all_goals
    cases r
    · go_wp2_with (go_at_call 94; refine HRD.out.mono ?_; rintro e w1 ⟨rfl, hg⟩)
      go_ret
      exact ⟨rfl, gb_trans HGB.out hg⟩
    · go_wp2_with (go_at_call 94; refine HRD.out.mono ?_; rintro e w1 ⟨⟨l1, rfl, h1⟩, hg⟩)
      go_ret
      exact ⟨⟨l1, rfl, h1⟩, gb_trans HGB.out hg⟩

theorem take_seen8 (B g : Nat) (a : At) (l : Loc) (th flags : Int) (four : Bool) (v : Value) (w : World) (ht : Tab w) (hh : HdAt w B g a l th four) (_ : 0 ≤ th) (_ : th < 512) (hs : seenB th 8 = true) :
    Calls Tryd.prog 83 #[.pointer (some ⟨g, 0, none⟩), .int .i64 flags, .int .i64 8, v] w fun e w' => TakeTo w w' B g four (some (a, th)) e := by
  have HH := Lib.hid hh
  have c0 : w.cell? ⟨0, 8, none⟩ = some (.int .i64 192) := ht 8 (by omega)
  have c6 := hh.blk.cell 6 (by simp [hdL])
  simp only [hdL, List.getD_cons_zero, List.getD_cons_succ] at c6
  have hs' : (bits BinOp.and IntKind.u64 (th / 256) 1 != 0) = true := hs
  clear hh ht hs
  go_enter Tryd.func83, Tryd.ntmps83
  go_wp2_with fail
  go_ret
  exact TakeTo.opt HH.out true
theorem take_base8 (B g : Nat) (a : At) (l : Loc) (th flags : Int) (four : Bool) (v : Value) (w : World) (ht : Tab w) (hh : HdAt w B g a l th four) (hg0 : 0 ≠ g) (_ : 0 ≤ th) (_ : th < 512) (_ : 0 ≤ flags) (_ : flags ≤ 255) (hs : seenB th 8 = false) (hb : baseV flags ≠ 192) :
    Calls Tryd.prog 83 #[.pointer (some ⟨g, 0, none⟩), .int .i64 flags, .int .i64 8, v] w fun e w' => TakeTo w w' B g four none e := by
  have c0 : w.cell? ⟨0, 8, none⟩ = some (.int .i64 192) := ht 8 (by omega)
  have c6 := hh.blk.cell 6 (by simp [hdL])
  have f6 := hh.blk.f 6
  simp only [hdL, List.getD_cons_zero, List.getD_cons_succ] at c6
  have hs' : (bits BinOp.and IntKind.u64 (th / 256) 1 != 0) = false := hs
  have hb' : (bits BinOp.andNot IntKind.i64 flags 31 == 192) = false := by simpa [baseV] using hb
  have c1 : (w.setCell ⟨g, 6, none⟩ (.int .u64 (bits BinOp.or IntKind.u64 th 256))).cell? ⟨0, 8, none⟩ = some (.int .i64 192) := by
    rw [World.cell?_setCell_other _ _ _ _ (by intro e; exact hg0 (congrArg Addr.block e).symm)]; exact c0
  clear hh ht hs hb
  go_enter Tryd.func83, Tryd.ntmps83
  go_wp2_with fail
  go_region
  all_goals
    go_wp2_with fail
    go_ret
    exact ⟨rfl, gb_trans (gb_set _ ⟨g, 6, none⟩ _) (gb_below (Below.refl _ _).drew)⟩
theorem take_read8 (B g : Nat) (a : At) (l : Loc) (th flags : Int) (four : Bool) (p : Option Addr) (xs : List Int) (n c : Nat) (w : World) (ht : Tab w) (hh : HdAt w B g a l th four) (hBw : B ≤ w.heap.size) (hg0 : 0 ≠ g) (hx : ∀ u, w.grownBy u (some g) → BytesAt u p xs) (hn : xs.length = n) (hl : n ≤ 1000000) (_ : 0 ≤ th) (_ : th < 512) (_ : 0 ≤ flags) (_ : flags ≤ 255) (hs : seenB th 8 = false) (hb : baseV flags = 192) :
    Calls Tryd.prog 83 #[.pointer (some ⟨g, 0, none⟩), .int .i64 flags, .int .i64 8, .slice p n c] w fun e w' => TakeTo w w' B g four ((readV four a 8 xs).map (fun a => (a, setT th 8))) e := by
  have c0 : w.cell? ⟨0, 8, none⟩ = some (.int .i64 192) := ht 8 (by omega)
  have c6 := hh.blk.cell 6 (by simp [hdL])
  have f6 := hh.blk.f 6
  simp only [hdL, List.getD_cons_zero, List.getD_cons_succ] at c6
  have hs' : (bits BinOp.and IntKind.u64 (th / 256) 1 != 0) = false := hs
  have hb' : (bits BinOp.andNot IntKind.i64 flags 31 == 192) = true := by simpa [baseV] using hb
  have c1 : (w.setCell ⟨g, 6, none⟩ (.int .u64 (bits BinOp.or IntKind.u64 th 256))).cell? ⟨0, 8, none⟩ = some (.int .i64 192) := by
    rw [World.cell?_setCell_other _ _ _ _ (by intro e; exact hg0 (congrArg Addr.block e).symm)]; exact c0
  have hgb := gb_trans (gb_set w ⟨g, 6, none⟩ (.int .u64 (bits BinOp.or IntKind.u64 th 256))) (gb_below (r := some g) (Below.refl _ _).drew)
  have hpp := hd_path hh hgb
  have HGB := Lib.hid hgb
  have HRD := Lib.hid (read_any B g a l (setT th 8) four 8 p xs n c (w.setCell ⟨g, 6, none⟩ (.int .u64 (bits BinOp.or IntKind.u64 th 256))).drew ⟨(hh.blk.set 6 _).drew, hpp.1, hpp.2, hh.n0, hh.n1⟩ (by simpa [World.setCell] using hBw) (hx _ hgb) hn hl (by omega))
  obtain ⟨r, hr⟩ : ∃ r, readV four a 8 xs = r := ⟨_, rfl⟩
  rw [hr] at HRD ⊢
  clear hh ht hs hb hr hx hpp hgb
  go_enter Tryd.func83, Tryd.ntmps83
  go_wp2_with fail
  go_region
  all_goals
    cases r
    · go_wp2_with (go_at_call 94; refine HRD.out.mono ?_; rintro e w1 ⟨rfl, hg⟩)
      go_ret
      exact ⟨rfl, gb_trans HGB.out hg⟩
    · go_wp2_with (go_at_call 94; refine HRD.out.mono ?_; rintro e w1 ⟨⟨l1, rfl, h1⟩, hg⟩)
      go_ret
      exact ⟨⟨l1, rfl, h1⟩, gb_trans HGB.out hg⟩
end Go.Proofs.YtpeagakpmjnelaaDoor.Ax
