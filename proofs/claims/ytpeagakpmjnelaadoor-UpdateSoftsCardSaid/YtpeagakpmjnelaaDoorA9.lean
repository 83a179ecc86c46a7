/- attr: read. -/
import Derived.Test.YtpeagakpmjnelaaDoorA8
namespace Go.Proofs.YtpeagakpmjnelaaDoor.Ax
open Go.RowKit
set_option maxRecDepth 100000

def hdL (a : At) (l : Loc) (th : Int) (four : Bool) : List Value := [.int .i64 a.origin, .slice l.pp l.pn l.pc, .int .u32 a.next, .int .i64 a.med, .int .i64 a.pref, .slice l.cp l.cn l.cc, .int .u64 th, .bool four]
/-- What is heard so far lies in block g, its lists in blocks from B on. -/
structure HdAt (w : World) (B g : Nat) (a : At) (l : Loc) (th : Int) (four : Bool) : Prop where
  blk : Blk w g 130 (hdL a l th four)
  path : PathOwn w B l.pp l.pn l.pc a.path
  comms : w.ownsRow B 3 1 (.slice l.cp l.cn l.cc) l.cn (a.comms.map (Value.int .i64))
  n0 : 0 ≤ a.next
  n1 : a.next ≤ 4294967295
theorem HdAt.next {w w' : World} {B g : Nat} {a : At} {l : Loc} {th : Int} {four : Bool} (h : HdAt w B g a l th four) (hb : Below w.heap.size w w') : HdAt w' B g a l th four :=
  ⟨h.blk.next hb, h.path.below hb, row_below h.comms hb, h.n0, h.n1⟩
theorem hd_path {w w' : World} {B g : Nat} {a : At} {l : Loc} {th : Int} {four : Bool} (h : HdAt w B g a l th four) (hg : w.grownBy w' (some g)) : PathOwn w' B l.pp l.pn l.pc a.path ∧ w'.ownsRow B 3 1 (.slice l.cp l.cn l.cc) l.cn (a.comms.map (Value.int .i64)) :=
  ⟨h.path.past h.blk (by decide) (by decide) hg, row_past h.comms h.blk (by decide) hg⟩
/-- One attribute's data, of a type that is known; none: they may not be. -/
def readV (four : Bool) (a : At) (k : Nat) (xs : List Int) : Option At :=
  if k = 1 then (if xs.length = 1 ∧ oddB 0 2 (getV xs) = false then some { a with origin := getV xs } else none)
  else if k = 2 then (match pathG (wideA four) (xs.length + 1) xs with
    | some l => if okPath l four then some { a with path := l } else none
    | none => none)
  else if k = 3 then (if xs.length = 4 ∧ getV xs ≠ 0 then some { a with next := getV xs } else none)
  else if k = 4 then (if xs.length = 4 then some { a with med := getV xs } else none)
  else if k = 5 then (if xs.length = 4 then some { a with pref := getV xs } else none)
  else (if (listV (xs.length + 1) 4 xs).2 = true ∧ 0 < (listV (xs.length + 1) 4 xs).1.length ∧ okComms (listV (xs.length + 1) 4 xs).1 = true then some { a with comms := (listV (xs.length + 1) 4 xs).1 } else none)
theorem readV_1 (four : Bool) (a : At) (xs : List Int) : readV four a 1 xs = if xs.length = 1 ∧ oddB 0 2 (getV xs) = false then some { a with origin := getV xs } else none := rfl
theorem readV_3 (four : Bool) (a : At) (xs : List Int) : readV four a 3 xs = if xs.length = 4 ∧ getV xs ≠ 0 then some { a with next := getV xs } else none := rfl
theorem readV_4 (four : Bool) (a : At) (xs : List Int) : readV four a 4 xs = if xs.length = 4 then some { a with med := getV xs } else none := rfl
theorem readV_5 (four : Bool) (a : At) (xs : List Int) : readV four a 5 xs = if xs.length = 4 then some { a with pref := getV xs } else none := rfl
theorem readV_8 (four : Bool) (a : At) (xs : List Int) : readV four a 8 xs = if (listV (xs.length + 1) 4 xs).2 = true ∧ 0 < (listV (xs.length + 1) 4 xs).1.length ∧ okComms (listV (xs.length + 1) 4 xs).1 = true then some { a with comms := (listV (xs.length + 1) 4 xs).1 } else none := rfl
def ReadTo (w w' : World) (B g : Nat) (th : Int) (four : Bool) (r : Option At) (e : Ending) : Prop :=
  match r with
  | some a => (∃ l, e = .returned (.bool true) ∧ HdAt w' B g a l th four) ∧ w.grownBy w' (some g)
  | none => e = .returned (.bool false) ∧ w.grownBy w' (some g)
theorem bytes_val {w : World} {p : Option Addr} {xs : List Int} (hb : BytesAt w p xs) (k : Nat) (hk : xs.length ≤ k) (h4 : k ≤ 4) : 0 ≤ getV xs ∧ getV xs ≤ 4294967295 := by
  have := getV_bd xs hb.1 xs.length (Nat.le_refl _)
  rw [List.take_length] at this
  have hp := pow_most (k := xs.length) (by omega)
  omega

set_option maxRecDepth 100000 in
set_option maxHeartbeats 2000000 in
theorem read1_len (B g : Nat) (origin next med pref : Int) (path : List Seg) (comms : List Int) (l : Loc) (th : Int) (four : Bool) (p : Option Addr) (xs : List Int) (n c : Nat) (w : World) (hh : HdAt w B g ⟨origin, path, next, med, pref, comms⟩ l th four) (hBw : B ≤ w.heap.size) (hb : BytesAt w p xs) (hn : xs.length = n) (hl : n ≤ 1000000) (hne : n ≠ 1) :
    Calls Tryd.prog 94 #[.pointer (some ⟨g, 0, none⟩), .int .i64 1, .slice p n c] w fun e w' => ReadTo w w' B g th four (none) e := by
  have HH := Lib.hid hh
  have HN := Lib.hid hn
  have HY := Lib.hid hb
  have HBW := Lib.hid hBw
  have HLM := Lib.hid hl
  have c0 := hh.blk.cell 0 (by simp [hdL])
  have f0 := hh.blk.f 0
  simp only [hdL, List.getD_cons_zero] at c0
  have HNM := Lib.hid (number_any 1 1 rfl p xs n c w (by omega) (by omega) hb hn (by omega))
  rw [if_neg hne, show (n == 1) = false by simpa using hne] at HNM
  clear hne
  clear hh hb hn hBw
  go_enter Tryd.func94, Tryd.ntmps94
  go_wp2_with fail
  refine HNM.out.mono ?_; rintro e w1 ⟨rfl, rfl⟩
  go_wp2_with fail
  go_ret
  exact ⟨rfl, gb_set _ ⟨g, 0, none⟩ _⟩

set_option maxRecDepth 100000 in
set_option maxHeartbeats 2000000 in
theorem read1_odd (B g : Nat) (origin next med pref : Int) (path : List Seg) (comms : List Int) (l : Loc) (th : Int) (four : Bool) (p : Option Addr) (xs : List Int) (n c : Nat) (w : World) (hh : HdAt w B g ⟨origin, path, next, med, pref, comms⟩ l th four) (hBw : B ≤ w.heap.size) (hb : BytesAt w p xs) (hn : xs.length = n) (hl : n ≤ 1000000) (he : n = 1) (ho : oddB 0 2 (getV xs) = true) :
    Calls Tryd.prog 94 #[.pointer (some ⟨g, 0, none⟩), .int .i64 1, .slice p n c] w fun e w' => ReadTo w w' B g th four (none) e := by
  have HH := Lib.hid hh
  have HN := Lib.hid hn
  have HY := Lib.hid hb
  have HBW := Lib.hid hBw
  have HLM := Lib.hid hl
  have c0 := hh.blk.cell 0 (by simp [hdL])
  have f0 := hh.blk.f 0
  simp only [hdL, List.getD_cons_zero] at c0
  have HNM := Lib.hid (number_any 1 1 rfl p xs n c w (by omega) (by omega) hb hn (by omega))
  rw [if_pos he, show (n == 1) = true by simpa using he] at HNM
  have hvb := bytes_val hb 1 (by omega) (by omega)
  obtain ⟨v, hv⟩ : ∃ v, getV xs = v := ⟨_, rfl⟩
  rw [hv] at HNM hvb
  rw [hv] at ho
  have HOR := fun u : World => Lib.hid (origin_any v u)
  rw [ho] at HOR
  clear he ho hv
  clear hh hb hn hBw
  go_enter Tryd.func94, Tryd.ntmps94
  go_wp2_with fail
  refine HNM.out.mono ?_; rintro e w1 ⟨rfl, rfl⟩
  go_wp2_with fail
  have HG := Lib.hid (gb_set w ⟨g, 0, none⟩ (.int .i64 v))
  (with_reducible refine (HOR _).out.mono ?_); rintro e w2 ⟨rfl, hb2⟩
  have HB2 := Lib.hid hb2
  clear hb2
  go_wp2_with fail
  go_ret
  exact ⟨rfl, gb_trans HG.out (gb_below HB2.out)⟩

set_option maxRecDepth 100000 in
set_option maxHeartbeats 2000000 in
theorem read1_ok (B g : Nat) (origin next med pref : Int) (path : List Seg) (comms : List Int) (l : Loc) (th : Int) (four : Bool) (p : Option Addr) (xs : List Int) (n c : Nat) (w : World) (hh : HdAt w B g ⟨origin, path, next, med, pref, comms⟩ l th four) (hBw : B ≤ w.heap.size) (hb : BytesAt w p xs) (hn : xs.length = n) (hl : n ≤ 1000000) (he : n = 1) (ho : oddB 0 2 (getV xs) = false) :
    Calls Tryd.prog 94 #[.pointer (some ⟨g, 0, none⟩), .int .i64 1, .slice p n c] w fun e w' => ReadTo w w' B g th four (some ⟨getV xs, path, next, med, pref, comms⟩) e := by
  have HH := Lib.hid hh
  have HN := Lib.hid hn
  have HY := Lib.hid hb
  have HBW := Lib.hid hBw
  have HLM := Lib.hid hl
  have c0 := hh.blk.cell 0 (by simp [hdL])
  have f0 := hh.blk.f 0
  simp only [hdL, List.getD_cons_zero] at c0
  have HNM := Lib.hid (number_any 1 1 rfl p xs n c w (by omega) (by omega) hb hn (by omega))
  rw [if_pos he, show (n == 1) = true by simpa using he] at HNM
  have hvb := bytes_val hb 1 (by omega) (by omega)
  obtain ⟨v, hv⟩ : ∃ v, getV xs = v := ⟨_, rfl⟩
  rw [hv] at HNM hvb
  rw [hv] at ho ⊢
  have HOR := fun u : World => Lib.hid (origin_any v u)
  rw [ho] at HOR
  clear he ho hv
  clear hh hb hn hBw
  go_enter Tryd.func94, Tryd.ntmps94
  go_wp2_with fail
  refine HNM.out.mono ?_; rintro e w1 ⟨rfl, rfl⟩
  go_wp2_with fail
  have HG := Lib.hid (gb_set w ⟨g, 0, none⟩ (.int .i64 v))
  (with_reducible refine (HOR _).out.mono ?_); rintro e w2 ⟨rfl, hb2⟩
  have HB2 := Lib.hid hb2
  clear hb2
  go_wp2_with fail
  go_ret
  exact ⟨⟨l, rfl, HdAt.next ⟨HH.out.blk.set 0 _, (hd_path HH.out HG.out).1, (hd_path HH.out HG.out).2, HH.out.n0, HH.out.n1⟩ HB2.out⟩, gb_trans HG.out (gb_below HB2.out)⟩

set_option maxRecDepth 100000 in
set_option maxHeartbeats 2000000 in
theorem read3_len (B g : Nat) (origin next med pref : Int) (path : List Seg) (comms : List Int) (l : Loc) (th : Int) (four : Bool) (p : Option Addr) (xs : List Int) (n c : Nat) (w : World) (hh : HdAt w B g ⟨origin, path, next, med, pref, comms⟩ l th four) (hBw : B ≤ w.heap.size) (hb : BytesAt w p xs) (hn : xs.length = n) (hl : n ≤ 1000000) (hne : n ≠ 4) :
    Calls Tryd.prog 94 #[.pointer (some ⟨g, 0, none⟩), .int .i64 3, .slice p n c] w fun e w' => ReadTo w w' B g th four (none) e := by
  have HH := Lib.hid hh
  have HN := Lib.hid hn
  have HY := Lib.hid hb
  have HBW := Lib.hid hBw
  have HLM := Lib.hid hl
  have c2 := hh.blk.cell 2 (by simp [hdL])
  have f2 := hh.blk.f 2
  simp only [hdL, List.getD_cons_zero, List.getD_cons_succ] at c2
  have HNM := Lib.hid (number_any 4 4 rfl p xs n c w (by omega) (by omega) hb hn (by omega))
  rw [if_neg hne, show (n == 4) = false by simpa using hne] at HNM
  clear hne
  clear hh hb hn hBw
  go_enter Tryd.func94, Tryd.ntmps94
  go_wp2_with fail
  refine HNM.out.mono ?_; rintro e w1 ⟨rfl, rfl⟩
  go_wp2_with fail
  go_ret
  exact ⟨rfl, gb_set _ ⟨g, 2, none⟩ _⟩

set_option maxRecDepth 100000 in
set_option maxHeartbeats 2000000 in
theorem read3_zero (B g : Nat) (origin next med pref : Int) (path : List Seg) (comms : List Int) (l : Loc) (th : Int) (four : Bool) (p : Option Addr) (xs : List Int) (n c : Nat) (w : World) (hh : HdAt w B g ⟨origin, path, next, med, pref, comms⟩ l th four) (hBw : B ≤ w.heap.size) (hb : BytesAt w p xs) (hn : xs.length = n) (hl : n ≤ 1000000) (he : n = 4) (ho : getV xs = 0) :
    Calls Tryd.prog 94 #[.pointer (some ⟨g, 0, none⟩), .int .i64 3, .slice p n c] w fun e w' => ReadTo w w' B g th four (none) e := by
  have HH := Lib.hid hh
  have HN := Lib.hid hn
  have HY := Lib.hid hb
  have HBW := Lib.hid hBw
  have HLM := Lib.hid hl
  have c2 := hh.blk.cell 2 (by simp [hdL])
  have f2 := hh.blk.f 2
  simp only [hdL, List.getD_cons_zero, List.getD_cons_succ] at c2
  have HNM := Lib.hid (number_any 4 4 rfl p xs n c w (by omega) (by omega) hb hn (by omega))
  rw [if_pos he, show (n == 4) = true by simpa using he] at HNM
  have hvb := bytes_val hb 4 (by omega) (by omega)
  obtain ⟨v, hv⟩ : ∃ v, getV xs = v := ⟨_, rfl⟩
  rw [hv] at HNM hvb
  rw [hv] at ho
  subst ho
  clear he hv hvb
  clear hh hb hn hBw
  go_enter Tryd.func94, Tryd.ntmps94
  go_wp2_with fail
  refine HNM.out.mono ?_; rintro e w1 ⟨rfl, rfl⟩
  go_wp2_with fail
  go_ret
  exact ⟨rfl, gb_set _ ⟨g, 2, none⟩ _⟩

set_option maxRecDepth 100000 in
set_option maxHeartbeats 2000000 in
theorem read3_ok (B g : Nat) (origin next med pref : Int) (path : List Seg) (comms : List Int) (l : Loc) (th : Int) (four : Bool) (p : Option Addr) (xs : List Int) (n c : Nat) (w : World) (hh : HdAt w B g ⟨origin, path, next, med, pref, comms⟩ l th four) (hBw : B ≤ w.heap.size) (hb : BytesAt w p xs) (hn : xs.length = n) (hl : n ≤ 1000000) (he : n = 4) (ho : getV xs ≠ 0) :
    Calls Tryd.prog 94 #[.pointer (some ⟨g, 0, none⟩), .int .i64 3, .slice p n c] w fun e w' => ReadTo w w' B g th four (some ⟨origin, path, getV xs, med, pref, comms⟩) e := by
  have HH := Lib.hid hh
  have HN := Lib.hid hn
  have HY := Lib.hid hb
  have HBW := Lib.hid hBw
  have HLM := Lib.hid hl
  have c2 := hh.blk.cell 2 (by simp [hdL])
  have f2 := hh.blk.f 2
  simp only [hdL, List.getD_cons_zero, List.getD_cons_succ] at c2
  have HNM := Lib.hid (number_any 4 4 rfl p xs n c w (by omega) (by omega) hb hn (by omega))
  rw [if_pos he, show (n == 4) = true by simpa using he] at HNM
  have hvb := bytes_val hb 4 (by omega) (by omega)
  obtain ⟨v, hv⟩ : ∃ v, getV xs = v := ⟨_, rfl⟩
  rw [hv] at HNM hvb
  rw [hv] at ho ⊢
  have hnz : (v != 0) = true := by simpa using ho
  obtain ⟨v0, v1⟩ := hvb
  clear he ho hv
  clear hh hb hn hBw
  go_enter Tryd.func94, Tryd.ntmps94
  go_wp2_with fail
  refine HNM.out.mono ?_; rintro e w1 ⟨rfl, rfl⟩
  go_wp2_with fail
  go_ret
  have HG := gb_set w ⟨g, 2, none⟩ (.int .u32 v)
  exact ⟨⟨l, rfl, ⟨HH.out.blk.set 2 _, (hd_path HH.out HG).1, (hd_path HH.out HG).2, v0, v1⟩⟩, HG⟩

set_option maxRecDepth 100000 in
set_option maxHeartbeats 2000000 in
theorem read4_len (B g : Nat) (origin next med pref : Int) (path : List Seg) (comms : List Int) (l : Loc) (th : Int) (four : Bool) (p : Option Addr) (xs : List Int) (n c : Nat) (w : World) (hh : HdAt w B g ⟨origin, path, next, med, pref, comms⟩ l th four) (hBw : B ≤ w.heap.size) (hb : BytesAt w p xs) (hn : xs.length = n) (hl : n ≤ 1000000) (hne : n ≠ 4) :
    Calls Tryd.prog 94 #[.pointer (some ⟨g, 0, none⟩), .int .i64 4, .slice p n c] w fun e w' => ReadTo w w' B g th four (none) e := by
  have HH := Lib.hid hh
  have HN := Lib.hid hn
  have HY := Lib.hid hb
  have HBW := Lib.hid hBw
  have HLM := Lib.hid hl
  have c3 := hh.blk.cell 3 (by simp [hdL])
  have f3 := hh.blk.f 3
  simp only [hdL, List.getD_cons_zero, List.getD_cons_succ] at c3
  have HNM := Lib.hid (number_any 4 4 rfl p xs n c w (by omega) (by omega) hb hn (by omega))
  rw [if_neg hne, show (n == 4) = false by simpa using hne] at HNM
  clear hne
  clear hh hb hn hBw
  go_enter Tryd.func94, Tryd.ntmps94
  go_wp2_with fail
  refine HNM.out.mono ?_; rintro e w1 ⟨rfl, rfl⟩
  go_wp2_with fail
  go_ret
  exact ⟨rfl, gb_set _ ⟨g, 3, none⟩ _⟩

set_option maxRecDepth 100000 in
set_option maxHeartbeats 2000000 in
theorem read4_ok (B g : Nat) (origin next med pref : Int) (path : List Seg) (comms : List Int) (l : Loc) (th : Int) (four : Bool) (p : Option Addr) (xs : List Int) (n c : Nat) (w : World) (hh : HdAt w B g ⟨origin, path, next, med, pref, comms⟩ l th four) (hBw : B ≤ w.heap.size) (hb : BytesAt w p xs) (hn : xs.length = n) (hl : n ≤ 1000000) (he : n = 4)  :
    Calls Tryd.prog 94 #[.pointer (some ⟨g, 0, none⟩), .int .i64 4, .slice p n c] w fun e w' => ReadTo w w' B g th four (some ⟨origin, path, next, getV xs, pref, comms⟩) e := by
  have HH := Lib.hid hh
  have HN := Lib.hid hn
  have HY := Lib.hid hb
  have HBW := Lib.hid hBw
  have HLM := Lib.hid hl
  have c3 := hh.blk.cell 3 (by simp [hdL])
  have f3 := hh.blk.f 3
  simp only [hdL, List.getD_cons_zero, List.getD_cons_succ] at c3
  have HNM := Lib.hid (number_any 4 4 rfl p xs n c w (by omega) (by omega) hb hn (by omega))
  rw [if_pos he, show (n == 4) = true by simpa using he] at HNM
  have hvb := bytes_val hb 4 (by omega) (by omega)
  obtain ⟨v, hv⟩ : ∃ v, getV xs = v := ⟨_, rfl⟩
  rw [hv] at HNM hvb
  rw [hv]
  clear he hv hvb
  clear hh hb hn hBw
  go_enter Tryd.func94, Tryd.ntmps94
  go_wp2_with fail
  refine HNM.out.mono ?_; rintro e w1 ⟨rfl, rfl⟩
  go_wp2_with fail
  go_ret
  have HG := gb_set w ⟨g, 3, none⟩ (.int .i64 v)
  exact ⟨⟨l, rfl, ⟨HH.out.blk.set 3 _, (hd_path HH.out HG).1, (hd_path HH.out HG).2, HH.out.n0, HH.out.n1⟩⟩, HG⟩

set_option maxRecDepth 100000 in
set_option maxHeartbeats 2000000 in
theorem read5_len (B g : Nat) (origin next med pref : Int) (path : List Seg) (comms : List Int) (l : Loc) (th : Int) (four : Bool) (p : Option Addr) (xs : List Int) (n c : Nat) (w : World) (hh : HdAt w B g ⟨origin, path, next, med, pref, comms⟩ l th four) (hBw : B ≤ w.heap.size) (hb : BytesAt w p xs) (hn : xs.length = n) (hl : n ≤ 1000000) (hne : n ≠ 4) :
    Calls Tryd.prog 94 #[.pointer (some ⟨g, 0, none⟩), .int .i64 5, .slice p n c] w fun e w' => ReadTo w w' B g th four (none) e := by
  have HH := Lib.hid hh
  have HN := Lib.hid hn
  have HY := Lib.hid hb
  have HBW := Lib.hid hBw
  have HLM := Lib.hid hl
  have c4 := hh.blk.cell 4 (by simp [hdL])
  have f4 := hh.blk.f 4
  simp only [hdL, List.getD_cons_zero, List.getD_cons_succ] at c4
  have HNM := Lib.hid (number_any 4 4 rfl p xs n c w (by omega) (by omega) hb hn (by omega))
  rw [if_neg hne, show (n == 4) = false by simpa using hne] at HNM
  clear hne
  clear hh hb hn hBw
  go_enter Tryd.func94, Tryd.ntmps94
  go_wp2_with fail
  refine HNM.out.mono ?_; rintro e w1 ⟨rfl, rfl⟩
  go_wp2_with fail
  go_ret
  exact ⟨rfl, gb_set _ ⟨g, 4, none⟩ _⟩

set_option maxRecDepth 100000 in
set_option maxHeartbeats 2000000 in
theorem read5_ok (B g : Nat) (origin next med pref : Int) (path : List Seg) (comms : List Int) (l : Loc) (th : Int) (four : Bool) (p : Option Addr) (xs : List Int) (n c : Nat) (w : World) (hh : HdAt w B g ⟨origin, path, next, med, pref, comms⟩ l th four) (hBw : B ≤ w.heap.size) (hb : BytesAt w p xs) (hn : xs.length = n) (hl : n ≤ 1000000) (he : n = 4)  :
    Calls Tryd.prog 94 #[.pointer (some ⟨g, 0, none⟩), .int .i64 5, .slice p n c] w fun e w' => ReadTo w w' B g th four (some ⟨origin, path, next, med, getV xs, comms⟩) e := by
  have HH := Lib.hid hh
  have HN := Lib.hid hn
  have HY := Lib.hid hb
  have HBW := Lib.hid hBw
  have HLM := Lib.hid hl
  have c4 := hh.blk.cell 4 (by simp [hdL])
  have f4 := hh.blk.f 4
  simp only [hdL, List.getD_cons_zero, List.getD_cons_succ] at c4
  have HNM := Lib.hid (number_any 4 4 rfl p xs n c w (by omega) (by omega) hb hn (by omega))
  rw [if_pos he, show (n == 4) = true by simpa using he] at HNM
  have hvb := bytes_val hb 4 (by omega) (by omega)
  obtain ⟨v, hv⟩ : ∃ v, getV xs = v := ⟨_, rfl⟩
  rw [hv] at HNM hvb
  rw [hv]
  clear he hv hvb
  clear hh hb hn hBw
  go_enter Tryd.func94, Tryd.ntmps94
  go_wp2_with fail
  refine HNM.out.mono ?_; rintro e w1 ⟨rfl, rfl⟩
  go_wp2_with fail
  go_ret
  have HG := gb_set w ⟨g, 4, none⟩ (.int .i64 v)
  exact ⟨⟨l, rfl, ⟨HH.out.blk.set 4 _, (hd_path HH.out HG).1, (hd_path HH.out HG).2, HH.out.n0, HH.out.n1⟩⟩, HG⟩

set_option maxRecDepth 100000 in
set_option maxHeartbeats 2000000 in
theorem read8_bad (B g : Nat) (origin next med pref : Int) (path : List Seg) (comms : List Int) (l : Loc) (th : Int) (four : Bool) (p : Option Addr) (xs : List Int) (n c : Nat) (w : World) (hh : HdAt w B g ⟨origin, path, next, med, pref, comms⟩ l th four) (hBw : B ≤ w.heap.size) (hb : BytesAt w p xs) (hn : xs.length = n) (hl : n ≤ 1000000) (ho : (listV (xs.length + 1) 4 xs).2 = false) :
    Calls Tryd.prog 94 #[.pointer (some ⟨g, 0, none⟩), .int .i64 8, .slice p n c] w fun e w' => ReadTo w w' B g th four (none) e := by
  have HH := Lib.hid hh
  have HN := Lib.hid hn
  have HY := Lib.hid hb
  have HBW := Lib.hid hBw
  have HLM := Lib.hid hl
  have HLS := Lib.hid (list_any 4 4 rfl p xs n c w (by omega) (by omega) hb hn hl)
  obtain ⟨⟨nl, ok⟩, hr⟩ : ∃ r, listV (xs.length + 1) 4 xs = r := ⟨_, rfl⟩
  rw [hr] at HLS ho
  simp only at ho
  subst ho
  clear hr
  clear hh hb hn hBw
  go_enter Tryd.func94, Tryd.ntmps94
  go_wp2_with fail
  refine HLS.out.mono ?_; rintro e w1 ⟨v1, rfl, hrow, hb1⟩
  obtain ⟨q1, cc1, rfl, hcm1, hcm2⟩ := row_form hrow
  have H1 := Lib.hid (HH.out.next hb1)
  have HB1 := Lib.hid hb1
  have HRW := Lib.hid hrow
  have c5 := H1.out.blk.cell 5 (by simp [hdL])
  have f5 := H1.out.blk.f 5
  simp only [hdL, List.getD_cons_zero, List.getD_cons_succ] at c5
  clear hrow hb1 HLS
  go_wp2_with fail
  go_ret
  exact ⟨rfl, gb_trans (gb_below HB1.out) (gb_set _ ⟨g, 5, none⟩ _)⟩

set_option maxRecDepth 100000 in
set_option maxHeartbeats 2000000 in
theorem read8_none (B g : Nat) (origin next med pref : Int) (path : List Seg) (comms : List Int) (l : Loc) (th : Int) (four : Bool) (p : Option Addr) (xs : List Int) (n c : Nat) (w : World) (hh : HdAt w B g ⟨origin, path, next, med, pref, comms⟩ l th four) (hBw : B ≤ w.heap.size) (hb : BytesAt w p xs) (hn : xs.length = n) (hl : n ≤ 1000000) (ho : (listV (xs.length + 1) 4 xs).2 = true) (hz : (listV (xs.length + 1) 4 xs).1.length = 0) :
    Calls Tryd.prog 94 #[.pointer (some ⟨g, 0, none⟩), .int .i64 8, .slice p n c] w fun e w' => ReadTo w w' B g th four (none) e := by
  have HH := Lib.hid hh
  have HN := Lib.hid hn
  have HY := Lib.hid hb
  have HBW := Lib.hid hBw
  have HLM := Lib.hid hl
  have HLS := Lib.hid (list_any 4 4 rfl p xs n c w (by omega) (by omega) hb hn hl)
  obtain ⟨⟨nl, ok⟩, hr⟩ : ∃ r, listV (xs.length + 1) 4 xs = r := ⟨_, rfl⟩
  rw [hr] at HLS ho hz
  simp only at ho hz
  subst ho
  obtain rfl : nl = [] := List.eq_nil_of_length_eq_zero hz
  clear hz
  clear hr
  clear hh hb hn hBw
  go_enter Tryd.func94, Tryd.ntmps94
  go_wp2_with fail
  refine HLS.out.mono ?_; rintro e w1 ⟨v1, rfl, hrow, hb1⟩
  obtain ⟨q1, cc1, rfl, hcm1, hcm2⟩ := row_form hrow
  have H1 := Lib.hid (HH.out.next hb1)
  have HB1 := Lib.hid hb1
  have HRW := Lib.hid hrow
  have c5 := H1.out.blk.cell 5 (by simp [hdL])
  have f5 := H1.out.blk.f 5
  simp only [hdL, List.getD_cons_zero, List.getD_cons_succ] at c5
  clear hrow hb1 HLS
  go_wp2_with fail
  go_ret
  exact ⟨rfl, gb_trans (gb_below HB1.out) (gb_set _ ⟨g, 5, none⟩ _)⟩

set_option maxRecDepth 100000 in
set_option maxHeartbeats 2000000 in
theorem read8_odd (B g : Nat) (origin next med pref : Int) (path : List Seg) (comms : List Int) (l : Loc) (th : Int) (four : Bool) (p : Option Addr) (xs : List Int) (n c : Nat) (w : World) (hh : HdAt w B g ⟨origin, path, next, med, pref, comms⟩ l th four) (hBw : B ≤ w.heap.size) (hb : BytesAt w p xs) (hn : xs.length = n) (hl : n ≤ 1000000) (ho : (listV (xs.length + 1) 4 xs).2 = true) (hz : 0 < (listV (xs.length + 1) 4 xs).1.length) (hk : okComms (listV (xs.length + 1) 4 xs).1 = false) :
    Calls Tryd.prog 94 #[.pointer (some ⟨g, 0, none⟩), .int .i64 8, .slice p n c] w fun e w' => ReadTo w w' B g th four (none) e := by
  have HH := Lib.hid hh
  have HN := Lib.hid hn
  have HY := Lib.hid hb
  have HBW := Lib.hid hBw
  have HLM := Lib.hid hl
  have HLS := Lib.hid (list_any 4 4 rfl p xs n c w (by omega) (by omega) hb hn hl)
  obtain ⟨⟨nl, ok⟩, hr⟩ : ∃ r, listV (xs.length + 1) 4 xs = r := ⟨_, rfl⟩
  rw [hr] at HLS ho hz hk
  simp only at ho hz hk
  subst ho
  obtain ⟨m, hm⟩ : ∃ m, nl.length = m := ⟨_, rfl⟩
  rw [hm] at hz
  have HM := Lib.hid hm
  clear hm
  have HCM := fun (u : World) (q : Option Addr) (cc : Nat) (hi : IntsAt u q nl) (hml : m ≤ maxLen) => Lib.hid (comms_any q nl m cc u hi HM.out hml)
  rw [hk] at HCM
  clear hr hk
  clear hh hb hn hBw
  go_enter Tryd.func94, Tryd.ntmps94
  go_wp2_with fail
  refine HLS.out.mono ?_; rintro e w1 ⟨v1, rfl, hrow, hb1⟩
  simp only at hrow
  rw [HM.out] at hrow
  obtain ⟨q1, cc1, rfl, hcm1, hcm2⟩ := row_form hrow
  have H1 := Lib.hid (HH.out.next hb1)
  have HB1 := Lib.hid hb1
  have HRW := Lib.hid hrow
  have c5 := H1.out.blk.cell 5 (by simp [hdL])
  have f5 := H1.out.blk.f 5
  simp only [hdL, List.getD_cons_zero, List.getD_cons_succ] at c5
  clear hrow hb1 HLS
  go_wp2_with fail
  have HG := Lib.hid (gb_set w1 ⟨g, 5, none⟩ (.slice q1 m cc1))
  have HR2 := Lib.hid (row_past HRW.out H1.out.blk (by decide) HG.out)
  (with_reducible refine (HCM _ q1 cc1 (row_ints HR2.out) (by omega)).out.mono ?_); rintro e w2 ⟨rfl, hb2⟩
  have HB2 := Lib.hid hb2
  clear hb2
  go_wp2_with fail
  go_ret
  exact ⟨rfl, gb_trans (gb_below HB1.out) (gb_trans HG.out (gb_below HB2.out))⟩

set_option maxRecDepth 100000 in
set_option maxHeartbeats 2000000 in
theorem read8_ok (B g : Nat) (origin next med pref : Int) (path : List Seg) (comms : List Int) (l : Loc) (th : Int) (four : Bool) (p : Option Addr) (xs : List Int) (n c : Nat) (w : World) (hh : HdAt w B g ⟨origin, path, next, med, pref, comms⟩ l th four) (hBw : B ≤ w.heap.size) (hb : BytesAt w p xs) (hn : xs.length = n) (hl : n ≤ 1000000) (ho : (listV (xs.length + 1) 4 xs).2 = true) (hz : 0 < (listV (xs.length + 1) 4 xs).1.length) (hk : okComms (listV (xs.length + 1) 4 xs).1 = true) :
    Calls Tryd.prog 94 #[.pointer (some ⟨g, 0, none⟩), .int .i64 8, .slice p n c] w fun e w' => ReadTo w w' B g th four (some ⟨origin, path, next, med, pref, (listV (xs.length + 1) 4 xs).1⟩) e := by
  have HH := Lib.hid hh
  have HN := Lib.hid hn
  have HY := Lib.hid hb
  have HBW := Lib.hid hBw
  have HLM := Lib.hid hl
  have HLS := Lib.hid (list_any 4 4 rfl p xs n c w (by omega) (by omega) hb hn hl)
  obtain ⟨⟨nl, ok⟩, hr⟩ : ∃ r, listV (xs.length + 1) 4 xs = r := ⟨_, rfl⟩
  rw [hr] at HLS ho hz hk ⊢
  simp only at ho hz hk
  subst ho
  simp only
  obtain ⟨m, hm⟩ : ∃ m, nl.length = m := ⟨_, rfl⟩
  rw [hm] at hz
  have HM := Lib.hid hm
  clear hm
  have HCM := fun (u : World) (q : Option Addr) (cc : Nat) (hi : IntsAt u q nl) (hml : m ≤ maxLen) => Lib.hid (comms_any q nl m cc u hi HM.out hml)
  rw [hk] at HCM
  clear hr hk
  clear hh hb hn hBw
  go_enter Tryd.func94, Tryd.ntmps94
  go_wp2_with fail
  refine HLS.out.mono ?_; rintro e w1 ⟨v1, rfl, hrow, hb1⟩
  simp only at hrow
  rw [HM.out] at hrow
  obtain ⟨q1, cc1, rfl, hcm1, hcm2⟩ := row_form hrow
  have H1 := Lib.hid (HH.out.next hb1)
  have HB1 := Lib.hid hb1
  have HRW := Lib.hid hrow
  have c5 := H1.out.blk.cell 5 (by simp [hdL])
  have f5 := H1.out.blk.f 5
  simp only [hdL, List.getD_cons_zero, List.getD_cons_succ] at c5
  clear hrow hb1 HLS
  go_wp2_with fail
  have HG := Lib.hid (gb_set w1 ⟨g, 5, none⟩ (.slice q1 m cc1))
  have HR2 := Lib.hid (row_past HRW.out H1.out.blk (by decide) HG.out)
  (with_reducible refine (HCM _ q1 cc1 (row_ints HR2.out) (by omega)).out.mono ?_); rintro e w2 ⟨rfl, hb2⟩
  have HB2 := Lib.hid hb2
  clear hb2
  go_wp2_with fail
  go_ret
  exact ⟨⟨⟨l.pp, l.pn, l.pc, q1, m, cc1⟩, rfl, HdAt.next ⟨H1.out.blk.set 5 _, (hd_path H1.out HG.out).1, HR2.out.mono HBW.out, HH.out.n0, HH.out.n1⟩ HB2.out⟩, gb_trans (gb_below HB1.out) (gb_trans HG.out (gb_below HB2.out))⟩

theorem path_of (four : Bool) (p : Option Addr) (xs : List Int) (n c : Nat) (w : World) (hb : BytesAt w p xs) (hn : xs.length = n) (hl : n ≤ 1000000) :
    Calls Tryd.prog 102 #[.slice p n c, .bool four] w fun e w' => PathTo w w' (pathG (wideA four) (xs.length + 1) xs) e := by
  cases four
  · exact path_two p xs n c w hb hn hl
  · exact path_four p xs n c w hb hn hl

set_option maxRecDepth 100000 in
set_option maxHeartbeats 2000000 in
theorem read2_none (B g : Nat) (origin next med pref : Int) (path : List Seg) (comms : List Int) (l : Loc) (th : Int) (four : Bool) (p : Option Addr) (xs : List Int) (n c : Nat) (w : World) (hh : HdAt w B g ⟨origin, path, next, med, pref, comms⟩ l th four) (hBw : B ≤ w.heap.size) (hb : BytesAt w p xs) (hn : xs.length = n) (hl : n ≤ 1000000) (ho : pathG (wideA four) (xs.length + 1) xs = none) :
    Calls Tryd.prog 94 #[.pointer (some ⟨g, 0, none⟩), .int .i64 2, .slice p n c] w fun e w' => ReadTo w w' B g th four (none) e := by
  have HH := Lib.hid hh
  have HN := Lib.hid hn
  have HY := Lib.hid hb
  have HBW := Lib.hid hBw
  have HLM := Lib.hid hl
  have c7 := hh.blk.cell 7 (by simp [hdL])
  have f7 := hh.blk.f 7
  simp only [hdL, List.getD_cons_zero, List.getD_cons_succ] at c7
  have HPA := Lib.hid (path_of four p xs n c w hb hn hl)
  rw [ho] at HPA
  clear ho f7
  clear hh hb hn hBw
  go_enter Tryd.func94, Tryd.ntmps94
  go_wp2_with fail
  refine HPA.out.mono ?_; rintro e w1 ⟨rfl, hb1⟩
  have H1 := Lib.hid (HH.out.next hb1)
  have HB1 := Lib.hid hb1
  have c1 := H1.out.blk.cell 1 (by simp [hdL])
  have f1 := H1.out.blk.f 1
  simp only [hdL, List.getD_cons_zero, List.getD_cons_succ] at c1
  clear hb1 HPA c7
  go_wp2_with fail
  have HG := Lib.hid (gb_set w1 ⟨g, 1, none⟩ (.slice none 0 0))
  have HBK := Lib.hid (H1.out.blk.set 1 (.slice none 0 0))
  have hS := And.intro (show (w1.setCell ⟨g, 1, none⟩ (.slice none 0 0)).drew.cell? ⟨g, 1, none⟩ = some (.slice none 0 0) from HBK.out.cell 1 (by simp [hdL])) (show (w1.setCell ⟨g, 1, none⟩ (.slice none 0 0)).drew.cell? ⟨g, 7, none⟩ = some (.bool four) from HBK.out.cell 7 (by simp [hdL]))
  clear c1 f1
  go_quiet (fail)
  go_wp2_with fail
  go_ret
  exact ⟨rfl, gb_trans (gb_below HB1.out) (gb_trans HG.out (gb_drew _ _ _))⟩

set_option maxRecDepth 100000 in
set_option maxHeartbeats 2000000 in
theorem read2_odd (B g : Nat) (origin next med pref : Int) (path : List Seg) (comms : List Int) (l : Loc) (th : Int) (four : Bool) (p : Option Addr) (xs : List Int) (n c : Nat) (w : World) (hh : HdAt w B g ⟨origin, path, next, med, pref, comms⟩ l th four) (hBw : B ≤ w.heap.size) (hb : BytesAt w p xs) (hn : xs.length = n) (hl : n ≤ 1000000) (nl : List Seg) (ho : pathG (wideA four) (xs.length + 1) xs = some nl) (hk : okPath nl four = false) :
    Calls Tryd.prog 94 #[.pointer (some ⟨g, 0, none⟩), .int .i64 2, .slice p n c] w fun e w' => ReadTo w w' B g th four (none) e := by
  have HH := Lib.hid hh
  have HN := Lib.hid hn
  have HY := Lib.hid hb
  have HBW := Lib.hid hBw
  have HLM := Lib.hid hl
  have c7 := hh.blk.cell 7 (by simp [hdL])
  have f7 := hh.blk.f 7
  simp only [hdL, List.getD_cons_zero, List.getD_cons_succ] at c7
  have HPA := Lib.hid (path_of four p xs n c w hb hn hl)
  rw [ho] at HPA
  have HMP := fun (u : World) (q : Option Addr) (m cc : Nat) (hs : SegsAt u q nl) (hlm : nl.length = m) (hml : m ≤ maxLen) => Lib.hid (path_any q nl m cc four u hs hlm hml)
  rw [hk] at HMP
  clear ho f7 hk
  clear hh hb hn hBw
  go_enter Tryd.func94, Tryd.ntmps94
  go_wp2_with fail
  refine HPA.out.mono ?_; rintro e w1 ⟨q1, m1, cc1, rfl, hpo, hb1⟩
  have HPO := Lib.hid hpo
  have hpf : nl.length = m1 ∧ m1 ≤ maxLen := by
    obtain ⟨ps, _, h2, h3, _⟩ := hpo
    obtain ⟨_, _, hv, h4, h5⟩ := row_form h3
    simp only [Value.slice.injEq] at hv
    obtain ⟨_, _, rfl⟩ := hv
    exact ⟨h2, Nat.le_trans h4 h5⟩
  have HPF := Lib.hid hpf
  clear hpo hpf
  have H1 := Lib.hid (HH.out.next hb1)
  have HB1 := Lib.hid hb1
  have c1 := H1.out.blk.cell 1 (by simp [hdL])
  have f1 := H1.out.blk.f 1
  simp only [hdL, List.getD_cons_zero, List.getD_cons_succ] at c1
  clear hb1 HPA c7
  go_wp2_with fail
  have HG := Lib.hid (gb_set w1 ⟨g, 1, none⟩ (.slice q1 m1 cc1))
  have HBK := Lib.hid (H1.out.blk.set 1 (.slice q1 m1 cc1))
  have hS := And.intro (show (w1.setCell ⟨g, 1, none⟩ (.slice q1 m1 cc1)).drew.cell? ⟨g, 1, none⟩ = some (.slice q1 m1 cc1) from HBK.out.cell 1 (by simp [hdL])) (show (w1.setCell ⟨g, 1, none⟩ (.slice q1 m1 cc1)).drew.cell? ⟨g, 7, none⟩ = some (.bool four) from HBK.out.cell 7 (by simp [hdL]))
  clear c1 f1
  have HP2 := Lib.hid ((HPO.out.past H1.out.blk (by decide) (by decide) HG.out).below (Below.refl _ _).drew)
  go_region_held (fun w' => w'.cell? ⟨g, 1, none⟩ = some (.slice q1 m1 cc1) ∧ w'.cell? ⟨g, 7, none⟩ = some (.bool four)) (with_reducible assumption) (first
    | (go_at_call 88; (with_reducible refine (HMP _ q1 m1 cc1 HP2.out.at HPF.out.1 HPF.out.2).out.mono ?_); rintro e w2 ⟨rfl, hb2⟩; have HB2 := Lib.hid ((Below.refl _ (w1.setCell ⟨g, 1, none⟩ (.slice q1 m1 cc1))).drew.trans hb2); have hS2 := And.intro (show w2.cell? ⟨g, 1, none⟩ = some (.slice q1 m1 cc1) from (HBK.out.next HB2.out).cell 1 (by simp [hdL])) (show w2.cell? ⟨g, 7, none⟩ = some (.bool four) from (HBK.out.next HB2.out).cell 7 (by simp [hdL])); clear hb2))
  go_wp2_with fail
  go_ret
  exact ⟨rfl, gb_trans (gb_below HB1.out) (gb_trans HG.out (gb_below HB2.out))⟩

set_option maxRecDepth 100000 in
set_option maxHeartbeats 2000000 in
theorem read2_ok (B g : Nat) (origin next med pref : Int) (path : List Seg) (comms : List Int) (l : Loc) (th : Int) (four : Bool) (p : Option Addr) (xs : List Int) (n c : Nat) (w : World) (hh : HdAt w B g ⟨origin, path, next, med, pref, comms⟩ l th four) (hBw : B ≤ w.heap.size) (hb : BytesAt w p xs) (hn : xs.length = n) (hl : n ≤ 1000000) (nl : List Seg) (ho : pathG (wideA four) (xs.length + 1) xs = some nl) (hk : okPath nl four = true) :
    Calls Tryd.prog 94 #[.pointer (some ⟨g, 0, none⟩), .int .i64 2, .slice p n c] w fun e w' => ReadTo w w' B g th four (some ⟨origin, nl, next, med, pref, comms⟩) e := by
  have HH := Lib.hid hh
  have HN := Lib.hid hn
  have HY := Lib.hid hb
  have HBW := Lib.hid hBw
  have HLM := Lib.hid hl
  have c7 := hh.blk.cell 7 (by simp [hdL])
  have f7 := hh.blk.f 7
  simp only [hdL, List.getD_cons_zero, List.getD_cons_succ] at c7
  have HPA := Lib.hid (path_of four p xs n c w hb hn hl)
  rw [ho] at HPA
  have HMP := fun (u : World) (q : Option Addr) (m cc : Nat) (hs : SegsAt u q nl) (hlm : nl.length = m) (hml : m ≤ maxLen) => Lib.hid (path_any q nl m cc four u hs hlm hml)
  rw [hk] at HMP
  clear ho f7 hk
  clear hh hb hn hBw
  go_enter Tryd.func94, Tryd.ntmps94
  go_wp2_with fail
  refine HPA.out.mono ?_; rintro e w1 ⟨q1, m1, cc1, rfl, hpo, hb1⟩
  have HPO := Lib.hid hpo
  have hpf : nl.length = m1 ∧ m1 ≤ maxLen := by
    obtain ⟨ps, _, h2, h3, _⟩ := hpo
    obtain ⟨_, _, hv, h4, h5⟩ := row_form h3
    simp only [Value.slice.injEq] at hv
    obtain ⟨_, _, rfl⟩ := hv
    exact ⟨h2, Nat.le_trans h4 h5⟩
  have HPF := Lib.hid hpf
  clear hpo hpf
  have H1 := Lib.hid (HH.out.next hb1)
  have HB1 := Lib.hid hb1
  have c1 := H1.out.blk.cell 1 (by simp [hdL])
  have f1 := H1.out.blk.f 1
  simp only [hdL, List.getD_cons_zero, List.getD_cons_succ] at c1
  clear hb1 HPA c7
  go_wp2_with fail
  have HG := Lib.hid (gb_set w1 ⟨g, 1, none⟩ (.slice q1 m1 cc1))
  have HBK := Lib.hid (H1.out.blk.set 1 (.slice q1 m1 cc1))
  have hS := And.intro (show (w1.setCell ⟨g, 1, none⟩ (.slice q1 m1 cc1)).drew.cell? ⟨g, 1, none⟩ = some (.slice q1 m1 cc1) from HBK.out.cell 1 (by simp [hdL])) (show (w1.setCell ⟨g, 1, none⟩ (.slice q1 m1 cc1)).drew.cell? ⟨g, 7, none⟩ = some (.bool four) from HBK.out.cell 7 (by simp [hdL]))
  clear c1 f1
  have HP2 := Lib.hid ((HPO.out.past H1.out.blk (by decide) (by decide) HG.out).below (Below.refl _ _).drew)
  go_region_held (fun w' => w'.cell? ⟨g, 1, none⟩ = some (.slice q1 m1 cc1) ∧ w'.cell? ⟨g, 7, none⟩ = some (.bool four)) (with_reducible assumption) (first
    | (go_at_call 88; (with_reducible refine (HMP _ q1 m1 cc1 HP2.out.at HPF.out.1 HPF.out.2).out.mono ?_); rintro e w2 ⟨rfl, hb2⟩; have HB2 := Lib.hid ((Below.refl _ (w1.setCell ⟨g, 1, none⟩ (.slice q1 m1 cc1))).drew.trans hb2); have hS2 := And.intro (show w2.cell? ⟨g, 1, none⟩ = some (.slice q1 m1 cc1) from (HBK.out.next HB2.out).cell 1 (by simp [hdL])) (show w2.cell? ⟨g, 7, none⟩ = some (.bool four) from (HBK.out.next HB2.out).cell 7 (by simp [hdL])); clear hb2))
  go_wp2_with fail
  go_ret
  exact ⟨⟨⟨q1, m1, cc1, l.cp, l.cn, l.cc⟩, rfl, HdAt.next ⟨HBK.out, (HPO.out.past H1.out.blk (by decide) (by decide) HG.out).mono HBW.out, (hd_path H1.out HG.out).2, HH.out.n0, HH.out.n1⟩ HB2.out⟩, gb_trans (gb_below HB1.out) (gb_trans HG.out (gb_below HB2.out))⟩

/-- read, of any type that is known. -/
theorem read_any (B g : Nat) (a : At) (l : Loc) (th : Int) (four : Bool) (k : Nat) (p : Option Addr) (xs : List Int) (n c : Nat) (w : World) (hh : HdAt w B g a l th four) (hBw : B ≤ w.heap.size) (hb : BytesAt w p xs) (hn : xs.length = n) (hl : n ≤ 1000000) (hk : k = 1 ∨ k = 2 ∨ k = 3 ∨ k = 4 ∨ k = 5 ∨ k = 8) :
    Calls Tryd.prog 94 #[.pointer (some ⟨g, 0, none⟩), .int .i64 k, .slice p n c] w fun e w' => ReadTo w w' B g th four (readV four a k xs) e := by
  obtain ⟨origin, path, next, med, pref, comms⟩ := a
  rcases hk with rfl | rfl | rfl | rfl | rfl | rfl
  · by_cases h1 : n = 1
    · rcases h2 : oddB 0 2 (getV xs) with _ | _
      · rw [show readV four ⟨origin, path, next, med, pref, comms⟩ 1 xs = some ⟨getV xs, path, next, med, pref, comms⟩ from (readV_1 four _ xs).trans <| if_pos ⟨by omega, h2⟩]
        exact read1_ok B g origin next med pref path comms l th four p xs n c w hh hBw hb hn hl h1 h2
      · rw [show readV four ⟨origin, path, next, med, pref, comms⟩ 1 xs = none from (readV_1 four _ xs).trans <| if_neg (fun h => by rw [h2] at h; exact absurd h.2 (by decide))]
        exact read1_odd B g origin next med pref path comms l th four p xs n c w hh hBw hb hn hl h1 h2
    · rw [show readV four ⟨origin, path, next, med, pref, comms⟩ 1 xs = none from (readV_1 four _ xs).trans <| if_neg (fun h => by omega)]
      exact read1_len B g origin next med pref path comms l th four p xs n c w hh hBw hb hn hl h1
  · rcases h1 : pathG (wideA four) (xs.length + 1) xs with _ | nl
    · rw [show readV four ⟨origin, path, next, med, pref, comms⟩ 2 xs = none by simp [readV, h1]]
      exact read2_none B g origin next med pref path comms l th four p xs n c w hh hBw hb hn hl h1
    · rcases h2 : okPath nl four with _ | _
      · rw [show readV four ⟨origin, path, next, med, pref, comms⟩ 2 xs = none by simp [readV, h1, h2]]
        exact read2_odd B g origin next med pref path comms l th four p xs n c w hh hBw hb hn hl nl h1 h2
      · rw [show readV four ⟨origin, path, next, med, pref, comms⟩ 2 xs = some ⟨origin, nl, next, med, pref, comms⟩ by simp [readV, h1, h2]]
        exact read2_ok B g origin next med pref path comms l th four p xs n c w hh hBw hb hn hl nl h1 h2
  · by_cases h1 : n = 4
    · by_cases h2 : getV xs = 0
      · rw [show readV four ⟨origin, path, next, med, pref, comms⟩ 3 xs = none from (readV_3 four _ xs).trans <| if_neg (fun h => h.2 h2)]
        exact read3_zero B g origin next med pref path comms l th four p xs n c w hh hBw hb hn hl h1 h2
      · rw [show readV four ⟨origin, path, next, med, pref, comms⟩ 3 xs = some ⟨origin, path, getV xs, med, pref, comms⟩ from (readV_3 four _ xs).trans <| if_pos ⟨by omega, h2⟩]
        exact read3_ok B g origin next med pref path comms l th four p xs n c w hh hBw hb hn hl h1 h2
    · rw [show readV four ⟨origin, path, next, med, pref, comms⟩ 3 xs = none from (readV_3 four _ xs).trans <| if_neg (fun h => by omega)]
      exact read3_len B g origin next med pref path comms l th four p xs n c w hh hBw hb hn hl h1
  · by_cases h1 : n = 4
    · rw [show readV four ⟨origin, path, next, med, pref, comms⟩ 4 xs = some ⟨origin, path, next, getV xs, pref, comms⟩ from (readV_4 four _ xs).trans <| if_pos (by omega)]
      exact read4_ok B g origin next med pref path comms l th four p xs n c w hh hBw hb hn hl h1
    · rw [show readV four ⟨origin, path, next, med, pref, comms⟩ 4 xs = none from (readV_4 four _ xs).trans <| if_neg (fun h => by omega)]
      exact read4_len B g origin next med pref path comms l th four p xs n c w hh hBw hb hn hl h1
  · by_cases h1 : n = 4
    · rw [show readV four ⟨origin, path, next, med, pref, comms⟩ 5 xs = some ⟨origin, path, next, med, getV xs, comms⟩ from (readV_5 four _ xs).trans <| if_pos (by omega)]
      exact read5_ok B g origin next med pref path comms l th four p xs n c w hh hBw hb hn hl h1
    · rw [show readV four ⟨origin, path, next, med, pref, comms⟩ 5 xs = none from (readV_5 four _ xs).trans <| if_neg (fun h => by omega)]
      exact read5_len B g origin next med pref path comms l th four p xs n c w hh hBw hb hn hl h1
  · rcases h1 : (listV (xs.length + 1) 4 xs).2 with _ | _
    · rw [show readV four ⟨origin, path, next, med, pref, comms⟩ 8 xs = none from (readV_8 four _ xs).trans <| if_neg (fun h => by rw [h1] at h; exact absurd h.1 (by decide))]
      exact read8_bad B g origin next med pref path comms l th four p xs n c w hh hBw hb hn hl h1
    · rcases Nat.eq_zero_or_pos (listV (xs.length + 1) 4 xs).1.length with h2 | h2
      · rw [show readV four ⟨origin, path, next, med, pref, comms⟩ 8 xs = none from (readV_8 four _ xs).trans <| if_neg (fun h => by omega)]
        exact read8_none B g origin next med pref path comms l th four p xs n c w hh hBw hb hn hl h1 h2
      · rcases h3 : okComms (listV (xs.length + 1) 4 xs).1 with _ | _
        · rw [show readV four ⟨origin, path, next, med, pref, comms⟩ 8 xs = none from (readV_8 four _ xs).trans <| if_neg (fun h => by rw [h3] at h; exact absurd h.2.2 (by decide))]
          exact read8_odd B g origin next med pref path comms l th four p xs n c w hh hBw hb hn hl h1 h2 h3
        · rw [show readV four ⟨origin, path, next, med, pref, comms⟩ 8 xs = some ⟨origin, path, next, med, pref, (listV (xs.length + 1) 4 xs).1⟩ from (readV_8 four _ xs).trans <| if_pos ⟨h1, h2, h3⟩]
          exact read8_ok B g origin next med pref path comms l th four p xs n c w hh hBw hb hn hl h1 h2 h3
end Go.Proofs.YtpeagakpmjnelaaDoor.Ax
