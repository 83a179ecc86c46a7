/- attr: Get. -/
import Derived.Test.YtpeagakpmjnelaaDoorAA
namespace Go.Proofs.YtpeagakpmjnelaaDoor.Ax
open Go.RowKit
set_option maxRecDepth 100000

def wholeB (th : Int) : Bool := bits BinOp.and IntKind.u64 th 14 == 14
theorem whole_any (B g : Nat) (a : At) (l : Loc) (th : Int) (four : Bool) (w : World) (hh : HdAt w B g a l th four) (_ : 0 ≤ th) (_ : th < 512) :
    Calls Tryd.prog 84 #[.pointer (some ⟨g, 0, none⟩)] w fun e w' => e = .returned (.bool (wholeB th)) ∧ w = w' := by
  have c6 := hh.blk.cell 6 (by simp [hdL])
  simp only [hdL, List.getD_cons_zero, List.getD_cons_succ] at c6
  clear hh
  go_enter Tryd.func84, Tryd.ntmps84
  go_wp2_with fail
  go_ret
  exact ⟨rfl, rfl⟩
theorem flags_far {k : Nat} (h : 9 ≤ k) : flagsL.getD k 0 = 0 := by
  rw [List.getD_eq_getElem?_getD, List.getElem?_eq_none (show flagsL.length ≤ k from h)]; rfl
/-- The types that may have been there, as bits. -/
def allTh : List Int := (List.range 64).map (fun i => ((i % 2) * 2 + (i / 2 % 2) * 4 + (i / 4 % 2) * 8 + (i / 8 % 2) * 16 + (i / 16 % 2) * 32 + (i / 32 % 2) * 256 : Nat))
theorem allTh_bd : ∀ th ∈ allTh, 0 ≤ th ∧ th < 512 := by decide +kernel
theorem allTh_set : ∀ th ∈ allTh, ∀ k ∈ [1, 2, 3, 4, 5, 8], setT th k ∈ allTh := by decide +kernel
theorem takeV_th {four : Bool} {s s' : At × Int} {flags : Int} {k : Nat} {xs : List Int} (hk : k ≤ 255) (h : takeV four s flags k xs = some s') (ht : s.2 ∈ allTh) : s'.2 ∈ allTh := by
  unfold takeV at h
  split at h
  · split at h
    · cases h; exact ht
    · cases h
  · rename_i hz
    split at h
    · cases h; exact ht
    · split at h
      · rcases hr : readV four s.1 k xs with _ | a
        · rw [hr] at h; cases h
        · rw [hr] at h
          cases h
          refine allTh_set _ ht k ?_
          have h9 : k < 9 := by
            rcases Nat.lt_or_ge k 9 with h9 | h9
            · exact h9
            · exact absurd (flags_far h9) hz
          have : k = 0 ∨ k = 1 ∨ k = 2 ∨ k = 3 ∨ k = 4 ∨ k = 5 ∨ k = 6 ∨ k = 7 ∨ k = 8 := by omega
          rcases this with rfl | rfl | rfl | rfl | rfl | rfl | rfl | rfl | rfl
          all_goals first | (simp; done) | exact absurd rfl hz
      · cases h
theorem takeA_any (B g : Nat) (a : At) (l : Loc) (th flags : Int) (four : Bool) (k : Nat) (p : Option Addr) (xs : List Int) (n c : Nat) (w : World) (ht : Tab w) (hh : HdAt w B g a l th four) (hBw : B ≤ w.heap.size) (hg0 : 0 ≠ g) (hx : ∀ u, w.grownBy u (some g) → BytesAt u p xs) (hn : xs.length = n) (hl : n ≤ 1000000) (hth : th ∈ allTh) (f0 : 0 ≤ flags) (f1 : flags ≤ 255) (hk : k ≤ 255) :
    Calls Tryd.prog 83 #[.pointer (some ⟨g, 0, none⟩), .int .i64 flags, .int .i64 k, .slice p n c] w fun e w' => TakeTo w w' B g four (takeV four (a, th) flags k xs) e := by
  obtain ⟨t0, t1⟩ := allTh_bd th hth
  rcases Nat.lt_or_ge k 9 with h9 | h9
  · have hc : k = 0 ∨ k = 1 ∨ k = 2 ∨ k = 3 ∨ k = 4 ∨ k = 5 ∨ k = 6 ∨ k = 7 ∨ k = 8 := by omega
    rcases hc with rfl | rfl | rfl | rfl | rfl | rfl | rfl | rfl | rfl
    · exact take_unk0 B g a l th flags four _ w ht hh f0 f1
    · have hu : takeV four (a, th) flags 1 xs = if seenB th 1 then some (a, th) else if baseV flags = 64 then (readV four a 1 xs).map (fun a => (a, setT th 1)) else none := rfl
      rw [hu]
      rcases hs : seenB th 1 with _ | _
      · rw [if_neg (by decide)]
        by_cases hb : baseV flags = 64
        · rw [if_pos hb]; exact take_read1 B g a l th flags four p xs n c w ht hh hBw hg0 hx hn hl t0 t1 f0 f1 hs hb
        · rw [if_neg hb]; exact take_base1 B g a l th flags four _ w ht hh hg0 t0 t1 f0 f1 hs hb
      · rw [if_pos rfl]; exact take_seen1 B g a l th flags four _ w ht hh t0 t1 hs
    · have hu : takeV four (a, th) flags 2 xs = if seenB th 2 then some (a, th) else if baseV flags = 64 then (readV four a 2 xs).map (fun a => (a, setT th 2)) else none := rfl
      rw [hu]
      rcases hs : seenB th 2 with _ | _
      · rw [if_neg (by decide)]
        by_cases hb : baseV flags = 64
        · rw [if_pos hb]; exact take_read2 B g a l th flags four p xs n c w ht hh hBw hg0 hx hn hl t0 t1 f0 f1 hs hb
        · rw [if_neg hb]; exact take_base2 B g a l th flags four _ w ht hh hg0 t0 t1 f0 f1 hs hb
      · rw [if_pos rfl]; exact take_seen2 B g a l th flags four _ w ht hh t0 t1 hs
    · have hu : takeV four (a, th) flags 3 xs = if seenB th 3 then some (a, th) else if baseV flags = 64 then (readV four a 3 xs).map (fun a => (a, setT th 3)) else none := rfl
      rw [hu]
      rcases hs : seenB th 3 with _ | _
      · rw [if_neg (by decide)]
        by_cases hb : baseV flags = 64
        · rw [if_pos hb]; exact take_read3 B g a l th flags four p xs n c w ht hh hBw hg0 hx hn hl t0 t1 f0 f1 hs hb
        · rw [if_neg hb]; exact take_base3 B g a l th flags four _ w ht hh hg0 t0 t1 f0 f1 hs hb
      · rw [if_pos rfl]; exact take_seen3 B g a l th flags four _ w ht hh t0 t1 hs
    · have hu : takeV four (a, th) flags 4 xs = if seenB th 4 then some (a, th) else if baseV flags = 128 then (readV four a 4 xs).map (fun a => (a, setT th 4)) else none := rfl
      rw [hu]
      rcases hs : seenB th 4 with _ | _
      · rw [if_neg (by decide)]
        by_cases hb : baseV flags = 128
        · rw [if_pos hb]; exact take_read4 B g a l th flags four p xs n c w ht hh hBw hg0 hx hn hl t0 t1 f0 f1 hs hb
        · rw [if_neg hb]; exact take_base4 B g a l th flags four _ w ht hh hg0 t0 t1 f0 f1 hs hb
      · rw [if_pos rfl]; exact take_seen4 B g a l th flags four _ w ht hh t0 t1 hs
    · have hu : takeV four (a, th) flags 5 xs = if seenB th 5 then some (a, th) else if baseV flags = 64 then (readV four a 5 xs).map (fun a => (a, setT th 5)) else none := rfl
      rw [hu]
      rcases hs : seenB th 5 with _ | _
      · rw [if_neg (by decide)]
        by_cases hb : baseV flags = 64
        · rw [if_pos hb]; exact take_read5 B g a l th flags four p xs n c w ht hh hBw hg0 hx hn hl t0 t1 f0 f1 hs hb
        · rw [if_neg hb]; exact take_base5 B g a l th flags four _ w ht hh hg0 t0 t1 f0 f1 hs hb
      · rw [if_pos rfl]; exact take_seen5 B g a l th flags four _ w ht hh t0 t1 hs
    · exact take_unk6 B g a l th flags four _ w ht hh f0 f1
    · exact take_unk7 B g a l th flags four _ w ht hh f0 f1
    · have hu : takeV four (a, th) flags 8 xs = if seenB th 8 then some (a, th) else if baseV flags = 192 then (readV four a 8 xs).map (fun a => (a, setT th 8)) else none := rfl
      rw [hu]
      rcases hs : seenB th 8 with _ | _
      · rw [if_neg (by decide)]
        by_cases hb : baseV flags = 192
        · rw [if_pos hb]; exact take_read8 B g a l th flags four p xs n c w ht hh hBw hg0 hx hn hl t0 t1 f0 f1 hs hb
        · rw [if_neg hb]; exact take_base8 B g a l th flags four _ w ht hh hg0 t0 t1 f0 f1 hs hb
      · rw [if_pos rfl]; exact take_seen8 B g a l th flags four _ w ht hh t0 t1 hs
  · have hu : takeV four (a, th) flags k xs = if optB flags then some (a, th) else none := by
      unfold takeV
      rw [if_pos (flags_far h9)]
    rw [hu]
    exact take_far B g a l th flags four k _ w hh f0 f1 h9 hk

def wideOf (flags : Int) : Nat := if (bits BinOp.and IntKind.i64 flags 16 != 0) = true then 2 else 1
/-- All attributes, one behind the other; none: one may not be. -/
def getS (four : Bool) : Nat → At × Int → List Int → Option (At × Int)
  | 0, s, _ => some s
  | _ + 1, s, [] => some s
  | _ + 1, _, [_] => none
  | f + 1, s, fl :: k :: rest =>
    if wideOf fl ≤ rest.length then
      (if (getV (rest.take (wideOf fl))).toNat ≤ (rest.drop (wideOf fl)).length then
        (takeV four s fl k.toNat ((rest.drop (wideOf fl)).take (getV (rest.take (wideOf fl))).toNat)).bind (fun s' => getS four f s' ((rest.drop (wideOf fl)).drop (getV (rest.take (wideOf fl))).toNat))
      else none)
    else none
def At.start : At := ⟨0, [], 0, -1, -1, []⟩
/-- What bytes say of routes, and the verdict. -/
def finA : Option (At × Int) → At × Int
  | none => (At.zero, 3)
  | some s => if wholeB s.2 then (s.1, 1) else (At.zero, 2)
def getA (xs : List Int) (four : Bool) : At × Int := finA (getS four (xs.length + 1) (At.start, 0) xs)
def GetTo (w w' : World) (e : Ending) (r : At × Int) : Prop := ∃ l, e = .returned (.tuple #[.agg (atL r.1 l).toArray, .int .i64 r.2]) ∧ AtAt w' r.1 l ∧ Below w.heap.size w w'
theorem zero_at (w : World) : AtAt w At.zero ⟨none, 0, 0, none, 0, 0⟩ := ⟨.inl rfl, rfl, Nat.le_refl _, by unfold maxLen; simp, .inl rfl, rfl, Nat.le_refl _, by unfold maxLen; simp, by decide, by decide⟩
theorem HdAt.read {w w' : World} {B g gr : Nat} {a : At} {l : Loc} {th : Int} {four : Bool} (h : HdAt w B g a l th four) (hg : w.grownBy w' (some gr)) (hne : g ≠ gr) (hB : gr < B) : HdAt w' B g a l th four :=
  ⟨h.blk.grown hne hg, h.path.read hg hB, h.comms.kept hg (by
    rcases hv : (Value.slice l.cp l.cn l.cc).ownBlock with _ | z
    · exact .inl rfl
    · have := row_block h.comms z hv
      exact .inr (by simp; omega)), h.n0, h.n1⟩
theorem at_of {w : World} {B : Nat} {a : At} {l : Loc} (hp : PathOwn w B l.pp l.pn l.pc a.path) (hc : w.ownsRow B 3 1 (.slice l.cp l.cn l.cc) l.cn (a.comms.map (Value.int .i64))) (n0 : 0 ≤ a.next) (n1 : a.next ≤ 4294967295) : AtAt w a l := by
  have hpa := hp.at
  obtain ⟨ps, h1, h2, h3, _⟩ := hp
  obtain ⟨_, _, hv, p1, p2⟩ := row_form h3
  obtain ⟨_, _, hv', c1, c2⟩ := row_form hc
  simp only [Value.slice.injEq] at hv hv'
  obtain ⟨_, _, rfl⟩ := hv
  obtain ⟨_, _, rfl⟩ := hv'
  exact ⟨hpa, h2, p1, p2, row_ints hc, by simpa using row_len hc, c1, c2, n0, n1⟩
theorem gb6 (w : World) (g : Nat) (a b c d e f : Value) : w.grownBy ((((((w.setCell ⟨g, 0, none⟩ a).setCell ⟨g, 1, none⟩ b).setCell ⟨g, 2, none⟩ c).setCell ⟨g, 3, none⟩ d).setCell ⟨g, 4, none⟩ e).setCell ⟨g, 5, none⟩ f) (some g) :=
  gb_trans (gb_trans (gb_trans (gb_trans (gb_trans (gb_set w ⟨g, 0, none⟩ a) (gb_set _ ⟨g, 1, none⟩ b)) (gb_set _ ⟨g, 2, none⟩ c)) (gb_set _ ⟨g, 3, none⟩ d)) (gb_set _ ⟨g, 4, none⟩ e)) (gb_set _ ⟨g, 5, none⟩ f)
/-- What lies in memory while attributes are read. -/
structure GSt (w w1 wr : World) (g gr : Nat) (a : At) (l : Loc) (th : Int) (four : Bool) (s : Option (List Int)) : Prop where
  hd : HdAt wr w1.heap.size g a l th four
  rd : RdAt wr gr s
  out : Blk wr w.heap.size 27 [.int .i64 0, .slice none 0 0, .int .u32 0, .int .i64 0, .int .i64 0, .slice none 0 0]
  bel : Below w.heap.size w wr
  sz : w1.heap.size ≤ wr.heap.size
theorem GSt.num {w w1 wr w' : World} {g gr : Nat} {a : At} {l : Loc} {th : Int} {four : Bool} {s s' : Option (List Int)} (h : GSt w w1 wr g gr a l th four s) (hr : RdAt w' gr s') (hg : wr.grownBy w' (some gr)) (h1 : w.heap.size < g) (h2 : g < gr) (h3 : gr < w1.heap.size) : GSt w w1 w' g gr a l th four s' :=
  ⟨h.hd.read hg (by omega) h3, hr, h.out.grown (by omega) hg, below_new h.bel hg (by omega) h.bel.size, Nat.le_trans h.sz hg.size⟩
theorem GSt.take {w w1 wr w' : World} {g gr : Nat} {a a' : At} {l l' : Loc} {th th' : Int} {four : Bool} {s : Option (List Int)} (h : GSt w w1 wr g gr a l th four s) (hh : HdAt w' w1.heap.size g a' l' th' four) (hg : wr.grownBy w' (some g)) (h1 : w.heap.size < g) (h2 : g < gr) : GSt w w1 w' g gr a' l' th' four s :=
  ⟨hh, h.rd.past (by omega) h.hd.blk (by rfl) hg, h.out.grown (by omega) hg, below_new h.bel hg (by omega) h.bel.size, Nat.le_trans h.sz hg.size⟩
theorem below6 {B g : Nat} {W w : World} (h : Below B W w) (hg : B ≤ g) (a b c d e f : Value) : Below B W ((((((w.setCell ⟨g, 0, none⟩ a).setCell ⟨g, 1, none⟩ b).setCell ⟨g, 2, none⟩ c).setCell ⟨g, 3, none⟩ d).setCell ⟨g, 4, none⟩ e).setCell ⟨g, 5, none⟩ f) :=
  (((((h.setCell hg _).setCell hg _).setCell hg _).setCell hg _).setCell hg _).setCell hg _
def GetRel (w w1 : World) (g gr : Nat) (four : Bool) (R : Option (At × Int)) (gk : Nat) (wr : World) : Prop :=
  ∃ (a : At) (l : Loc) (th : Int) (ys : List Int) (f : Nat), GSt w w1 wr g gr a l th four (some ys) ∧ th ∈ allTh ∧ ys.length ≤ 1000000 ∧ ys.length < f ∧ getS four f (a, th) ys = R ∧ gk = ys.length

set_option maxRecDepth 100000 in
set_option maxHeartbeats 8000000 in
theorem getA_any (four : Bool) (p : Option Addr) (xs : List Int) (n c : Nat) (w : World) (ht : Tab w) (hb : BytesAt w p xs) (hn : xs.length = n) (hl : n ≤ 1000000) :
    Calls Tryd.prog 65 #[.slice p n c, .bool four] w fun e w' => GetTo w w' e (getA xs four) := by
  obtain ⟨W, hW⟩ : ∃ W, (w.alloc (.cells #[.int .i64 0, .slice none 0 0, .int .u32 0, .int .i64 0, .int .i64 0, .slice none 0 0] 27)).alloc (.cells #[.int .i64 0, .slice none 0 0, .int .u32 0, .int .i64 (-1), .int .i64 (-1), .slice none 0 0, .int .u64 0, .bool four] 130) = W := ⟨_, rfl⟩
  have hbl : Below w.heap.size w W := by rw [← hW]; exact two_below _ _ _
  have hou : Blk W w.heap.size 27 [.int .i64 0, .slice none 0 0, .int .u32 0, .int .i64 0, .int .i64 0, .slice none 0 0] := by rw [← hW]; exact (Blk.new w 27 [.int .i64 0, .slice none 0 0, .int .u32 0, .int .i64 0, .int .i64 0, .slice none 0 0]).alloc _
  have hhd : Blk W (w.heap.size + 1) 130 [.int .i64 0, .slice none 0 0, .int .u32 0, .int .i64 (-1), .int .i64 (-1), .slice none 0 0, .int .u64 0, .bool four] := by rw [← hW, ← sz_alloc w (.cells #[.int .i64 0, .slice none 0 0, .int .u32 0, .int .i64 0, .int .i64 0, .slice none 0 0] 27)]; exact Blk.new _ 130 [.int .i64 0, .slice none 0 0, .int .u32 0, .int .i64 (-1), .int .i64 (-1), .slice none 0 0, .int .u64 0, .bool four]
  have HF := Lib.hid (show Calls Tryd.prog 31 #[.slice p n c] W fun e w' => NewAt W w' e (fun g => RdAt w' g (some xs)) by subst hn; exact from_any p xs c W (by omega) (hb.below hbl))
  have hg0 : 0 < w.heap.size := World.block_lt_of_cell? w _ (ht 0 (by omega))
  have HBL := Lib.hid hbl
  have HOU := Lib.hid hou
  have HHD := Lib.hid hhd
  have HW := Lib.hid hW
  have HT := Lib.hid ht
  have HWS := Lib.hid (show W.heap.size = w.heap.size + 2 by rw [← hW]; simp)
  obtain ⟨A, hA⟩ : ∃ A, getA xs four = A := ⟨_, rfl⟩
  obtain ⟨R, hR⟩ : ∃ R, getS four (xs.length + 1) (At.start, 0) xs = R := ⟨_, rfl⟩
  rw [hA]
  have HA := Lib.hid (show A = finA R from by rw [← hA, ← hR]; rfl)
  have HR := Lib.hid hR
  have HN := Lib.hid hn
  clear hb hn hW hbl hou hhd ht hA hR
  go_enter Tryd.func65, Tryd.ntmps65
  go_wp2_with fail
  rw [HW.out]
  refine HF.out.mono ?_; rintro e w1 ⟨gr, rfl, hnew, hrd, hbel⟩
  have hgr : w.heap.size + 1 < gr := by have := HWS.out; omega
  have hgl := hrd.lt
  have HG1 := Lib.hid (show GSt w w1 w1 (w.heap.size + 1) gr At.start ⟨none, 0, 0, none, 0, 0⟩ 0 four (some xs) from ⟨⟨HHD.out.next hbel, PathOwn.nil _ _, World.ownsRow_nil _ _ _ _, by decide, by decide⟩, hrd, HOU.out.next hbel, HBL.out.trans (hbel.mono HBL.out.size), Nat.le_refl _⟩)
  clear hrd hbel HF HOU HHD
  go_wp2_with fail
  go_loopg [8] xs.length (fun k _ wr => GetRel w w1 (w.heap.size + 1) gr four R k wr)
  case atStart => exact ⟨At.start, _, 0, xs, _, HG1.out, by decide, by rw [HN.out]; exact hl, Nat.lt_succ_self _, HR.out, rfl⟩
  case round =>
    obtain ⟨a, l, th, ys, f, G, hth, hyl, hf, hp, hk⟩ := hrel
    have HG := Lib.hid G
    have HP := Lib.hid hp
    have HTH := Lib.hid hth
    have HL := Lib.hid (left_any wr gr _ G.rd)
    clear G hp hth HG1 HR
    obtain ⟨f, rfl⟩ : ∃ f', f = f' + 1 := ⟨f - 1, by omega⟩
    match ys, hyl, hf, hk, HP, HG, HL with
    | [], hyl, hf, hk, HP, HG, HL =>
      obtain ⟨t0, t1⟩ := allTh_bd th HTH.out
      have HWH := Lib.hid (whole_any _ _ _ _ _ _ wr HG.out.hd t0 t1)
      have HAR := Lib.hid (show A = if wholeB th then (a, 1) else (At.zero, 2) from by rw [HA.out, ← HP.out]; rfl)
      have O1 := Lib.hid HG.out.out
      have K1 := Lib.hid HG.out.hd.blk
      clear hyl hf hk t0 t1
      have o0 := O1.out.cell 0 (by simp)
      have fo0 := O1.out.f 0
      have o1 := O1.out.cell 1 (by simp)
      have fo1 := O1.out.f 1
      have o2 := O1.out.cell 2 (by simp)
      have fo2 := O1.out.f 2
      have o3 := O1.out.cell 3 (by simp)
      have fo3 := O1.out.f 3
      have o4 := O1.out.cell 4 (by simp)
      have fo4 := O1.out.f 4
      have o5 := O1.out.cell 5 (by simp)
      have fo5 := O1.out.f 5
      obtain ⟨lpp, lpn, lpc, lcp, lcn, lcc⟩ := l
      obtain ⟨ao, ap, an, am, ar, ac⟩ := a
      have k0 := K1.out.cell 0 (by simp [hdL])
      have k1 := K1.out.cell 1 (by simp [hdL])
      have k2 := K1.out.cell 2 (by simp [hdL])
      have k3 := K1.out.cell 3 (by simp [hdL])
      have k4 := K1.out.cell 4 (by simp [hdL])
      have k5 := K1.out.cell 5 (by simp [hdL])
      simp only [hdL, List.getD_cons_zero, List.getD_cons_succ] at k0 k1 k2 k3 k4 k5
      rcases hwh : wholeB th with _ | _
      · rw [hwh] at HWH HAR
        have HAR' := Lib.hid (show A = (At.zero, 2) from HAR.out)
        clear hwh HAR
        go_wp2_with fail
        refine HL.out.mono ?_; rintro e w2 ⟨rfl, rfl⟩
        rw [show leftV (some ([] : List Int)) = 0 from rfl]
        go_wp2_with fail
        refine HWH.out.mono ?_; rintro e w2 ⟨rfl, rfl⟩
        go_wp2_with fail
        refine bodyPost_ret (v := .tuple #[.agg #[.int .i64 0, .slice none 0 0, .int .u32 0, .int .i64 0, .int .i64 0, .slice none 0 0], .int .i64 2]) (by simp [results, Tryd.results65, go_sem, o0, o1, o2, o3, o4, o5]) rfl ?_
        rw [HAR'.out]
        exact ⟨⟨none, 0, 0, none, 0, 0⟩, rfl, zero_at _, below6 HG.out.bel (Nat.le_refl _) _ _ _ _ _ _⟩
      · rw [hwh] at HWH HAR
        have HAR' := Lib.hid (show A = (⟨ao, ap, an, am, ar, ac⟩, 1) from HAR.out)
        clear hwh HAR
        go_wp2_with fail
        refine HL.out.mono ?_; rintro e w2 ⟨rfl, rfl⟩
        rw [show leftV (some ([] : List Int)) = 0 from rfl]
        go_wp2_with fail
        refine HWH.out.mono ?_; rintro e w2 ⟨rfl, rfl⟩
        go_wp2_with fail
        refine bodyPost_ret (v := .tuple #[.agg #[.int .i64 ao, .slice lpp lpn lpc, .int .u32 an, .int .i64 am, .int .i64 ar, .slice lcp lcn lcc], .int .i64 1]) (by simp [results, Tryd.results65, go_sem, o0, o1, o2, o3, o4, o5]) rfl ?_
        rw [HAR'.out]
        exact ⟨⟨lpp, lpn, lpc, lcp, lcn, lcc⟩, rfl, at_of (HG.out.hd.path.past HG.out.out (by decide) (by decide) (gb6 _ _ _ _ _ _ _ _)) (row_past HG.out.hd.comms HG.out.out (by decide) (gb6 _ _ _ _ _ _ _ _)) HG.out.hd.n0 HG.out.hd.n1, below6 HG.out.bel (Nat.le_refl _) _ _ _ _ _ _⟩
    | [x], hyl, hf, hk, HP, HG, HL =>
      obtain ⟨x0, x1⟩ := inByte_cons HG.out.rd.inb
      have HN1 := Lib.hid (num1_cons (k := x) (t := []) HG.out.rd)
      have HAR := Lib.hid (show A = (At.zero, 3) from by rw [HA.out, ← HP.out]; rfl)
      clear hyl hf hk
      go_wp2_with fail
      refine HL.out.mono ?_; rintro e w2 ⟨rfl, rfl⟩
      rw [show leftV (some [x]) = 1 from rfl]
      go_wp2_with fail
      refine HN1.out.mono ?_; rintro e w2 ⟨rfl, hr, hg⟩
      have G2 := Lib.hid (HG.out.num hr hg (Nat.lt_succ_self _) hgr hgl)
      have HN2 := Lib.hid (num1_nil hr)
      clear hr hg HN1 HL
      go_wp2_with fail
      refine HN2.out.mono ?_; rintro e w3 ⟨rfl, hr, hg⟩
      have G3 := Lib.hid (G2.out.num hr hg (Nat.lt_succ_self _) hgr hgl)
      have HR3 := Lib.hid hr
      clear hr hg HN2
      rcases hwd : (bits BinOp.and IntKind.i64 x 16 != 0) with _ | _
      · have HWD := Lib.hid (show wideOf x = 1 from by unfold wideOf; rw [hwd]; rfl)
        have HN4 := Lib.hid (num_none 1 HR3.out)
        clear HWD
        go_wp2_with fail
        refine HN4.out.mono ?_; rintro e w4 ⟨rfl, hr, hg⟩
        have G4 := Lib.hid (G3.out.num hr hg (Nat.lt_succ_self _) hgr hgl)
        have HY := Lib.hid (bytes_bad 0 rfl hr)
        clear hr hg HN4
        go_wp2_with fail
        refine HY.out.mono ?_; rintro e w5 ⟨q, rfl, _, _, _, _, _, hr, hg⟩
        have G5 := Lib.hid (G4.out.num hr hg (Nat.lt_succ_self _) hgr hgl)
        have HB5 := Lib.hid (bad_any w5 gr _ hr)
        clear hr hg HY
        go_wp2_with fail
        refine HB5.out.mono ?_; rintro e w6 ⟨rfl, rfl⟩
        have O1 := Lib.hid G5.out.out
        have o0 := O1.out.cell 0 (by simp)
        have fo0 := O1.out.f 0
        have o1 := O1.out.cell 1 (by simp)
        have fo1 := O1.out.f 1
        have o2 := O1.out.cell 2 (by simp)
        have fo2 := O1.out.f 2
        have o3 := O1.out.cell 3 (by simp)
        have fo3 := O1.out.f 3
        have o4 := O1.out.cell 4 (by simp)
        have fo4 := O1.out.f 4
        have o5 := O1.out.cell 5 (by simp)
        have fo5 := O1.out.f 5
        go_wp2_with fail
        refine bodyPost_ret (v := .tuple #[.agg #[.int .i64 0, .slice none 0 0, .int .u32 0, .int .i64 0, .int .i64 0, .slice none 0 0], .int .i64 3]) (by simp [results, Tryd.results65, go_sem, o0, o1, o2, o3, o4, o5]) rfl ?_
        rw [HAR.out]
        exact ⟨⟨none, 0, 0, none, 0, 0⟩, rfl, zero_at _, below6 G5.out.bel (Nat.le_refl _) _ _ _ _ _ _⟩
      · have HWD := Lib.hid (show wideOf x = 2 from by unfold wideOf; rw [hwd]; rfl)
        have HN4 := Lib.hid (num_none 2 HR3.out)
        clear HWD
        go_wp2_with fail
        refine HN4.out.mono ?_; rintro e w4 ⟨rfl, hr, hg⟩
        have G4 := Lib.hid (G3.out.num hr hg (Nat.lt_succ_self _) hgr hgl)
        have HY := Lib.hid (bytes_bad 0 rfl hr)
        clear hr hg HN4
        go_wp2_with fail
        refine HY.out.mono ?_; rintro e w5 ⟨q, rfl, _, _, _, _, _, hr, hg⟩
        have G5 := Lib.hid (G4.out.num hr hg (Nat.lt_succ_self _) hgr hgl)
        have HB5 := Lib.hid (bad_any w5 gr _ hr)
        clear hr hg HY
        go_wp2_with fail
        refine HB5.out.mono ?_; rintro e w6 ⟨rfl, rfl⟩
        have O1 := Lib.hid G5.out.out
        have o0 := O1.out.cell 0 (by simp)
        have fo0 := O1.out.f 0
        have o1 := O1.out.cell 1 (by simp)
        have fo1 := O1.out.f 1
        have o2 := O1.out.cell 2 (by simp)
        have fo2 := O1.out.f 2
        have o3 := O1.out.cell 3 (by simp)
        have fo3 := O1.out.f 3
        have o4 := O1.out.cell 4 (by simp)
        have fo4 := O1.out.f 4
        have o5 := O1.out.cell 5 (by simp)
        have fo5 := O1.out.f 5
        go_wp2_with fail
        refine bodyPost_ret (v := .tuple #[.agg #[.int .i64 0, .slice none 0 0, .int .u32 0, .int .i64 0, .int .i64 0, .slice none 0 0], .int .i64 3]) (by simp [results, Tryd.results65, go_sem, o0, o1, o2, o3, o4, o5]) rfl ?_
        rw [HAR.out]
        exact ⟨⟨none, 0, 0, none, 0, 0⟩, rfl, zero_at _, below6 G5.out.bel (Nat.le_refl _) _ _ _ _ _ _⟩
    | x :: k :: t, hyl, hf, hk, HP, HG, HL =>
      obtain ⟨x0, x1⟩ := inByte_cons HG.out.rd.inb
      obtain ⟨k0, k1⟩ := inByte_cons (inByte_tail HG.out.rd.inb)
      obtain ⟨kn, rfl⟩ := Int.eq_ofNat_of_zero_le k0
      have hkn : kn ≤ 255 := by omega
      have HIN := Lib.hid (inByte_tail (inByte_tail HG.out.rd.inb))
      have HN1 := Lib.hid (num1_cons (k := x) (t := (kn : Int) :: t) HG.out.rd)
      have HEV := Lib.hid (show getS four (f + 1) (a, th) (x :: (kn : Int) :: t) = if wideOf x ≤ t.length then (if (getV (t.take (wideOf x))).toNat ≤ (t.drop (wideOf x)).length then (takeV four (a, th) x kn ((t.drop (wideOf x)).take (getV (t.take (wideOf x))).toNat)).bind (fun s' => getS four f s' ((t.drop (wideOf x)).drop (getV (t.take (wideOf x))).toNat)) else none) else none from rfl)
      have HLV := Lib.hid (show leftV (some (x :: (kn : Int) :: t)) = t.length + 2 from rfl)
      have hkl : gk = t.length + 2 := hk
      have hfl : t.length + 1 < f := by simp at hf; omega
      have htl : t.length ≤ 1000000 := by simp at hyl; omega
      clear hyl hf hk k0 k1
      go_wp2_with fail
      refine HL.out.mono ?_; rintro e w2 ⟨rfl, rfl⟩
      rw [HLV.out]
      go_wp2_with fail
      refine HN1.out.mono ?_; rintro e w2 ⟨rfl, hr, hg⟩
      have G2 := Lib.hid (HG.out.num hr hg (Nat.lt_succ_self _) hgr hgl)
      have HN2 := Lib.hid (num1_cons (k := (kn : Int)) (t := t) hr)
      clear hr hg HN1 HL HG
      go_wp2_with fail
      refine HN2.out.mono ?_; rintro e w3 ⟨rfl, hr, hg⟩
      have G3 := Lib.hid (G2.out.num hr hg (Nat.lt_succ_self _) hgr hgl)
      clear hr hg HN2 G2
      rcases hwd : (bits BinOp.and IntKind.i64 x 16 != 0) with _ | _
      · have HWD := Lib.hid (show wideOf x = 1 from by unfold wideOf; rw [hwd]; rfl)
        rw [HWD.out] at HEV
        by_cases hw : 1 ≤ t.length
        · have HN4 := Lib.hid (num_ok 1 1 rfl (by omega) (by omega) hw G3.out.rd)
          have HE1 := Lib.hid (HEV.out.trans (if_pos hw))
          have hvb : 0 ≤ getV (t.take 1) ∧ getV (t.take 1) < 65536 := by
            have := getV_bd t HIN.out 1 hw
            have hp : (256 : Int) ^ 1 ≤ 65536 := by decide
            omega
          obtain ⟨j, hj⟩ := Int.eq_ofNat_of_zero_le hvb.1
          have hj2 : j < 65536 := by omega
          rw [hj] at HN4 HE1
          obtain ⟨r, hr0⟩ : ∃ r, t.drop 1 = r := ⟨_, rfl⟩
          have HRL := Lib.hid (show r.length + 1 = t.length by rw [← hr0, List.length_drop]; omega)
          rw [hr0] at HN4 HE1
          clear HEV hvb hj hr0 hw HWD
          go_wp2_with fail
          refine HN4.out.mono ?_; rintro e w4 ⟨rfl, hr, hg⟩
          have G4 := Lib.hid (G3.out.num hr hg (Nat.lt_succ_self _) hgr hgl)
          clear hr hg HN4 G3
          by_cases hjl : j ≤ r.length
          · have HY := Lib.hid (bytes_ok (j : Int) j rfl hjl G4.out.rd)
            have HE2 := Lib.hid (HE1.out.trans (if_pos (by rw [Int.toNat_natCast]; exact hjl)))
            rw [Int.toNat_natCast] at HE2
            go_wp2_with fail
            refine HY.out.mono ?_; rintro e w5 ⟨q, rfl, hrow, hin, hlen, hq1, hq2, hr, hg⟩
            have G5 := Lib.hid (G4.out.num hr hg (Nat.lt_succ_self _) hgr hgl)
            have HB5 := Lib.hid (bad_any w5 gr _ hr)
            have hqg : q ≠ w.heap.size + 1 := by have := G4.out.sz; omega
            have HTK := Lib.hid (takeA_any w1.heap.size (w.heap.size + 1) a l th x four kn (some ⟨q, 0, none⟩) (r.take j) j j w5 (HT.out.below G5.out.bel) G5.out.hd G5.out.sz (by omega) (fun u hu => (hrow.grown hqg hu).bytes hin) hlen (by omega) HTH.out x0 x1 hkn)
            clear hr hg hrow hin hlen hq1 hq2 hqg HY HE1 G4
            go_wp2_with fail
            refine HB5.out.mono ?_; rintro e w6 ⟨rfl, rfl⟩
            rw [show (some (List.drop j r)).isNone = false from rfl]
            obtain ⟨tk, htk⟩ : ∃ tk, takeV four (a, th) x kn (r.take j) = tk := ⟨_, rfl⟩
            have HTV := Lib.hid htk
            rw [htk] at HTK HE2
            clear htk
            rcases tk with _ | ⟨a', th'⟩
            · have HAR := Lib.hid (show A = (At.zero, 3) from by rw [HA.out, ← HP.out, HE2.out]; rfl)
              go_wp2_with fail
              refine HTK.out.mono ?_; rintro e w7 ⟨rfl, hg⟩
              have HB7 := Lib.hid (below_new G5.out.bel hg (Nat.le_succ _) G5.out.bel.size)
              have O1 := Lib.hid (G5.out.out.grown (Nat.ne_of_lt (Nat.lt_succ_self _)) hg)
              clear hg HTK
              have o0 := O1.out.cell 0 (by simp)
              have fo0 := O1.out.f 0
              have o1 := O1.out.cell 1 (by simp)
              have fo1 := O1.out.f 1
              have o2 := O1.out.cell 2 (by simp)
              have fo2 := O1.out.f 2
              have o3 := O1.out.cell 3 (by simp)
              have fo3 := O1.out.f 3
              have o4 := O1.out.cell 4 (by simp)
              have fo4 := O1.out.f 4
              have o5 := O1.out.cell 5 (by simp)
              have fo5 := O1.out.f 5
              go_wp2_with fail
              refine bodyPost_ret (v := .tuple #[.agg #[.int .i64 0, .slice none 0 0, .int .u32 0, .int .i64 0, .int .i64 0, .slice none 0 0], .int .i64 3]) (by simp [results, Tryd.results65, go_sem, o0, o1, o2, o3, o4, o5]) rfl ?_
              rw [HAR.out]
              exact ⟨⟨none, 0, 0, none, 0, 0⟩, rfl, zero_at _, below6 HB7.out (Nat.le_refl _) _ _ _ _ _ _⟩
            · have HTH' := Lib.hid (takeV_th hkn HTV.out HTH.out)
              go_wp2_with fail
              refine HTK.out.mono ?_; rintro e w7 ⟨⟨l', rfl, hh⟩, hg⟩
              have G7 := Lib.hid (G5.out.take hh hg (Nat.lt_succ_self _) hgr)
              clear hg hh HTK
              go_wp2_with fail
              go_roundg (r.drop j).length
              case rel => exact ⟨a', l', th', r.drop j, f, G7.out, HTH'.out, by rw [List.length_drop]; have := HRL.out; omega, by rw [List.length_drop]; have := HRL.out; omega, by rw [← HP.out, HE2.out]; rfl, rfl⟩
              case measure => rw [List.length_drop]; have := HRL.out; omega
          · have HY := Lib.hid (bytes_bad (j : Int) (by simp [okTake]; omega) G4.out.rd)
            have HAR := Lib.hid (show A = (At.zero, 3) from by rw [HA.out, ← HP.out, HE1.out, if_neg (by rw [Int.toNat_natCast]; exact hjl)]; rfl)
            go_wp2_with fail
            refine HY.out.mono ?_; rintro e w5 ⟨q, rfl, _, _, _, _, _, hr, hg⟩
            have G5 := Lib.hid (G4.out.num hr hg (Nat.lt_succ_self _) hgr hgl)
            have HB5 := Lib.hid (bad_any w5 gr _ hr)
            clear hr hg HY HE1
            go_wp2_with fail
            refine HB5.out.mono ?_; rintro e w6 ⟨rfl, rfl⟩
            have O1 := Lib.hid G5.out.out
            have o0 := O1.out.cell 0 (by simp)
            have fo0 := O1.out.f 0
            have o1 := O1.out.cell 1 (by simp)
            have fo1 := O1.out.f 1
            have o2 := O1.out.cell 2 (by simp)
            have fo2 := O1.out.f 2
            have o3 := O1.out.cell 3 (by simp)
            have fo3 := O1.out.f 3
            have o4 := O1.out.cell 4 (by simp)
            have fo4 := O1.out.f 4
            have o5 := O1.out.cell 5 (by simp)
            have fo5 := O1.out.f 5
            go_wp2_with fail
            refine bodyPost_ret (v := .tuple #[.agg #[.int .i64 0, .slice none 0 0, .int .u32 0, .int .i64 0, .int .i64 0, .slice none 0 0], .int .i64 3]) (by simp [results, Tryd.results65, go_sem, o0, o1, o2, o3, o4, o5]) rfl ?_
            rw [HAR.out]
            exact ⟨⟨none, 0, 0, none, 0, 0⟩, rfl, zero_at _, below6 G5.out.bel (Nat.le_refl _) _ _ _ _ _ _⟩
        · have HN4 := Lib.hid (num_short 1 1 rfl (by omega) G3.out.rd)
          have HAR := Lib.hid (show A = (At.zero, 3) from by rw [HA.out, ← HP.out, HEV.out, if_neg hw]; rfl)
          clear HEV HWD
          go_wp2_with fail
          refine HN4.out.mono ?_; rintro e w4 ⟨rfl, hr, hg⟩
          have G4 := Lib.hid (G3.out.num hr hg (Nat.lt_succ_self _) hgr hgl)
          have HY := Lib.hid (bytes_bad 0 rfl hr)
          clear hr hg HN4
          go_wp2_with fail
          refine HY.out.mono ?_; rintro e w5 ⟨q, rfl, _, _, _, _, _, hr, hg⟩
          have G5 := Lib.hid (G4.out.num hr hg (Nat.lt_succ_self _) hgr hgl)
          have HB5 := Lib.hid (bad_any w5 gr _ hr)
          clear hr hg HY
          go_wp2_with fail
          refine HB5.out.mono ?_; rintro e w6 ⟨rfl, rfl⟩
          have O1 := Lib.hid G5.out.out
          have o0 := O1.out.cell 0 (by simp)
          have fo0 := O1.out.f 0
          have o1 := O1.out.cell 1 (by simp)
          have fo1 := O1.out.f 1
          have o2 := O1.out.cell 2 (by simp)
          have fo2 := O1.out.f 2
          have o3 := O1.out.cell 3 (by simp)
          have fo3 := O1.out.f 3
          have o4 := O1.out.cell 4 (by simp)
          have fo4 := O1.out.f 4
          have o5 := O1.out.cell 5 (by simp)
          have fo5 := O1.out.f 5
          go_wp2_with fail
          refine bodyPost_ret (v := .tuple #[.agg #[.int .i64 0, .slice none 0 0, .int .u32 0, .int .i64 0, .int .i64 0, .slice none 0 0], .int .i64 3]) (by simp [results, Tryd.results65, go_sem, o0, o1, o2, o3, o4, o5]) rfl ?_
          rw [HAR.out]
          exact ⟨⟨none, 0, 0, none, 0, 0⟩, rfl, zero_at _, below6 G5.out.bel (Nat.le_refl _) _ _ _ _ _ _⟩
      · have HWD := Lib.hid (show wideOf x = 2 from by unfold wideOf; rw [hwd]; rfl)
        rw [HWD.out] at HEV
        by_cases hw : 2 ≤ t.length
        · have HN4 := Lib.hid (num_ok 2 2 rfl (by omega) (by omega) hw G3.out.rd)
          have HE1 := Lib.hid (HEV.out.trans (if_pos hw))
          have hvb : 0 ≤ getV (t.take 2) ∧ getV (t.take 2) < 65536 := by
            have := getV_bd t HIN.out 2 hw
            have hp : (256 : Int) ^ 2 ≤ 65536 := by decide
            omega
          obtain ⟨j, hj⟩ := Int.eq_ofNat_of_zero_le hvb.1
          have hj2 : j < 65536 := by omega
          rw [hj] at HN4 HE1
          obtain ⟨r, hr0⟩ : ∃ r, t.drop 2 = r := ⟨_, rfl⟩
          have HRL := Lib.hid (show r.length + 2 = t.length by rw [← hr0, List.length_drop]; omega)
          rw [hr0] at HN4 HE1
          clear HEV hvb hj hr0 hw HWD
          go_wp2_with fail
          refine HN4.out.mono ?_; rintro e w4 ⟨rfl, hr, hg⟩
          have G4 := Lib.hid (G3.out.num hr hg (Nat.lt_succ_self _) hgr hgl)
          clear hr hg HN4 G3
          by_cases hjl : j ≤ r.length
          · have HY := Lib.hid (bytes_ok (j : Int) j rfl hjl G4.out.rd)
            have HE2 := Lib.hid (HE1.out.trans (if_pos (by rw [Int.toNat_natCast]; exact hjl)))
            rw [Int.toNat_natCast] at HE2
            go_wp2_with fail
            refine HY.out.mono ?_; rintro e w5 ⟨q, rfl, hrow, hin, hlen, hq1, hq2, hr, hg⟩
            have G5 := Lib.hid (G4.out.num hr hg (Nat.lt_succ_self _) hgr hgl)
            have HB5 := Lib.hid (bad_any w5 gr _ hr)
            have hqg : q ≠ w.heap.size + 1 := by have := G4.out.sz; omega
            have HTK := Lib.hid (takeA_any w1.heap.size (w.heap.size + 1) a l th x four kn (some ⟨q, 0, none⟩) (r.take j) j j w5 (HT.out.below G5.out.bel) G5.out.hd G5.out.sz (by omega) (fun u hu => (hrow.grown hqg hu).bytes hin) hlen (by omega) HTH.out x0 x1 hkn)
            clear hr hg hrow hin hlen hq1 hq2 hqg HY HE1 G4
            go_wp2_with fail
            refine HB5.out.mono ?_; rintro e w6 ⟨rfl, rfl⟩
            rw [show (some (List.drop j r)).isNone = false from rfl]
            obtain ⟨tk, htk⟩ : ∃ tk, takeV four (a, th) x kn (r.take j) = tk := ⟨_, rfl⟩
            have HTV := Lib.hid htk
            rw [htk] at HTK HE2
            clear htk
            rcases tk with _ | ⟨a', th'⟩
            · have HAR := Lib.hid (show A = (At.zero, 3) from by rw [HA.out, ← HP.out, HE2.out]; rfl)
              go_wp2_with fail
              refine HTK.out.mono ?_; rintro e w7 ⟨rfl, hg⟩
              have HB7 := Lib.hid (below_new G5.out.bel hg (Nat.le_succ _) G5.out.bel.size)
              have O1 := Lib.hid (G5.out.out.grown (Nat.ne_of_lt (Nat.lt_succ_self _)) hg)
              clear hg HTK
              have o0 := O1.out.cell 0 (by simp)
              have fo0 := O1.out.f 0
              have o1 := O1.out.cell 1 (by simp)
              have fo1 := O1.out.f 1
              have o2 := O1.out.cell 2 (by simp)
              have fo2 := O1.out.f 2
              have o3 := O1.out.cell 3 (by simp)
              have fo3 := O1.out.f 3
              have o4 := O1.out.cell 4 (by simp)
              have fo4 := O1.out.f 4
              have o5 := O1.out.cell 5 (by simp)
              have fo5 := O1.out.f 5
              go_wp2_with fail
              refine bodyPost_ret (v := .tuple #[.agg #[.int .i64 0, .slice none 0 0, .int .u32 0, .int .i64 0, .int .i64 0, .slice none 0 0], .int .i64 3]) (by simp [results, Tryd.results65, go_sem, o0, o1, o2, o3, o4, o5]) rfl ?_
              rw [HAR.out]
              exact ⟨⟨none, 0, 0, none, 0, 0⟩, rfl, zero_at _, below6 HB7.out (Nat.le_refl _) _ _ _ _ _ _⟩
            · have HTH' := Lib.hid (takeV_th hkn HTV.out HTH.out)
              go_wp2_with fail
              refine HTK.out.mono ?_; rintro e w7 ⟨⟨l', rfl, hh⟩, hg⟩
              have G7 := Lib.hid (G5.out.take hh hg (Nat.lt_succ_self _) hgr)
              clear hg hh HTK
              go_wp2_with fail
              go_roundg (r.drop j).length
              case rel => exact ⟨a', l', th', r.drop j, f, G7.out, HTH'.out, by rw [List.length_drop]; have := HRL.out; omega, by rw [List.length_drop]; have := HRL.out; omega, by rw [← HP.out, HE2.out]; rfl, rfl⟩
              case measure => rw [List.length_drop]; have := HRL.out; omega
          · have HY := Lib.hid (bytes_bad (j : Int) (by simp [okTake]; omega) G4.out.rd)
            have HAR := Lib.hid (show A = (At.zero, 3) from by rw [HA.out, ← HP.out, HE1.out, if_neg (by rw [Int.toNat_natCast]; exact hjl)]; rfl)
            go_wp2_with fail
            refine HY.out.mono ?_; rintro e w5 ⟨q, rfl, _, _, _, _, _, hr, hg⟩
            have G5 := Lib.hid (G4.out.num hr hg (Nat.lt_succ_self _) hgr hgl)
            have HB5 := Lib.hid (bad_any w5 gr _ hr)
            clear hr hg HY HE1
            go_wp2_with fail
            refine HB5.out.mono ?_; rintro e w6 ⟨rfl, rfl⟩
            have O1 := Lib.hid G5.out.out
            have o0 := O1.out.cell 0 (by simp)
            have fo0 := O1.out.f 0
            have o1 := O1.out.cell 1 (by simp)
            have fo1 := O1.out.f 1
            have o2 := O1.out.cell 2 (by simp)
            have fo2 := O1.out.f 2
            have o3 := O1.out.cell 3 (by simp)
            have fo3 := O1.out.f 3
            have o4 := O1.out.cell 4 (by simp)
            have fo4 := O1.out.f 4
            have o5 := O1.out.cell 5 (by simp)
            have fo5 := O1.out.f 5
            go_wp2_with fail
            refine bodyPost_ret (v := .tuple #[.agg #[.int .i64 0, .slice none 0 0, .int .u32 0, .int .i64 0, .int .i64 0, .slice none 0 0], .int .i64 3]) (by simp [results, Tryd.results65, go_sem, o0, o1, o2, o3, o4, o5]) rfl ?_
            rw [HAR.out]
            exact ⟨⟨none, 0, 0, none, 0, 0⟩, rfl, zero_at _, below6 G5.out.bel (Nat.le_refl _) _ _ _ _ _ _⟩
        · have HN4 := Lib.hid (num_short 2 2 rfl (by omega) G3.out.rd)
          have HAR := Lib.hid (show A = (At.zero, 3) from by rw [HA.out, ← HP.out, HEV.out, if_neg hw]; rfl)
          clear HEV HWD
          go_wp2_with fail
          refine HN4.out.mono ?_; rintro e w4 ⟨rfl, hr, hg⟩
          have G4 := Lib.hid (G3.out.num hr hg (Nat.lt_succ_self _) hgr hgl)
          have HY := Lib.hid (bytes_bad 0 rfl hr)
          clear hr hg HN4
          go_wp2_with fail
          refine HY.out.mono ?_; rintro e w5 ⟨q, rfl, _, _, _, _, _, hr, hg⟩
          have G5 := Lib.hid (G4.out.num hr hg (Nat.lt_succ_self _) hgr hgl)
          have HB5 := Lib.hid (bad_any w5 gr _ hr)
          clear hr hg HY
          go_wp2_with fail
          refine HB5.out.mono ?_; rintro e w6 ⟨rfl, rfl⟩
          have O1 := Lib.hid G5.out.out
          have o0 := O1.out.cell 0 (by simp)
          have fo0 := O1.out.f 0
          have o1 := O1.out.cell 1 (by simp)
          have fo1 := O1.out.f 1
          have o2 := O1.out.cell 2 (by simp)
          have fo2 := O1.out.f 2
          have o3 := O1.out.cell 3 (by simp)
          have fo3 := O1.out.f 3
          have o4 := O1.out.cell 4 (by simp)
          have fo4 := O1.out.f 4
          have o5 := O1.out.cell 5 (by simp)
          have fo5 := O1.out.f 5
          go_wp2_with fail
          refine bodyPost_ret (v := .tuple #[.agg #[.int .i64 0, .slice none 0 0, .int .u32 0, .int .i64 0, .int .i64 0, .slice none 0 0], .int .i64 3]) (by simp [results, Tryd.results65, go_sem, o0, o1, o2, o3, o4, o5]) rfl ?_
          rw [HAR.out]
          exact ⟨⟨none, 0, 0, none, 0, 0⟩, rfl, zero_at _, below6 G5.out.bel (Nat.le_refl _) _ _ _ _ _ _⟩
end Go.Proofs.YtpeagakpmjnelaaDoor.Ax
