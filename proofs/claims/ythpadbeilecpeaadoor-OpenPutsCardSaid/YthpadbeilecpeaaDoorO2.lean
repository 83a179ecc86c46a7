/- open: capabilities, Put, Message. -/
import Derived.Test.YthpadbeilecpeaaDoorO1
import Derived.Deep.RegionHeldLaw
namespace Go.Proofs.YthpadbeilecpeaaDoor
open Go.RowKit

/-- What a number fits: the AS, Hold, the ID and Paths of what may be said. -/
structure FitO (o : Op) : Prop where
  a0 : 0 ≤ o.asn
  a1 : o.asn ≤ 4294967295
  h0 : 0 ≤ o.hold
  h1 : o.hold ≤ 65535
  i0 : 0 ≤ o.id
  i1 : o.id ≤ 4294967295
  p0 : 0 ≤ o.paths
  p1 : o.paths ≤ 3
theorem okO_fit {o : Op} (h : okO o = true) (i0 : 0 ≤ o.id) (i1 : o.id ≤ 4294967295) : FitO o := by
  obtain ⟨a1, a2, a3, a4, a5, a6⟩ := okO_yes h
  have := (mostAS_le o.four).2
  have := holdB_yes a3
  exact ⟨by omega, by omega, by omega, by omega, i0, i1, a5, a6⟩

theorem part_new (w : World) (B : Nat) (k : Int) (xs : List Int) (n : Nat) (hn : xs.length = n) (hl : n ≤ 255) (k0 : 0 ≤ k) (k1 : k ≤ 255) (p : Option Addr) (c : Nat) (hb : BytesAt w p xs) (hB : B ≤ w.heap.size) :
    Calls Tryd.prog 12 #[.int .u8 k, .slice p n c] w fun e w' => ∃ q cap, e = .returned (.slice q (n + 2) cap) ∧ Own w' B q cap (k :: (n : Int) :: xs) ∧ Below w.heap.size w w' :=
  (part_any k p xs n c w k0 k1 hb hn hl).mono fun e w' ⟨q, cap, he, hO, hbl⟩ => ⟨q, cap, by rw [he]; simp [hn], hO.mono hB, hbl⟩

theorem number_new (n I : Int) (wide : Nat) (hI : I = wide) (w : World) (h1 : 1 ≤ wide) (h4 : wide ≤ 4) (h : fitsB n wide = true) :
    Calls Tryd.prog 14 #[.int .i64 n, .int .i64 I] w fun e w' => e = .returned (.slice (some ⟨w.heap.size, 0, none⟩) wide wide) ∧ BRow w' w.heap.size (putL n wide) ∧ Below w.heap.size w w' := by
  subst hI; exact number_any n wide w h1 h4 h
/-- Capabilities, up to where the ways part. -/
def baseC (o : Op) : List Int := 1 :: 4 :: 0 :: 1 :: 0 :: 1 :: fourC o
theorem capsO_base (o : Op) : capsO o = baseC o ++ pathsC o := rfl
theorem fit_family : fitsB 257 (3 : Nat) = true := by decide
theorem put_family : putL 257 3 = [0, 1, 1] := by decide
theorem szd_alloc (w : World) (o : Obj) : (w.alloc o).drew.heap.size = w.heap.size + 1 := by simp
theorem own3 {w : World} {B g : Nat} (h : BRow w g (putL 257 3)) (hB : B ≤ g) : Own w B (some ⟨g, 0, none⟩) 3 [0, 1, 1] := by
  rw [put_family] at h
  exact Own.of_row h (inByte_all (by decide)) (by unfold maxLen; simp) hB
/-- What is kept between the steps of a list of bytes that grows. -/
structure GrowSt (W : World) (B g : Nat) (t : TypeId) (vs : List Value) (w : World) (q : Option Addr) (cap : Nat) (xs : List Int) : Prop where
  own : Own w B q cap xs
  blk : Blk w g t vs
  bel : Below B W w
  hg : g < B
  hB : B ≤ w.heap.size
theorem GrowSt.next {W w w' : World} {B g : Nat} {t : TypeId} {vs : List Value} {q : Option Addr} {cap : Nat} {xs : List Int} (h : GrowSt W B g t vs w q cap xs) (hb : Below w.heap.size w w') : GrowSt W B g t vs w' q cap xs :=
  ⟨h.own.below hb, h.blk.next hb, h.bel.trans (hb.mono h.hB), h.hg, Nat.le_trans h.hB hb.size⟩
theorem GrowSt.app {W w w' : World} {B g : Nat} {t : TypeId} {vs : List Value} {q q' : Option Addr} {cap cap' : Nat} {xs ys : List Int} (h : GrowSt W B g t vs w q cap xs) (hO : Own w' B q' cap' ys) (hb : Below B w w') : GrowSt W B g t vs w' q' cap' ys :=
  ⟨hO, h.blk.below hb h.hg, h.bel.trans hb, h.hg, Nat.le_trans h.hB hb.size⟩
theorem GrowSt.drew {W w : World} {B g : Nat} {t : TypeId} {vs : List Value} {q : Option Addr} {cap : Nat} {xs : List Int} (h : GrowSt W B g t vs w q cap xs) : GrowSt W B g t vs w.drew q cap xs :=
  h.next (Below.refl _ _).drew
theorem lit4 (w : World) (a b c d : Int) (h : InByte [a, b, c, d]) : BytesAt (w.alloc (.cells #[.int .u8 a, .int .u8 b, .int .u8 c, .int .u8 d] 5)) (some ⟨w.heap.size, 0, none⟩) [a, b, c, d] := (brow_new w [a, b, c, d]).bytes h

set_option maxRecDepth 100000 in
set_option maxHeartbeats 2000000 in
theorem caps_nn (o : Op) (w : World) (hf : FitO o) (h4 : o.four = false) (hp : o.paths = 0) :
    Calls Tryd.prog 13 #[o.v] w fun e w' => RetB w w' (capsO o) e := by
  have HC := Lib.hid (capsO_base o)
  have HF := Lib.hid hf
  have HBC := Lib.hid (show baseC o = [1, 4, 0, 1, 0, 1] by simp [baseC, fourC, h4])
  have HPC := Lib.hid (show pathsC o = [] by simp [pathsC, hp])
  obtain ⟨asn, hold, id, four, paths⟩ := o
  simp only at h4 hp
  subst h4
  subst hp
  clear hf
  unfold Op.v
  simp only
  have HX := Lib.hid (Blk.new w 24 [.int .i64 asn, .int .i64 hold, .int .u32 id, .bool false, .int .i64 0])
  obtain ⟨W, hW⟩ : ∃ W, w.alloc (.cells #[.int .i64 asn, .int .i64 hold, .int .u32 id, .bool false, .int .i64 0] 24) = W := ⟨_, rfl⟩
  have HXW := Lib.hid (show Blk W w.heap.size 24 [.int .i64 asn, .int .i64 hold, .int .u32 id, .bool false, .int .i64 0] by rw [← hW]; exact HX.out)
  have HS := Lib.hid (show W.heap.size = w.heap.size + 1 by rw [← hW]; simp)
  have H1 := Lib.hid (show Below w.heap.size w W by rw [← hW]; exact new_below _ _)
  have HB := Lib.hid (show BytesAt (W.alloc (.cells #[.int .u8 0, .int .u8 1, .int .u8 0, .int .u8 1] 5)) (some ⟨w.heap.size + 1, 0, none⟩) [0, 1, 0, 1] from by rw [← HS.out]; exact lit4 W 0 1 0 1 (inByte_all (by decide)))
  have HN := Lib.hid (new_below W (.cells #[.int .u8 0, .int .u8 1, .int .u8 0, .int .u8 1] 5))
  have HW := Lib.hid hW
  clear hW HX
  go_enter Tryd.func13, Tryd.ntmps13
  go_wp2_with fail
  rw [HW.out]
  (with_reducible refine (part_new _ (w.heap.size + 1) 1 [0, 1, 0, 1] 4 rfl (by omega) (by omega) (by omega) _ _ HB.out ?hs1).mono ?_); (case hs1 => have := HS.out; simp; omega); rintro e w2 ⟨q, cap, rfl, hO, hb⟩
  have G2 := Lib.hid (show GrowSt W (w.heap.size + 1) w.heap.size 24 [.int .i64 asn, .int .i64 hold, .int .u32 id, .bool false, .int .i64 0] w2 q cap [1, 4, 0, 1, 0, 1] from ⟨hO, (HXW.out.next HN.out).next hb, by rw [← HS.out]; exact HN.out.trans (hb.mono HN.out.size), by omega, by rw [← HS.out]; exact Nat.le_trans HN.out.size hb.size⟩)
  have c3 := G2.out.blk.cell 3 (by simp)
  have c4 := G2.out.blk.cell 4 (by simp)
  clear hO hb HB HN HXW HW HS
  go_wp2_with fail
  go_ret
  exact ⟨q, cap, by rw [HC.out, HBC.out, HPC.out]; rfl, by rw [HC.out, HBC.out, HPC.out, List.append_nil]; exact G2.out.own.mono (by omega), H1.out.trans (G2.out.bel.mono (by omega))⟩

set_option maxRecDepth 100000 in
set_option maxHeartbeats 2000000 in
theorem caps_fn (o : Op) (w : World) (hf : FitO o) (h4 : o.four = true) (hp : o.paths = 0) :
    Calls Tryd.prog 13 #[o.v] w fun e w' => RetB w w' (capsO o) e := by
  have HC := Lib.hid (capsO_base o)
  have HF := Lib.hid hf
  have HBC := Lib.hid (show baseC o = [1, 4, 0, 1, 0, 1] ++ (65 :: ((4 : Nat) : Int) :: putL o.asn 4) by simp [baseC, fourC, h4])
  have HPC := Lib.hid (show pathsC o = [] by simp [pathsC, hp])
  obtain ⟨asn, hold, id, four, paths⟩ := o
  simp only at h4 hp
  subst h4
  subst hp
  have HFA := Lib.hid (show fitsB asn (4 : Nat) = true from fits4 hf.a0 hf.a1)
  clear hf
  unfold Op.v
  simp only
  have HX := Lib.hid (Blk.new w 24 [.int .i64 asn, .int .i64 hold, .int .u32 id, .bool true, .int .i64 0])
  obtain ⟨W, hW⟩ : ∃ W, w.alloc (.cells #[.int .i64 asn, .int .i64 hold, .int .u32 id, .bool true, .int .i64 0] 24) = W := ⟨_, rfl⟩
  have HXW := Lib.hid (show Blk W w.heap.size 24 [.int .i64 asn, .int .i64 hold, .int .u32 id, .bool true, .int .i64 0] by rw [← hW]; exact HX.out)
  have HS := Lib.hid (show W.heap.size = w.heap.size + 1 by rw [← hW]; simp)
  have H1 := Lib.hid (show Below w.heap.size w W by rw [← hW]; exact new_below _ _)
  have HB := Lib.hid (show BytesAt (W.alloc (.cells #[.int .u8 0, .int .u8 1, .int .u8 0, .int .u8 1] 5)) (some ⟨w.heap.size + 1, 0, none⟩) [0, 1, 0, 1] from by rw [← HS.out]; exact lit4 W 0 1 0 1 (inByte_all (by decide)))
  have HN := Lib.hid (new_below W (.cells #[.int .u8 0, .int .u8 1, .int .u8 0, .int .u8 1] 5))
  have HW := Lib.hid hW
  clear hW HX
  go_enter Tryd.func13, Tryd.ntmps13
  go_wp2_with fail
  rw [HW.out]
  (with_reducible refine (part_new _ (w.heap.size + 1) 1 [0, 1, 0, 1] 4 rfl (by omega) (by omega) (by omega) _ _ HB.out ?hs1).mono ?_); (case hs1 => have := HS.out; simp; omega); rintro e w2 ⟨q, cap, rfl, hO, hb⟩
  have G2 := Lib.hid (show GrowSt W (w.heap.size + 1) w.heap.size 24 [.int .i64 asn, .int .i64 hold, .int .u32 id, .bool true, .int .i64 0] w2 q cap [1, 4, 0, 1, 0, 1] from ⟨hO, (HXW.out.next HN.out).next hb, by rw [← HS.out]; exact HN.out.trans (hb.mono HN.out.size), by omega, by rw [← HS.out]; exact Nat.le_trans HN.out.size hb.size⟩)
  have c3 := G2.out.blk.cell 3 (by simp)
  have c0 := G2.out.blk.cell 0 (by simp)
  clear hO hb HB HN HXW HW HS
  go_wp2_with fail
  (with_reducible refine (number_new asn 4 4 rfl _ (by omega) (by omega) HFA.out).mono ?_); rintro e w3 ⟨rfl, hr, hb⟩
  have G3 := Lib.hid (G2.out.next hb)
  have R3 := Lib.hid (hr.bytes (putL_byte asn 4))
  clear hr hb c0 c3
  go_wp2_with fail
  (with_reducible refine (part_new _ (w.heap.size + 1) 65 (putL asn 4) 4 (putL_len _ _) (by omega) (by omega) (by omega) _ _ R3.out G3.out.hB).mono ?_); rintro e w4 ⟨q4, cap4, rfl, hO, hb⟩
  have G4 := Lib.hid (G3.out.next hb)
  have R4 := Lib.hid hO.bytes
  clear hO hb
  go_wp2_with (refine wpList_appo (o := ⟨some 13, _, _, _, _, _⟩) (by rfl) (.tmp 8) (.tmp 12) (by rfl) (w.heap.size + 1) q cap [1, 4, 0, 1, 0, 1] G4.out.own 6 (by rfl) (by rfl) q4 6 cap4 (65 :: ((4 : Nat) : Int) :: putL asn 4) R4.out (by simp [putL_len]) (by rfl) 12 (by rfl) (by omega) G4.out.hB ?_; intro q5 cap5 w5 hO5 hB5 hG5; have G5 := Lib.hid (G4.out.app hO5.out hB5.out); have c4 := G5.out.blk.cell 4 (by simp))
  go_ret
  exact ⟨q5, cap5, by rw [HC.out, HBC.out, HPC.out]; rfl, by rw [HC.out, HBC.out, HPC.out, List.append_nil]; exact G5.out.own.mono (by omega), H1.out.trans (G5.out.bel.mono (by omega))⟩

set_option maxRecDepth 100000 in
set_option maxHeartbeats 2000000 in
theorem caps_np (o : Op) (w : World) (hf : FitO o) (h4 : o.four = false) (hp : o.paths ≠ 0) :
    Calls Tryd.prog 13 #[o.v] w fun e w' => RetB w w' (capsO o) e := by
  have HC := Lib.hid (capsO_base o)
  have HF := Lib.hid hf
  have HBC := Lib.hid (show baseC o = [1, 4, 0, 1, 0, 1] by simp [baseC, fourC, h4])
  have HPC := Lib.hid (show pathsC o = [69, 4, 0, 1, 1, o.paths] by simp [pathsC, hp])
  obtain ⟨asn, hold, id, four, paths⟩ := o
  simp only at h4 hp
  subst h4
  have hpn : (paths != 0) = true := by simpa using hp
  have hp0 := hf.p0
  have hp1 := hf.p1
  simp only at hp0 hp1
  have hwk : IntKind.u8.wrap paths = paths := by rw [show IntKind.u8.wrap paths = paths % 256 from by first | rfl | exact IntKind.wrap_u8 _ | exact IntKind.wrap_u8' _]; omega
  clear hp
  clear hf
  unfold Op.v
  simp only
  have HX := Lib.hid (Blk.new w 24 [.int .i64 asn, .int .i64 hold, .int .u32 id, .bool false, .int .i64 paths])
  obtain ⟨W, hW⟩ : ∃ W, w.alloc (.cells #[.int .i64 asn, .int .i64 hold, .int .u32 id, .bool false, .int .i64 paths] 24) = W := ⟨_, rfl⟩
  have HXW := Lib.hid (show Blk W w.heap.size 24 [.int .i64 asn, .int .i64 hold, .int .u32 id, .bool false, .int .i64 paths] by rw [← hW]; exact HX.out)
  have HS := Lib.hid (show W.heap.size = w.heap.size + 1 by rw [← hW]; simp)
  have H1 := Lib.hid (show Below w.heap.size w W by rw [← hW]; exact new_below _ _)
  have HB := Lib.hid (show BytesAt (W.alloc (.cells #[.int .u8 0, .int .u8 1, .int .u8 0, .int .u8 1] 5)) (some ⟨w.heap.size + 1, 0, none⟩) [0, 1, 0, 1] from by rw [← HS.out]; exact lit4 W 0 1 0 1 (inByte_all (by decide)))
  have HN := Lib.hid (new_below W (.cells #[.int .u8 0, .int .u8 1, .int .u8 0, .int .u8 1] 5))
  have HW := Lib.hid hW
  clear hW HX
  go_enter Tryd.func13, Tryd.ntmps13
  go_wp2_with fail
  rw [HW.out]
  (with_reducible refine (part_new _ (w.heap.size + 1) 1 [0, 1, 0, 1] 4 rfl (by omega) (by omega) (by omega) _ _ HB.out ?hs1).mono ?_); (case hs1 => have := HS.out; simp; omega); rintro e w2 ⟨q, cap, rfl, hO, hb⟩
  have G2 := Lib.hid (show GrowSt W (w.heap.size + 1) w.heap.size 24 [.int .i64 asn, .int .i64 hold, .int .u32 id, .bool false, .int .i64 paths] w2 q cap [1, 4, 0, 1, 0, 1] from ⟨hO, (HXW.out.next HN.out).next hb, by rw [← HS.out]; exact HN.out.trans (hb.mono HN.out.size), by omega, by rw [← HS.out]; exact Nat.le_trans HN.out.size hb.size⟩)
  have c3 := G2.out.blk.cell 3 (by simp)
  have c4 := G2.out.blk.cell 4 (by simp)
  clear hO hb HB HN HXW HW HS
  go_wp2_with fail
  clear c4
  clear c3
  have c4 : w2.drew.cell? ⟨w.heap.size, 4, none⟩ = some (.int .i64 paths) := G2.out.blk.cell 4 (by simp)
  have GD := G2
  have NL := fun v : World => Lib.hid (one_byte v paths (by omega) (by omega))
  go_region_held_law (fun w' => w'.cell? ⟨w.heap.size, 4, none⟩ = some (.int .i64 paths)) (first | with_reducible assumption | exact kept (new_below _ _) (by with_reducible assumption)) (first
    | (go_at_call 14; (with_reducible refine (number_new 257 3 3 rfl _ (by omega) (by omega) fit_family).mono ?_); rintro e w6 ⟨rfl, hr, hb⟩; have T6 := Lib.hid (show Below w2.heap.size w2 w6 from (Below.refl _ _).drew.trans hb); have R6 := Lib.hid ((own3 hr (by show w2.heap.size ≤ w2.heap.size; omega)).alloc (.cells #[.int .u8 paths] 5)); have Y6 := NL w6; have c6 : w6.cell? ⟨w.heap.size, 4, none⟩ = some (.int .i64 paths) := (GD.out.next T6.out).blk.cell 4 (by simp); clear hr hb)
    | (go_at_call 14; (with_reducible refine (number_new 257 3 3 rfl _ (by omega) (by omega) fit_family).mono ?_); rintro e w6 ⟨rfl, hr, hb⟩; have T6 := Lib.hid (show Below w2.heap.size w2 w6 from (new_below w2 (.cells #[.int .u8 paths] 5)).drew.trans (hb.mono (by simp))); rw [szd_alloc] at hr; have R6 := Lib.hid (show Own w6 w2.heap.size (some ⟨w2.heap.size + 1, 0, none⟩) 3 [0, 1, 1] from own3 hr (by show w2.heap.size ≤ w2.heap.size + 1; omega)); have Y6 := Lib.hid ((NL w2).out.drew.below hb); have c6 : w6.cell? ⟨w.heap.size, 4, none⟩ = some (.int .i64 paths) := (GD.out.next T6.out).blk.cell 4 (by simp); clear hr hb)
    | (refine step_appo rfl (.tmp 18) (.tmp 22) rfl w2.heap.size (some ⟨w2.heap.size, 0, none⟩) 3 [0, 1, 1] R6.out 3 rfl rfl _ 1 1 [paths] Y6.out rfl rfl 4 rfl (by omega) (by show w2.heap.size ≤ _; have := T6.out.size; simp at *; omega) ?_; intro p7 cap7 w7 hO7 hB7 hG7; have T7 := Lib.hid (show Below w2.heap.size w2 w7 from (T6.out.alloc T6.out.size _).trans hB7.out); have G7 := Lib.hid (GD.out.next T7.out); have Y7 := Lib.hid hO7.out.bytes; have c7 : w7.cell? ⟨w.heap.size, 4, none⟩ = some (.int .i64 paths) := G7.out.blk.cell 4 (by simp))
    | (refine step_appo rfl (.tmp 18) (.tmp 22) rfl w2.heap.size (some ⟨(w2.heap.size + 1), 0, none⟩) 3 [0, 1, 1] R6.out 3 rfl rfl _ 1 1 [paths] Y6.out rfl rfl 4 rfl (by omega) (by show w2.heap.size ≤ _; have := T6.out.size; simp at *; omega) ?_; intro p7 cap7 w7 hO7 hB7 hG7; have T7 := Lib.hid (show Below w2.heap.size w2 w7 from T6.out.trans hB7.out); have G7 := Lib.hid (GD.out.next T7.out); have Y7 := Lib.hid hO7.out.bytes; have c7 : w7.cell? ⟨w.heap.size, 4, none⟩ = some (.int .i64 paths) := G7.out.blk.cell 4 (by simp))
    | (go_at_call 12; (with_reducible refine (part_new _ (w.heap.size + 1) 69 ([0, 1, 1] ++ [paths]) 4 rfl (by omega) (by omega) (by omega) _ _ Y7.out G7.out.hB).mono ?_); rintro e w8 ⟨q8, cap8, rfl, hO, hb⟩; have G8 := Lib.hid (G7.out.next hb); have Y8 := Lib.hid hO.bytes; have c8 : w8.cell? ⟨w.heap.size, 4, none⟩ = some (.int .i64 paths) := G8.out.blk.cell 4 (by simp); clear hO hb)
    | (refine step_appo rfl (.tmp 17) (.tmp 24) rfl (w.heap.size + 1) q cap [1, 4, 0, 1, 0, 1] G8.out.own 6 rfl rfl q8 6 cap8 (69 :: ((4 : Nat) : Int) :: ([0, 1, 1] ++ [paths])) Y8.out rfl rfl 12 rfl (by omega) G8.out.hB ?_; intro q9 cap9 w9 hO9 hB9 hG9; have G9 := Lib.hid (G8.out.app hO9.out hB9.out); have c9 : w9.cell? ⟨w.heap.size, 4, none⟩ = some (.int .i64 paths) := G9.out.blk.cell 4 (by simp)))
  all_goals
    go_wp2_with fail
    go_ret
    exact ⟨q9, cap9, by rw [HC.out, HBC.out, HPC.out]; rfl, by rw [HC.out, HBC.out, HPC.out]; exact G9.out.own.mono (by omega), H1.out.trans (G9.out.bel.mono (by omega))⟩

set_option maxRecDepth 100000 in
set_option maxHeartbeats 2000000 in
theorem caps_fp (o : Op) (w : World) (hf : FitO o) (h4 : o.four = true) (hp : o.paths ≠ 0) :
    Calls Tryd.prog 13 #[o.v] w fun e w' => RetB w w' (capsO o) e := by
  have HC := Lib.hid (capsO_base o)
  have HF := Lib.hid hf
  have HBC := Lib.hid (show baseC o = [1, 4, 0, 1, 0, 1] ++ (65 :: ((4 : Nat) : Int) :: putL o.asn 4) by simp [baseC, fourC, h4])
  have HPC := Lib.hid (show pathsC o = [69, 4, 0, 1, 1, o.paths] by simp [pathsC, hp])
  obtain ⟨asn, hold, id, four, paths⟩ := o
  simp only at h4 hp
  subst h4
  have hpn : (paths != 0) = true := by simpa using hp
  have hp0 := hf.p0
  have hp1 := hf.p1
  simp only at hp0 hp1
  have hwk : IntKind.u8.wrap paths = paths := by rw [show IntKind.u8.wrap paths = paths % 256 from by first | rfl | exact IntKind.wrap_u8 _ | exact IntKind.wrap_u8' _]; omega
  clear hp
  have HFA := Lib.hid (show fitsB asn (4 : Nat) = true from fits4 hf.a0 hf.a1)
  clear hf
  unfold Op.v
  simp only
  have HX := Lib.hid (Blk.new w 24 [.int .i64 asn, .int .i64 hold, .int .u32 id, .bool true, .int .i64 paths])
  obtain ⟨W, hW⟩ : ∃ W, w.alloc (.cells #[.int .i64 asn, .int .i64 hold, .int .u32 id, .bool true, .int .i64 paths] 24) = W := ⟨_, rfl⟩
  have HXW := Lib.hid (show Blk W w.heap.size 24 [.int .i64 asn, .int .i64 hold, .int .u32 id, .bool true, .int .i64 paths] by rw [← hW]; exact HX.out)
  have HS := Lib.hid (show W.heap.size = w.heap.size + 1 by rw [← hW]; simp)
  have H1 := Lib.hid (show Below w.heap.size w W by rw [← hW]; exact new_below _ _)
  have HB := Lib.hid (show BytesAt (W.alloc (.cells #[.int .u8 0, .int .u8 1, .int .u8 0, .int .u8 1] 5)) (some ⟨w.heap.size + 1, 0, none⟩) [0, 1, 0, 1] from by rw [← HS.out]; exact lit4 W 0 1 0 1 (inByte_all (by decide)))
  have HN := Lib.hid (new_below W (.cells #[.int .u8 0, .int .u8 1, .int .u8 0, .int .u8 1] 5))
  have HW := Lib.hid hW
  clear hW HX
  go_enter Tryd.func13, Tryd.ntmps13
  go_wp2_with fail
  rw [HW.out]
  (with_reducible refine (part_new _ (w.heap.size + 1) 1 [0, 1, 0, 1] 4 rfl (by omega) (by omega) (by omega) _ _ HB.out ?hs1).mono ?_); (case hs1 => have := HS.out; simp; omega); rintro e w2 ⟨q, cap, rfl, hO, hb⟩
  have G2 := Lib.hid (show GrowSt W (w.heap.size + 1) w.heap.size 24 [.int .i64 asn, .int .i64 hold, .int .u32 id, .bool true, .int .i64 paths] w2 q cap [1, 4, 0, 1, 0, 1] from ⟨hO, (HXW.out.next HN.out).next hb, by rw [← HS.out]; exact HN.out.trans (hb.mono HN.out.size), by omega, by rw [← HS.out]; exact Nat.le_trans HN.out.size hb.size⟩)
  have c3 := G2.out.blk.cell 3 (by simp)
  have c0 := G2.out.blk.cell 0 (by simp)
  clear hO hb HB HN HXW HW HS
  go_wp2_with fail
  (with_reducible refine (number_new asn 4 4 rfl _ (by omega) (by omega) HFA.out).mono ?_); rintro e w3 ⟨rfl, hr, hb⟩
  have G3 := Lib.hid (G2.out.next hb)
  have R3 := Lib.hid (hr.bytes (putL_byte asn 4))
  clear hr hb c0 c3
  go_wp2_with fail
  (with_reducible refine (part_new _ (w.heap.size + 1) 65 (putL asn 4) 4 (putL_len _ _) (by omega) (by omega) (by omega) _ _ R3.out G3.out.hB).mono ?_); rintro e w4 ⟨q4, cap4, rfl, hO, hb⟩
  have G4 := Lib.hid (G3.out.next hb)
  have R4 := Lib.hid hO.bytes
  clear hO hb
  go_wp2_with (refine wpList_appo (o := ⟨some 13, _, _, _, _, _⟩) (by rfl) (.tmp 8) (.tmp 12) (by rfl) (w.heap.size + 1) q cap [1, 4, 0, 1, 0, 1] G4.out.own 6 (by rfl) (by rfl) q4 6 cap4 (65 :: ((4 : Nat) : Int) :: putL asn 4) R4.out (by simp [putL_len]) (by rfl) 12 (by rfl) (by omega) G4.out.hB ?_; intro q5 cap5 w5 hO5 hB5 hG5; have G5 := Lib.hid (G4.out.app hO5.out hB5.out); have c4 := G5.out.blk.cell 4 (by simp))
  clear c4
  have c4 : w5.drew.cell? ⟨w.heap.size, 4, none⟩ = some (.int .i64 paths) := G5.out.blk.cell 4 (by simp)
  have GD := G5
  have NL := fun v : World => Lib.hid (one_byte v paths (by omega) (by omega))
  go_region_held_law (fun w' => w'.cell? ⟨w.heap.size, 4, none⟩ = some (.int .i64 paths)) (first | with_reducible assumption | exact kept (new_below _ _) (by with_reducible assumption)) (first
    | (go_at_call 14; (with_reducible refine (number_new 257 3 3 rfl _ (by omega) (by omega) fit_family).mono ?_); rintro e w6 ⟨rfl, hr, hb⟩; have T6 := Lib.hid (show Below w5.heap.size w5 w6 from (Below.refl _ _).drew.trans hb); have R6 := Lib.hid ((own3 hr (by show w5.heap.size ≤ w5.heap.size; omega)).alloc (.cells #[.int .u8 paths] 5)); have Y6 := NL w6; have c6 : w6.cell? ⟨w.heap.size, 4, none⟩ = some (.int .i64 paths) := (GD.out.next T6.out).blk.cell 4 (by simp); clear hr hb)
    | (go_at_call 14; (with_reducible refine (number_new 257 3 3 rfl _ (by omega) (by omega) fit_family).mono ?_); rintro e w6 ⟨rfl, hr, hb⟩; have T6 := Lib.hid (show Below w5.heap.size w5 w6 from (new_below w5 (.cells #[.int .u8 paths] 5)).drew.trans (hb.mono (by simp))); rw [szd_alloc] at hr; have R6 := Lib.hid (show Own w6 w5.heap.size (some ⟨w5.heap.size + 1, 0, none⟩) 3 [0, 1, 1] from own3 hr (by show w5.heap.size ≤ w5.heap.size + 1; omega)); have Y6 := Lib.hid ((NL w5).out.drew.below hb); have c6 : w6.cell? ⟨w.heap.size, 4, none⟩ = some (.int .i64 paths) := (GD.out.next T6.out).blk.cell 4 (by simp); clear hr hb)
    | (refine step_appo rfl (.tmp 18) (.tmp 22) rfl w5.heap.size (some ⟨w5.heap.size, 0, none⟩) 3 [0, 1, 1] R6.out 3 rfl rfl _ 1 1 [paths] Y6.out rfl rfl 4 rfl (by omega) (by show w5.heap.size ≤ _; have := T6.out.size; simp at *; omega) ?_; intro p7 cap7 w7 hO7 hB7 hG7; have T7 := Lib.hid (show Below w5.heap.size w5 w7 from (T6.out.alloc T6.out.size _).trans hB7.out); have G7 := Lib.hid (GD.out.next T7.out); have Y7 := Lib.hid hO7.out.bytes; have c7 : w7.cell? ⟨w.heap.size, 4, none⟩ = some (.int .i64 paths) := G7.out.blk.cell 4 (by simp))
    | (refine step_appo rfl (.tmp 18) (.tmp 22) rfl w5.heap.size (some ⟨(w5.heap.size + 1), 0, none⟩) 3 [0, 1, 1] R6.out 3 rfl rfl _ 1 1 [paths] Y6.out rfl rfl 4 rfl (by omega) (by show w5.heap.size ≤ _; have := T6.out.size; simp at *; omega) ?_; intro p7 cap7 w7 hO7 hB7 hG7; have T7 := Lib.hid (show Below w5.heap.size w5 w7 from T6.out.trans hB7.out); have G7 := Lib.hid (GD.out.next T7.out); have Y7 := Lib.hid hO7.out.bytes; have c7 : w7.cell? ⟨w.heap.size, 4, none⟩ = some (.int .i64 paths) := G7.out.blk.cell 4 (by simp))
    | (go_at_call 12; (with_reducible refine (part_new _ (w.heap.size + 1) 69 ([0, 1, 1] ++ [paths]) 4 rfl (by omega) (by omega) (by omega) _ _ Y7.out G7.out.hB).mono ?_); rintro e w8 ⟨q8, cap8, rfl, hO, hb⟩; have G8 := Lib.hid (G7.out.next hb); have Y8 := Lib.hid hO.bytes; have c8 : w8.cell? ⟨w.heap.size, 4, none⟩ = some (.int .i64 paths) := G8.out.blk.cell 4 (by simp); clear hO hb)
    | (refine step_appo rfl (.tmp 17) (.tmp 24) rfl (w.heap.size + 1) q5 cap5 ([1, 4, 0, 1, 0, 1] ++ (65 :: ((4 : Nat) : Int) :: putL asn 4)) G8.out.own 12 (by simp [putL_len]) rfl q8 6 cap8 (69 :: ((4 : Nat) : Int) :: ([0, 1, 1] ++ [paths])) Y8.out rfl rfl 18 rfl (by omega) G8.out.hB ?_; intro q9 cap9 w9 hO9 hB9 hG9; have G9 := Lib.hid (G8.out.app hO9.out hB9.out); have c9 : w9.cell? ⟨w.heap.size, 4, none⟩ = some (.int .i64 paths) := G9.out.blk.cell 4 (by simp)))
  all_goals
    go_wp2_with fail
    go_ret
    exact ⟨q9, cap9, by rw [HC.out, HBC.out, HPC.out]; simp [putL_len], by rw [HC.out, HBC.out, HPC.out]; exact G9.out.own.mono (by omega), H1.out.trans (G9.out.bel.mono (by omega))⟩
theorem caps_any (o : Op) (w : World) (hf : FitO o) :
    Calls Tryd.prog 13 #[o.v] w fun e w' => RetB w w' (capsO o) e := by
  rcases h4 : o.four with _ | _
  · by_cases hp : o.paths = 0
    · exact caps_nn o w hf h4 hp
    · exact caps_np o w hf h4 hp
  · by_cases hp : o.paths = 0
    · exact caps_fn o w hf h4 hp
    · exact caps_fp o w hf h4 hp
end Go.Proofs.YthpadbeilecpeaaDoor
