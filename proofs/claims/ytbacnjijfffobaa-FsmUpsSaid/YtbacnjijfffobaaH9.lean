/- fsm: Step. -/
import Derived.Test.YtbacnjijfffobaaH8
import Derived.Deep.Cut
namespace Go.Proofs.Ytbacnjijfffobaa
open Go.RowKit

theorem rowH_mono {w : World} {B B' : Nat} {E : TypeId} {size : Nat} {v : Value} {n : Nat} {xs : List Value} (h : w.ownsRow B E size v n xs) (hB : B' ≤ B) : w.ownsRow B' E size v n xs := by
  refine ⟨h.1, ?_⟩
  rcases h.2 with h2 | ⟨g, cap, cur, h1, h3, h4⟩
  · exact .inl h2
  · exact .inr ⟨g, cap, cur, h1, Nat.le_trans hB h3, h4⟩
theorem StM.init (w : World) (o : Op) (r : Int) (s : Ph) :
    StM (w.alloc (.cells #[.int .i64 o.asn, .int .i64 o.hold, .int .u32 o.id, .bool o.four, .int .i64 o.paths, .int .i64 r, .int .i64 s.phase, .int .i64 s.hold, .bool s.four, .bool s.paths, .int .u32 s.id, .slice none 0 0] 52)) w.heap.size w.heap.size o r s [] :=
  ⟨⟨.slice none 0 0, Blk.new w 52 (stC o r s (.slice none 0 0)), World.ownsRow_nil _ _ _ _⟩, Nat.le_refl _⟩
theorem init_below (w : World) (o : Op) (r : Int) (s : Ph) :
    Below w.heap.size w (w.alloc (.cells #[.int .i64 o.asn, .int .i64 o.hold, .int .u32 o.id, .bool o.four, .int .i64 o.paths, .int .i64 r, .int .i64 s.phase, .int .i64 s.hold, .bool s.four, .bool s.paths, .int .u32 s.id, .slice none 0 0] 52)) := newB _ _
theorem row_set5 {w : World} {B n X : Nat} {v : Value} {ys vs : List Value} (h : w.ownsRow B 44 5 v n ys) (hx : Blk w X 31 vs) (a b c d e : Value) : (((((w.setCell ⟨X, 0, none⟩ a).setCell ⟨X, 1, none⟩ b).setCell ⟨X, 2, none⟩ c).setCell ⟨X, 3, none⟩ d).setCell ⟨X, 4, none⟩ e).ownsRow B 44 5 v n ys := by
  have b1 := hx.set 0 a
  have r1 := rowH_past h hx (by decide) (gb_set w X 0 a)
  have b2 := b1.set 1 b
  have r2 := rowH_past r1 b1 (by decide) (gb_set _ X 1 b)
  have b3 := b2.set 2 c
  have r3 := rowH_past r2 b2 (by decide) (gb_set _ X 2 c)
  have b4 := b3.set 3 d
  have r4 := rowH_past r3 b3 (by decide) (gb_set _ X 3 d)
  exact rowH_past r4 b4 (by decide) (gb_set _ X 4 e)
def StepR (w w' : World) (R : Dt → Ph × List Ac) (e : Ending) : Prop := ∃ d v, e = .returned (.tuple #[(R d).1.v, v]) ∧ w'.ownsRow w.heap.size 44 5 v (R d).2.length (acells (R d).2) ∧ Below w.heap.size w w'
theorem four_below (w : World) (o1 o2 o3 o4 : Obj) : Below w.heap.size w ((((w.alloc o1).alloc o2).alloc o3).alloc o4) := ((((Below.refl _ _).alloc (Nat.le_refl _) _).alloc (by simp) _).alloc (by simp; omega) _).alloc (by simp; omega) _

set_option maxHeartbeats 8000000 in
theorem fstep_any (w : World) (o : Op) (r : Int) (s : Ph) (kind : Int) (x : Op) (code sub : Int) (p : Option Addr) (xs : List Int) (n c : Nat) (hb : BytesAt w p xs) (hn : xs.length = n) (hm : n ≤ 1099511627776) :
    Calls Try.prog 8 #[loV o r, s.v, evA kind x code sub p n c] w fun e w' => StepR w w' (fun d => stepV o r s kind x code sub d) e := by
  obtain ⟨oa, oh, oi, of, op⟩ := o
  obtain ⟨sp, sh, sf, sq, si⟩ := s
  obtain ⟨xa, xh, xi, xf, xp⟩ := x
  unfold loV Ph.v evA
  dsimp only
  have hA := four_below w (.cells #[.int .i64 oa, .int .i64 oh, .int .u32 oi, .bool of, .int .i64 op, .int .i64 r] 26) (.cells #[.int .i64 sp, .int .i64 sh, .bool sf, .bool sq, .int .u32 si] 31) (.cells #[.int .i64 kind, .int .i64 xa, .int .i64 xh, .int .u32 xi, .bool xf, .int .i64 xp, .int .i64 code, .int .i64 sub, .slice p n c] 36) (.cells #[.int .i64 0, .int .i64 0, .bool false, .bool false, .int .u32 0] 31)
  have bl := (((Blk.new w 26 [.int .i64 oa, .int .i64 oh, .int .u32 oi, .bool of, .int .i64 op, .int .i64 r]).alloc (.cells #[.int .i64 sp, .int .i64 sh, .bool sf, .bool sq, .int .u32 si] 31)).alloc (.cells #[.int .i64 kind, .int .i64 xa, .int .i64 xh, .int .u32 xi, .bool xf, .int .i64 xp, .int .i64 code, .int .i64 sub, .slice p n c] 36)).alloc (.cells #[.int .i64 0, .int .i64 0, .bool false, .bool false, .int .u32 0] 31)
  have bs := ((Blk.new (w.alloc (.cells #[.int .i64 oa, .int .i64 oh, .int .u32 oi, .bool of, .int .i64 op, .int .i64 r] 26)) 31 [.int .i64 sp, .int .i64 sh, .bool sf, .bool sq, .int .u32 si]).alloc (.cells #[.int .i64 kind, .int .i64 xa, .int .i64 xh, .int .u32 xi, .bool xf, .int .i64 xp, .int .i64 code, .int .i64 sub, .slice p n c] 36)).alloc (.cells #[.int .i64 0, .int .i64 0, .bool false, .bool false, .int .u32 0] 31)
  have be := (Blk.new ((w.alloc (.cells #[.int .i64 oa, .int .i64 oh, .int .u32 oi, .bool of, .int .i64 op, .int .i64 r] 26)).alloc (.cells #[.int .i64 sp, .int .i64 sh, .bool sf, .bool sq, .int .u32 si] 31)) 36 [.int .i64 kind, .int .i64 xa, .int .i64 xh, .int .u32 xi, .bool xf, .int .i64 xp, .int .i64 code, .int .i64 sub, .slice p n c]).alloc (.cells #[.int .i64 0, .int .i64 0, .bool false, .bool false, .int .u32 0] 31)
  have bz := Blk.new (((w.alloc (.cells #[.int .i64 oa, .int .i64 oh, .int .u32 oi, .bool of, .int .i64 op, .int .i64 r] 26)).alloc (.cells #[.int .i64 sp, .int .i64 sh, .bool sf, .bool sq, .int .u32 si] 31)).alloc (.cells #[.int .i64 kind, .int .i64 xa, .int .i64 xh, .int .u32 xi, .bool xf, .int .i64 xp, .int .i64 code, .int .i64 sub, .slice p n c] 36)) 31 [.int .i64 0, .int .i64 0, .bool false, .bool false, .int .u32 0]
  rw [show (w.alloc (.cells #[.int .i64 oa, .int .i64 oh, .int .u32 oi, .bool of, .int .i64 op, .int .i64 r] 26)).heap.size = w.heap.size + 1 by rw [sz_alloc]] at bs
  rw [show ((w.alloc (.cells #[.int .i64 oa, .int .i64 oh, .int .u32 oi, .bool of, .int .i64 op, .int .i64 r] 26)).alloc (.cells #[.int .i64 sp, .int .i64 sh, .bool sf, .bool sq, .int .u32 si] 31)).heap.size = w.heap.size + 1 + 1 by rw [sz_alloc, sz_alloc]] at be
  rw [show (((w.alloc (.cells #[.int .i64 oa, .int .i64 oh, .int .u32 oi, .bool of, .int .i64 op, .int .i64 r] 26)).alloc (.cells #[.int .i64 sp, .int .i64 sh, .bool sf, .bool sq, .int .u32 si] 31)).alloc (.cells #[.int .i64 kind, .int .i64 xa, .int .i64 xh, .int .u32 xi, .bool xf, .int .i64 xp, .int .i64 code, .int .i64 sub, .slice p n c] 36)).heap.size = w.heap.size + 1 + 1 + 1 by rw [sz_alloc, sz_alloc, sz_alloc]] at bz
  obtain ⟨X3, hX3⟩ : ∃ X, w.heap.size + 1 + 1 + 1 = X := ⟨_, rfl⟩
  obtain ⟨X2, hX2⟩ : ∃ X, w.heap.size + 1 + 1 = X := ⟨_, rfl⟩
  obtain ⟨X1, hX1⟩ : ∃ X, w.heap.size + 1 = X := ⟨_, rfl⟩
  rw [hX1] at bs
  rw [hX2] at be
  rw [hX3] at bz
  have HX3 := Lib.hid hX3
  have HX2 := Lib.hid hX2
  have HX1 := Lib.hid hX1
  have HL3 := Lib.hid (show w.heap.size ≤ X3 by omega)
  clear hX1 hX2 hX3
  obtain ⟨W, hW⟩ : ∃ W, (((w.alloc (.cells #[.int .i64 oa, .int .i64 oh, .int .u32 oi, .bool of, .int .i64 op, .int .i64 r] 26)).alloc (.cells #[.int .i64 sp, .int .i64 sh, .bool sf, .bool sq, .int .u32 si] 31)).alloc (.cells #[.int .i64 kind, .int .i64 xa, .int .i64 xh, .int .u32 xi, .bool xf, .int .i64 xp, .int .i64 code, .int .i64 sub, .slice p n c] 36)).alloc (.cells #[.int .i64 0, .int .i64 0, .bool false, .bool false, .int .u32 0] 31) = W := ⟨_, rfl⟩
  have HZ := Lib.hid (show W.heap.size = w.heap.size + 4 by rw [← hW, sz_alloc, sz_alloc, sz_alloc, sz_alloc])
  have bl : Blk W w.heap.size 26 [.int .i64 oa, .int .i64 oh, .int .u32 oi, .bool of, .int .i64 op, .int .i64 r] := hW ▸ bl
  have bs : Blk W X1 31 [.int .i64 sp, .int .i64 sh, .bool sf, .bool sq, .int .u32 si] := hW ▸ bs
  have be : Blk W X2 36 [.int .i64 kind, .int .i64 xa, .int .i64 xh, .int .u32 xi, .bool xf, .int .i64 xp, .int .i64 code, .int .i64 sub, .slice p n c] := hW ▸ be
  have bz : Blk W X3 31 [.int .i64 0, .int .i64 0, .bool false, .bool false, .int .u32 0] := hW ▸ bz
  rw [hW] at hA
  have HW := Lib.hid hW
  have HA := Lib.hid hA
  have HBL := Lib.hid bl
  have HBS := Lib.hid bs
  have HBE := Lib.hid be
  have HBZ := Lib.hid bz
  have HBY := Lib.hid (hb.below hA)
  have HN := Lib.hid hn
  have HMM := Lib.hid hm
  have HCK := Lib.hid (fun (U : World) => fcheck_any ⟨oa, oh, oi, of, op⟩ r U)
  have HKN := Lib.hid (fun (U : World) => known_any ⟨sp, sh, sf, sq, si⟩ U)
  unfold loV at HCK
  unfold Ph.v at HKN
  dsimp only at HCK HKN
  obtain ⟨M, hM⟩ : ∃ M : Dt → Ph × List Ac, (fun d => stepV ⟨oa, oh, oi, of, op⟩ r ⟨sp, sh, sf, sq, si⟩ kind ⟨xa, xh, xi, xf, xp⟩ code sub d) = M := ⟨_, rfl⟩
  have HM := Lib.hid (fun d => (congrFun hM d).symm)
  rw [hM]
  clear hM hW hA bl bs be bz hb hn hm
  have hok : okL ⟨oa, oh, oi, of, op⟩ r = true ∧ errL ⟨oa, oh, oi, of, op⟩ r = 0 ∨ okL ⟨oa, oh, oi, of, op⟩ r = false ∧ errL ⟨oa, oh, oi, of, op⟩ r = 40 ∨ okL ⟨oa, oh, oi, of, op⟩ r = false ∧ errL ⟨oa, oh, oi, of, op⟩ r = 1 := by
    unfold okL errL
    rcases okO ⟨oa, oh, oi, of, op⟩ with _ | _ <;> rcases okR r with _ | _ <;> simp
  rcases hok with ⟨hok, he⟩ | ⟨hok, he⟩ | ⟨hok, he⟩
  · rw [he] at HCK
    clear he
    rcases hkn : knownB ⟨sp, sh, sf, sq, si⟩ with _ | _
    · have HE := Lib.hid (fun d => show M d = (⟨sp, sh, sf, sq, si⟩, []) by rw [HM.out]; unfold stepV; rw [hok, hkn]; rfl)
      rw [hkn] at HKN
      clear hok hkn
      go_enter Try.func8, Try.ntmps8
      go_wp2_with fail
      rw [HW.out, HX3.out, HX2.out, HX1.out]
      refine (HCK.out W).mono ?_
      rintro e w1 ⟨rfl, hb1⟩
      have HB1 := Lib.hid (HA.out.trans (hb1.mono (by rw [HZ.out]; omega)))
      have HBS1 := Lib.hid (HBS.out.next hb1)
      have HBL1 := Lib.hid (HBL.out.next hb1)
      have HBE1 := Lib.hid (HBE.out.next hb1)
      have HBZ1 := Lib.hid (HBZ.out.next hb1)
      have HBY1 := Lib.hid (HBY.out.below hb1)
      have HZ1 := Lib.hid (show w.heap.size + 4 ≤ w1.heap.size by have := hb1.size; have := HZ.out; omega)
      have s0 : w1.cell? ⟨X1, 0, none⟩ = some (.int .i64 sp) := HBS1.out.cell 0 (by simp)
      have s1 : w1.cell? ⟨X1, 1, none⟩ = some (.int .i64 sh) := HBS1.out.cell 1 (by simp)
      have s2 : w1.cell? ⟨X1, 2, none⟩ = some (.bool sf) := HBS1.out.cell 2 (by simp)
      have s3 : w1.cell? ⟨X1, 3, none⟩ = some (.bool sq) := HBS1.out.cell 3 (by simp)
      have s4 : w1.cell? ⟨X1, 4, none⟩ = some (.int .u32 si) := HBS1.out.cell 4 (by simp)
      clear hb1
      go_wp2_with fail
      refine (HKN.out w1).mono ?_
      rintro e w2 ⟨rfl, hb2⟩
      have HBB := Lib.hid (HB1.out.trans (hb2.mono (by have := HZ1.out; omega)))
      have HBS2 := Lib.hid (HBS1.out.next hb2)
      have HBZ2 := Lib.hid (HBZ1.out.next hb2)
      have s0 : w2.cell? ⟨X1, 0, none⟩ = some (.int .i64 sp) := HBS2.out.cell 0 (by simp)
      have s1 : w2.cell? ⟨X1, 1, none⟩ = some (.int .i64 sh) := HBS2.out.cell 1 (by simp)
      have s2 : w2.cell? ⟨X1, 2, none⟩ = some (.bool sf) := HBS2.out.cell 2 (by simp)
      have s3 : w2.cell? ⟨X1, 3, none⟩ = some (.bool sq) := HBS2.out.cell 3 (by simp)
      have s4 : w2.cell? ⟨X1, 4, none⟩ = some (.int .u32 si) := HBS2.out.cell 4 (by simp)
      have z0 : w2.cell? ⟨X3, 0, none⟩ = some (.int .i64 0) := HBZ2.out.cell 0 (by simp)
      have z1 : w2.cell? ⟨X3, 1, none⟩ = some (.int .i64 0) := HBZ2.out.cell 1 (by simp)
      have z2 : w2.cell? ⟨X3, 2, none⟩ = some (.bool false) := HBZ2.out.cell 2 (by simp)
      have z3 : w2.cell? ⟨X3, 3, none⟩ = some (.bool false) := HBZ2.out.cell 3 (by simp)
      have z4 : w2.cell? ⟨X3, 4, none⟩ = some (.int .u32 0) := HBZ2.out.cell 4 (by simp)
      have y0 := HBZ2.out.f 0
      have y1 := HBZ2.out.f 1
      have y2 := HBZ2.out.f 2
      have y3 := HBZ2.out.f 3
      have y4 := HBZ2.out.f 4
      clear hb2
      go_wp2_with fail
      exact bodyPost_ret (v := .tuple #[.agg #[.int .i64 sp, .int .i64 sh, .bool sf, .bool sq, .int .u32 si], .slice none 0 0]) (by simp [results, Try.results8, go_sem, z0, z1, z2, z3, z4]) rfl ⟨⟨none, 0, 0⟩, .slice none 0 0, by rw [HE.out]; rfl, by rw [HE.out]; exact World.ownsRow_nil _ _ _ _, (((((HBB.out).setCell HL3.out _).setCell HL3.out _).setCell HL3.out _).setCell HL3.out _).setCell HL3.out _⟩
    · have HE := Lib.hid (fun d => show M d = eventV ⟨oa, oh, oi, of, op⟩ r ⟨sp, sh, sf, sq, si⟩ kind ⟨xa, xh, xi, xf, xp⟩ code sub d by rw [HM.out]; unfold stepV; rw [hok, hkn]; rfl)
      rw [hkn] at HKN
      have HKK := Lib.hid hkn
      clear hok hkn
      go_enter Try.func8, Try.ntmps8
      go_wp2_with fail
      rw [HW.out, HX3.out, HX2.out, HX1.out]
      refine (HCK.out W).mono ?_
      rintro e w1 ⟨rfl, hb1⟩
      have HB1 := Lib.hid (HA.out.trans (hb1.mono (by rw [HZ.out]; omega)))
      have HBS1 := Lib.hid (HBS.out.next hb1)
      have HBL1 := Lib.hid (HBL.out.next hb1)
      have HBE1 := Lib.hid (HBE.out.next hb1)
      have HBZ1 := Lib.hid (HBZ.out.next hb1)
      have HBY1 := Lib.hid (HBY.out.below hb1)
      have HZ1 := Lib.hid (show w.heap.size + 4 ≤ w1.heap.size by have := hb1.size; have := HZ.out; omega)
      have s0 : w1.cell? ⟨X1, 0, none⟩ = some (.int .i64 sp) := HBS1.out.cell 0 (by simp)
      have s1 : w1.cell? ⟨X1, 1, none⟩ = some (.int .i64 sh) := HBS1.out.cell 1 (by simp)
      have s2 : w1.cell? ⟨X1, 2, none⟩ = some (.bool sf) := HBS1.out.cell 2 (by simp)
      have s3 : w1.cell? ⟨X1, 3, none⟩ = some (.bool sq) := HBS1.out.cell 3 (by simp)
      have s4 : w1.cell? ⟨X1, 4, none⟩ = some (.int .u32 si) := HBS1.out.cell 4 (by simp)
      clear hb1
      go_wp2_with fail
      refine (HKN.out w1).mono ?_
      rintro e w2 ⟨rfl, hb2⟩
      have hbb := HB1.out.trans (hb2.mono (by have := HZ1.out; omega))
      have HBB := Lib.hid hbb
      have HZ2 := Lib.hid (show w.heap.size + 4 ≤ w2.heap.size by have := hb2.size; have := HZ1.out; omega)
      have HBS2 := Lib.hid (HBS1.out.next hb2)
      have HBL2 := Lib.hid (HBL1.out.next hb2)
      have hin := init_below w2 ⟨oa, oh, oi, of, op⟩ r ⟨sp, sh, sf, sq, si⟩
      have be3 := (HBE1.out.next hb2).below hin (HBE1.out.next hb2).lt
      have bz3 := (HBZ1.out.next hb2).below hin (HBZ1.out.next hb2).lt
      have by3 := (HBY1.out.below hb2).below hin
      have st3 := StM.init w2 ⟨oa, oh, oi, of, op⟩ r ⟨sp, sh, sf, sq, si⟩
      dsimp only at hin be3 bz3 by3 st3
      have s0 : w2.cell? ⟨X1, 0, none⟩ = some (.int .i64 sp) := HBS2.out.cell 0 (by simp)
      have s1 : w2.cell? ⟨X1, 1, none⟩ = some (.int .i64 sh) := HBS2.out.cell 1 (by simp)
      have s2 : w2.cell? ⟨X1, 2, none⟩ = some (.bool sf) := HBS2.out.cell 2 (by simp)
      have s3 : w2.cell? ⟨X1, 3, none⟩ = some (.bool sq) := HBS2.out.cell 3 (by simp)
      have s4 : w2.cell? ⟨X1, 4, none⟩ = some (.int .u32 si) := HBS2.out.cell 4 (by simp)
      have l0 : w2.cell? ⟨w.heap.size, 0, none⟩ = some (.int .i64 oa) := HBL2.out.cell 0 (by simp)
      have l1 : w2.cell? ⟨w.heap.size, 1, none⟩ = some (.int .i64 oh) := HBL2.out.cell 1 (by simp)
      have l2 : w2.cell? ⟨w.heap.size, 2, none⟩ = some (.int .u32 oi) := HBL2.out.cell 2 (by simp)
      have l3 : w2.cell? ⟨w.heap.size, 3, none⟩ = some (.bool of) := HBL2.out.cell 3 (by simp)
      have l4 : w2.cell? ⟨w.heap.size, 4, none⟩ = some (.int .i64 op) := HBL2.out.cell 4 (by simp)
      have l5 : w2.cell? ⟨w.heap.size, 5, none⟩ = some (.int .i64 r) := HBL2.out.cell 5 (by simp)
      have HIN := Lib.hid hin
      obtain ⟨W3, hW3⟩ : ∃ W3, w2.alloc (.cells #[.int .i64 oa, .int .i64 oh, .int .u32 oi, .bool of, .int .i64 op, .int .i64 r, .int .i64 sp, .int .i64 sh, .bool sf, .bool sq, .int .u32 si, .slice none 0 0] 52) = W3 := ⟨_, rfl⟩
      have hin' := hin
      rw [hW3] at hin' be3 bz3 by3 st3
      have HEV := Lib.hid (fevent_any W3 w2.heap.size w2.heap.size ⟨oa, oh, oi, of, op⟩ r ⟨sp, sh, sf, sq, si⟩ [] st3 (by simp) hin'.size HKK.out kind ⟨xa, xh, xi, xf, xp⟩ code sub p xs n c by3 HN.out HMM.out)
      unfold evA at HEV
      dsimp only at HEV
      have HIN3 := Lib.hid hin'
      have HBZ3 := Lib.hid bz3
      have HW3 := Lib.hid hW3
      have HBE3 := Lib.hid be3
      clear hb2 hbb hin hin' be3 bz3 by3 st3 hW3
      go_upto_region 4 with fail
      rw [HW3.out]
      clear s0 s1 s2 s3 s4 l0 l1 l2 l3 l4 l5
      have e0 : W3.cell? ⟨X2, 0, none⟩ = some (.int .i64 kind) := HBE3.out.cell 0 (by simp)
      have e1 : W3.cell? ⟨X2, 1, none⟩ = some (.int .i64 xa) := HBE3.out.cell 1 (by simp)
      have e2 : W3.cell? ⟨X2, 2, none⟩ = some (.int .i64 xh) := HBE3.out.cell 2 (by simp)
      have e3 : W3.cell? ⟨X2, 3, none⟩ = some (.int .u32 xi) := HBE3.out.cell 3 (by simp)
      have e4 : W3.cell? ⟨X2, 4, none⟩ = some (.bool xf) := HBE3.out.cell 4 (by simp)
      have e5 : W3.cell? ⟨X2, 5, none⟩ = some (.int .i64 xp) := HBE3.out.cell 5 (by simp)
      have e6 : W3.cell? ⟨X2, 6, none⟩ = some (.int .i64 code) := HBE3.out.cell 6 (by simp)
      have e7 : W3.cell? ⟨X2, 7, none⟩ = some (.int .i64 sub) := HBE3.out.cell 7 (by simp)
      have e8 : W3.cell? ⟨X2, 8, none⟩ = some (.slice p n c) := HBE3.out.cell 8 (by simp)
      go_wp2_with fail
      refine HEV.out.mono ?_
      rintro e w4 ⟨d, rfl, hS4, hB4⟩
      clear e0 e1 e2 e3 e4 e5 e6 e7 e8
      have hR := HE.out d
      obtain ⟨R, hR2⟩ : ∃ R, eventV ⟨oa, oh, oi, of, op⟩ r ⟨sp, sh, sf, sq, si⟩ kind ⟨xa, xh, xi, xf, xp⟩ code sub d = R := ⟨_, rfl⟩
      dsimp only at hS4
      rw [hR2] at hS4 hR
      have HR := Lib.hid hR
      clear hR hR2
      obtain ⟨R1, R2⟩ := R
      obtain ⟨tp, th, tf, tq, ti⟩ := R1
      rw [List.nil_append] at hS4
      obtain ⟨⟨v, hb4, hr4⟩, _⟩ := hS4
      dsimp only at hb4 hr4
      have bz4 := HBZ3.out.below hB4 (by have := HZ2.out; have := HX3.out; omega)
      have HBZ4 := Lib.hid bz4
      have HR4 := Lib.hid hr4
      have HB4 := Lib.hid (HBB.out.trans ((HIN3.out.mono (by have := HZ2.out; omega)).trans (hB4.mono (by have := HZ2.out; omega))))
      have t0 : w4.drew.cell? ⟨w2.heap.size, 6, none⟩ = some (.int .i64 tp) := hb4.cell 6 (by simp [stC])
      have t1 : w4.drew.cell? ⟨w2.heap.size, 7, none⟩ = some (.int .i64 th) := hb4.cell 7 (by simp [stC])
      have t2 : w4.drew.cell? ⟨w2.heap.size, 8, none⟩ = some (.bool tf) := hb4.cell 8 (by simp [stC])
      have t3 : w4.drew.cell? ⟨w2.heap.size, 9, none⟩ = some (.bool tq) := hb4.cell 9 (by simp [stC])
      have t4 : w4.drew.cell? ⟨w2.heap.size, 10, none⟩ = some (.int .u32 ti) := hb4.cell 10 (by simp [stC])
      have t5 : w4.drew.cell? ⟨w2.heap.size, 11, none⟩ = some (v) := hb4.cell 11 (by simp [stC])
      have z0 : w4.drew.cell? ⟨X3, 0, none⟩ = some (.int .i64 0) := bz4.cell 0 (by simp)
      have z0' : w4.cell? ⟨X3, 0, none⟩ = some (.int .i64 0) := bz4.cell 0 (by simp)
      have z1 : w4.drew.cell? ⟨X3, 1, none⟩ = some (.int .i64 0) := bz4.cell 1 (by simp)
      have z1' : w4.cell? ⟨X3, 1, none⟩ = some (.int .i64 0) := bz4.cell 1 (by simp)
      have z2 : w4.drew.cell? ⟨X3, 2, none⟩ = some (.bool false) := bz4.cell 2 (by simp)
      have z2' : w4.cell? ⟨X3, 2, none⟩ = some (.bool false) := bz4.cell 2 (by simp)
      have z3 : w4.drew.cell? ⟨X3, 3, none⟩ = some (.bool false) := bz4.cell 3 (by simp)
      have z3' : w4.cell? ⟨X3, 3, none⟩ = some (.bool false) := bz4.cell 3 (by simp)
      have z4 : w4.drew.cell? ⟨X3, 4, none⟩ = some (.int .u32 0) := bz4.cell 4 (by simp)
      have z4' : w4.cell? ⟨X3, 4, none⟩ = some (.int .u32 0) := bz4.cell 4 (by simp)
      have y0 : w4.drew.frozen? ⟨X3, 0, none⟩ = false := bz4.f 0
      have y0' : w4.frozen? ⟨X3, 0, none⟩ = false := bz4.f 0
      have y1 : w4.drew.frozen? ⟨X3, 1, none⟩ = false := bz4.f 1
      have y1' : w4.frozen? ⟨X3, 1, none⟩ = false := bz4.f 1
      have y2 : w4.drew.frozen? ⟨X3, 2, none⟩ = false := bz4.f 2
      have y2' : w4.frozen? ⟨X3, 2, none⟩ = false := bz4.f 2
      have y3 : w4.drew.frozen? ⟨X3, 3, none⟩ = false := bz4.f 3
      have y3' : w4.frozen? ⟨X3, 3, none⟩ = false := bz4.f 3
      have y4 : w4.drew.frozen? ⟨X3, 4, none⟩ = false := bz4.f 4
      have y4' : w4.frozen? ⟨X3, 4, none⟩ = false := bz4.f 4
      have HGX := Lib.hid (show w2.heap.size ≠ X3 by have := HZ2.out; have := HX3.out; omega)
      have t6 : (((((w4.setCell ⟨X3, 0, none⟩ (.int .i64 tp)).setCell ⟨X3, 1, none⟩ (.int .i64 th)).setCell ⟨X3, 2, none⟩ (.bool tf)).setCell ⟨X3, 3, none⟩ (.bool tq)).setCell ⟨X3, 4, none⟩ (.int .u32 ti)).drew.cell? ⟨w2.heap.size, 11, none⟩ = some (v) := (((((hb4.setOther (a := ⟨X3, 0, none⟩) HGX.out (.int .i64 tp)).setOther (a := ⟨X3, 1, none⟩) HGX.out (.int .i64 th)).setOther (a := ⟨X3, 2, none⟩) HGX.out (.bool tf)).setOther (a := ⟨X3, 3, none⟩) HGX.out (.bool tq)).setOther (a := ⟨X3, 4, none⟩) HGX.out (.int .u32 ti)).cell 11 (by simp [stC])
      have t7 : (((((w4.setCell ⟨X3, 0, none⟩ (.int .i64 tp)).setCell ⟨X3, 1, none⟩ (.int .i64 th)).setCell ⟨X3, 2, none⟩ (.bool tf)).setCell ⟨X3, 3, none⟩ (.bool tq)).setCell ⟨X3, 4, none⟩ (.int .u32 ti)).cell? ⟨w2.heap.size, 11, none⟩ = some (v) := (((((hb4.setOther (a := ⟨X3, 0, none⟩) HGX.out (.int .i64 tp)).setOther (a := ⟨X3, 1, none⟩) HGX.out (.int .i64 th)).setOther (a := ⟨X3, 2, none⟩) HGX.out (.bool tf)).setOther (a := ⟨X3, 3, none⟩) HGX.out (.bool tq)).setOther (a := ⟨X3, 4, none⟩) HGX.out (.int .u32 ti)).cell 11 (by simp [stC])
      clear hB4 hb4 hr4 bz4
      go_wp2_with fail
      go_region_law (fail)
      all_goals
        go_wp2_with fail
        exact bodyPost_ret (v := .tuple #[.agg #[.int .i64 tp, .int .i64 th, .bool tf, .bool tq, .int .u32 ti], v]) (by simp [results, Try.results8, go_sem, z0', z1', z2', z3', z4']) rfl ⟨d, v, by rw [HR.out]; rfl, by rw [HR.out]; exact rowH_below (row_set5 (rowH_mono HR4.out (by have := HZ2.out; omega)) HBZ4.out _ _ _ _ _) (Below.refl _ _).drew, ((((((HB4.out).setCell HL3.out _).setCell HL3.out _).setCell HL3.out _).setCell HL3.out _).setCell HL3.out _).drew⟩
  · skip
    have HE := Lib.hid (fun d => show M d = (⟨sp, sh, sf, sq, si⟩, []) by rw [HM.out]; unfold stepV; rw [hok]; rfl)
    rw [he] at HCK
    clear hok he
    go_enter Try.func8, Try.ntmps8
    go_wp2_with fail
    rw [HW.out, HX3.out, HX2.out, HX1.out]
    refine (HCK.out W).mono ?_
    rintro e w1 ⟨rfl, hb1⟩
    have HBB := Lib.hid (HA.out.trans (hb1.mono (by rw [HZ.out]; omega)))
    have HBS1 := Lib.hid (HBS.out.next hb1)
    have HBL1 := Lib.hid (HBL.out.next hb1)
    have HBE1 := Lib.hid (HBE.out.next hb1)
    have HBZ1 := Lib.hid (HBZ.out.next hb1)
    have HBY1 := Lib.hid (HBY.out.below hb1)
    have HZ1 := Lib.hid (show w.heap.size + 4 ≤ w1.heap.size by have := hb1.size; have := HZ.out; omega)
    have s0 : w1.cell? ⟨X1, 0, none⟩ = some (.int .i64 sp) := HBS1.out.cell 0 (by simp)
    have s1 : w1.cell? ⟨X1, 1, none⟩ = some (.int .i64 sh) := HBS1.out.cell 1 (by simp)
    have s2 : w1.cell? ⟨X1, 2, none⟩ = some (.bool sf) := HBS1.out.cell 2 (by simp)
    have s3 : w1.cell? ⟨X1, 3, none⟩ = some (.bool sq) := HBS1.out.cell 3 (by simp)
    have s4 : w1.cell? ⟨X1, 4, none⟩ = some (.int .u32 si) := HBS1.out.cell 4 (by simp)
    have z0 : w1.cell? ⟨X3, 0, none⟩ = some (.int .i64 0) := HBZ1.out.cell 0 (by simp)
    have z1 : w1.cell? ⟨X3, 1, none⟩ = some (.int .i64 0) := HBZ1.out.cell 1 (by simp)
    have z2 : w1.cell? ⟨X3, 2, none⟩ = some (.bool false) := HBZ1.out.cell 2 (by simp)
    have z3 : w1.cell? ⟨X3, 3, none⟩ = some (.bool false) := HBZ1.out.cell 3 (by simp)
    have z4 : w1.cell? ⟨X3, 4, none⟩ = some (.int .u32 0) := HBZ1.out.cell 4 (by simp)
    have y0 := HBZ1.out.f 0
    have y1 := HBZ1.out.f 1
    have y2 := HBZ1.out.f 2
    have y3 := HBZ1.out.f 3
    have y4 := HBZ1.out.f 4
    clear hb1
    go_wp2_with fail
    exact bodyPost_ret (v := .tuple #[.agg #[.int .i64 sp, .int .i64 sh, .bool sf, .bool sq, .int .u32 si], .slice none 0 0]) (by simp [results, Try.results8, go_sem, z0, z1, z2, z3, z4]) rfl ⟨⟨none, 0, 0⟩, .slice none 0 0, by rw [HE.out]; rfl, by rw [HE.out]; exact World.ownsRow_nil _ _ _ _, (((((HBB.out).setCell HL3.out _).setCell HL3.out _).setCell HL3.out _).setCell HL3.out _).setCell HL3.out _⟩
  · skip
    have HE := Lib.hid (fun d => show M d = (⟨sp, sh, sf, sq, si⟩, []) by rw [HM.out]; unfold stepV; rw [hok]; rfl)
    rw [he] at HCK
    clear hok he
    go_enter Try.func8, Try.ntmps8
    go_wp2_with fail
    rw [HW.out, HX3.out, HX2.out, HX1.out]
    refine (HCK.out W).mono ?_
    rintro e w1 ⟨rfl, hb1⟩
    have HBB := Lib.hid (HA.out.trans (hb1.mono (by rw [HZ.out]; omega)))
    have HBS1 := Lib.hid (HBS.out.next hb1)
    have HBL1 := Lib.hid (HBL.out.next hb1)
    have HBE1 := Lib.hid (HBE.out.next hb1)
    have HBZ1 := Lib.hid (HBZ.out.next hb1)
    have HBY1 := Lib.hid (HBY.out.below hb1)
    have HZ1 := Lib.hid (show w.heap.size + 4 ≤ w1.heap.size by have := hb1.size; have := HZ.out; omega)
    have s0 : w1.cell? ⟨X1, 0, none⟩ = some (.int .i64 sp) := HBS1.out.cell 0 (by simp)
    have s1 : w1.cell? ⟨X1, 1, none⟩ = some (.int .i64 sh) := HBS1.out.cell 1 (by simp)
    have s2 : w1.cell? ⟨X1, 2, none⟩ = some (.bool sf) := HBS1.out.cell 2 (by simp)
    have s3 : w1.cell? ⟨X1, 3, none⟩ = some (.bool sq) := HBS1.out.cell 3 (by simp)
    have s4 : w1.cell? ⟨X1, 4, none⟩ = some (.int .u32 si) := HBS1.out.cell 4 (by simp)
    have z0 : w1.cell? ⟨X3, 0, none⟩ = some (.int .i64 0) := HBZ1.out.cell 0 (by simp)
    have z1 : w1.cell? ⟨X3, 1, none⟩ = some (.int .i64 0) := HBZ1.out.cell 1 (by simp)
    have z2 : w1.cell? ⟨X3, 2, none⟩ = some (.bool false) := HBZ1.out.cell 2 (by simp)
    have z3 : w1.cell? ⟨X3, 3, none⟩ = some (.bool false) := HBZ1.out.cell 3 (by simp)
    have z4 : w1.cell? ⟨X3, 4, none⟩ = some (.int .u32 0) := HBZ1.out.cell 4 (by simp)
    have y0 := HBZ1.out.f 0
    have y1 := HBZ1.out.f 1
    have y2 := HBZ1.out.f 2
    have y3 := HBZ1.out.f 3
    have y4 := HBZ1.out.f 4
    clear hb1
    go_wp2_with fail
    exact bodyPost_ret (v := .tuple #[.agg #[.int .i64 sp, .int .i64 sh, .bool sf, .bool sq, .int .u32 si], .slice none 0 0]) (by simp [results, Try.results8, go_sem, z0, z1, z2, z3, z4]) rfl ⟨⟨none, 0, 0⟩, .slice none 0 0, by rw [HE.out]; rfl, by rw [HE.out]; exact World.ownsRow_nil _ _ _ _, (((((HBB.out).setCell HL3.out _).setCell HL3.out _).setCell HL3.out _).setCell HL3.out _).setCell HL3.out _⟩
end Go.Proofs.Ytbacnjijfffobaa
