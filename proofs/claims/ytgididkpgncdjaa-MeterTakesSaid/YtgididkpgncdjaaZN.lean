/- meter beside a law's world; Ten, One. -/
import Derived.Test.YtgididkpgncdjaaZM
import Derived.Test.YtgididkpgncdjaaZH
import Derived.Test.YtgididkpgncdjaaZC
import Derived.Test.YtgididkpgncdjaaZD
namespace Go.Proofs.Ytgididkpgncdjaa
open Go.RowKit Go.Maps
set_option linter.unusedVariables false
set_option linter.unusedSimpArgs false
set_option maxRecDepth 100000

theorem ten0_any (w : World) : Calls Try.prog 24 #[.int .i64 0] w fun e w' => e = .returned (.agg #[.int .u32 167772160, .int .i64 16]) ∧ Below w.heap.size w w' := by
  have hb := newB w (.cells #[.int .u32 167772160, .int .i64 16] 25)
  have hX := Blk.new w 25 [.int .u32 167772160, .int .i64 16]
  have z0 := hX.cell 0 (by simp)
  have z1 := hX.cell 1 (by simp)
  simp only [List.getD_cons_zero, List.getD_cons_succ] at z0 z1
  go_enter Try.func24, Try.ntmps24
  go_wp2
  exact bodyPost_ret (v := .agg #[.int .u32 167772160, .int .i64 16]) (by simp [results, Try.results24, go_sem, z0, z1]; first | done | rfl | decide) rfl ⟨rfl, hb⟩
theorem ten1_any (w : World) : Calls Try.prog 24 #[.int .i64 1] w fun e w' => e = .returned (.agg #[.int .u32 167837696, .int .i64 16]) ∧ Below w.heap.size w w' := by
  have hb := newB w (.cells #[.int .u32 167837696, .int .i64 16] 25)
  have hX := Blk.new w 25 [.int .u32 167837696, .int .i64 16]
  have z0 := hX.cell 0 (by simp)
  have z1 := hX.cell 1 (by simp)
  simp only [List.getD_cons_zero, List.getD_cons_succ] at z0 z1
  go_enter Try.func24, Try.ntmps24
  go_wp2
  exact bodyPost_ret (v := .agg #[.int .u32 167837696, .int .i64 16]) (by simp [results, Try.results24, go_sem, z0, z1]; first | done | rfl | decide) rfl ⟨rfl, hb⟩
theorem one_any (w : World) (src seq : Int) (p : Pf) (hp : InPf p) (c : Int) :
    Calls Try.prog 23 #[.int .i64 src, .int .i64 seq, .agg #[.int .u32 p.a, .int .i64 p.n], .int .i64 c] w fun e w' => ∃ z, e = .returned (.agg #[.int .i64 src, .int .i64 seq, .slice (some ⟨z, 0, none⟩) 1 1]) ∧ CtsAt w' (some ⟨z, 0, none⟩) [⟨p, c⟩] ∧ Below w.heap.size w w' ∧ w.heap.size ≤ z := by
  obtain ⟨pa, pn⟩ := p
  dsimp only
  have hb1 := newB w (.cells #[.int .u32 pa, .int .i64 pn] 25)
  have hx1 := (Blk.new w 25 [.int .u32 pa, .int .i64 pn])
  have hb2 := newB (w.alloc (.cells #[.int .u32 pa, .int .i64 pn] 25)) (.cells #[.int .i64 src, .int .i64 seq, .slice (some ⟨w.heap.size + 1 + 1, 0, none⟩) 1 1] 31)
  have hx2 := Blk.new (w.alloc (.cells #[.int .u32 pa, .int .i64 pn] 25)) 31 [.int .i64 src, .int .i64 seq, .slice (some ⟨w.heap.size + 1 + 1, 0, none⟩) 1 1]
  have hb3 := newB ((w.alloc (.cells #[.int .u32 pa, .int .i64 pn] 25)).alloc (.cells #[.int .i64 src, .int .i64 seq, .slice (some ⟨w.heap.size + 1 + 1, 0, none⟩) 1 1] 31)) (.cells #[.int .u32 pa, .int .i64 pn, .int .i64 c] 67)
  have hl := ct_one ((w.alloc (.cells #[.int .u32 pa, .int .i64 pn] 25)).alloc (.cells #[.int .i64 src, .int .i64 seq, .slice (some ⟨w.heap.size + 1 + 1, 0, none⟩) 1 1] 31)) ⟨⟨pa, pn⟩, c⟩ hp
  have hx2 := hx2.next hb3
  simp only [sz_alloc] at hx2 hl
  obtain ⟨z0, z1, z2⟩ := rep_boxes hx2
  have HL := Lib.hid hl
  have HB := Lib.hid (hb1.trans ((hb2.trans (hb3.mono hb2.size)).mono hb1.size))
  clear hb1 hb2 hb3 hx2 hl
  go_enter Try.func23, Try.ntmps23
  go_wp2
  exact bodyPost_ret (v := .agg #[.int .i64 src, .int .i64 seq, .slice (some ⟨w.heap.size + 1 + 1, 0, none⟩) 1 1]) (by simp [results, Try.results23, go_sem, z0, z1, z2]) rfl ⟨_, rfl, HL.out, HB.out, by omega⟩
/-- A Meter beside a law's world. -/
def Lm (w W : World) (m b : Nat) (V : Nat → Mv) : Prop := (∃ P, MtAt W w.heap.size m b V P) ∧ Below w.heap.size w W
section
variable {w W W' : World} {m b : Nat} {V : Nat → Mv}
theorem Lm.next (H : Lm w W m b V) (hb : Below W.heap.size W W') : Lm w W' m b V := ⟨H.1.imp fun _ h => h.below hb, H.2.trans (hb.mono H.2.size)⟩
theorem Lm.bb (H : Lm w W m b V) : w.heap.size ≤ b := by obtain ⟨⟨P, h⟩, _⟩ := H; exact h.bb
theorem Lm.ok (H : Lm w W m b V) : OkV V := by obtain ⟨⟨P, h⟩, _⟩ := H; exact h.ok
theorem Lm.lt (H : Lm w W m b V) : b < W.heap.size := by obtain ⟨⟨P, h⟩, _⟩ := H; exact h.lt.2
theorem lm_new (w W : World) (hW : Below w.heap.size w W) : Calls Try.prog 8 #[] W fun e w' => ∃ m b, e = .returned (.pointer (some ⟨m, 0, none⟩)) ∧ Lm w w' m b V0 ∧ Below W.heap.size W w' ∧ W.heap.size ≤ b := by
  refine (mnew_any W).mono ?_
  rintro e w' ⟨m, b, rfl, h, hb⟩
  exact ⟨m, b, rfl, ⟨⟨P0, ⟨h.top, h.blk, fun i hi => (h.cm i hi).mono hW.size, fun i hi => (h.rm i hi).mono hW.size, h.ok, Nat.le_trans hW.size h.bm, Nat.le_trans hW.size h.bb, h.ne⟩⟩, hW.trans (hb.mono hW.size)⟩, hb, h.bb⟩
theorem Lm.take (H : Lm w W m b V) (src seq : Int) (z : Option Addr) (L : List Ct) (n c : Nat) (hl : CtsAt W z L) (hn : L.length = n) (hm : n ≤ maxLen) (now : Int) :
    Calls Try.prog 12 #[.pointer (some ⟨m, 0, none⟩), .agg #[.int .i64 src, .int .i64 seq, .slice z n c], .int .i64 now] W fun e w' => e = .returned (.int .i64 (takeE V src seq L now)) ∧ Turns (fun x => x = b) W w' ∧ Lm w w' m b (takeV V src seq L now) := by
  obtain ⟨⟨P, h⟩, hb⟩ := H
  refine (mtake_any W w.heap.size m b V P h hb.size src seq z L n c hl hn hm now).mono ?_
  rintro e w' ⟨rfl, hT, hto⟩
  exact ⟨rfl, hT, hto, hb.trans (hT.below hb.size (fun k hk => by subst hk; exact h.bb))⟩
theorem Lm.demand (H : Lm w W m b V) (p : Pf) (hp : InPf p) : Calls Try.prog 16 #[.pointer (some ⟨m, 0, none⟩), pfV p] W fun e w' => e = .returned (.int .i64 (demV V p)) ∧ Below W.heap.size W w' := by
  obtain ⟨⟨P, h⟩, hb⟩ := H
  exact mdemand_any W w.heap.size m b V P h p hp
theorem Lm.demands (H : Lm w W m b V) : Calls Try.prog 19 #[.pointer (some ⟨m, 0, none⟩)] W fun e w' => DemTo W w' V e := by
  obtain ⟨⟨P, h⟩, hb⟩ := H
  exact mdemands_any W w.heap.size m b V P h
theorem Lm.over (H : Lm w W m b V) : Calls Try.prog 21 #[.pointer (some ⟨m, 0, none⟩)] W fun e w' => e = .returned (.bool (overV V)) ∧ Below W.heap.size W w' := by
  obtain ⟨⟨P, h⟩, hb⟩ := H
  exact mover_any W w.heap.size m b V P h
theorem Lm.stamp (H : Lm w W m b V) (src : Int) : Calls Try.prog 14 #[.pointer (some ⟨m, 0, none⟩), .int .i64 src] W fun e w' => e = .returned (.tuple #[.int .i64 (stampV V src).1, .bool (stampV V src).2]) ∧ Below W.heap.size W w' := by
  obtain ⟨⟨P, h⟩, hb⟩ := H
  exact mstamp_any W w.heap.size m b V P h src
end
end Go.Proofs.Ytgididkpgncdjaa
