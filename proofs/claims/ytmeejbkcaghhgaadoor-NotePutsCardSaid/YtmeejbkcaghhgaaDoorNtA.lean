/- NoteSames: the walk. -/
import Derived.Test.YtmeejbkcaghhgaaDoorNt9
namespace Go.Proofs.YtmeejbkcaghhgaaDoor
open Go.RowKit

theorem six_kept {W V : World} {a0 a1 a2 a3 a4 a5 : Addr} {v0 v1 v2 v3 v4 v5 : Value} (hb : Below W.heap.size W V)
    (h : W.cell? a0 = some v0 ∧ W.cell? a1 = some v1 ∧ W.cell? a2 = some v2 ∧ W.cell? a3 = some v3 ∧ W.cell? a4 = some v4 ∧ W.cell? a5 = some v5) :
    V.cell? a0 = some v0 ∧ V.cell? a1 = some v1 ∧ V.cell? a2 = some v2 ∧ V.cell? a3 = some v3 ∧ V.cell? a4 = some v4 ∧ V.cell? a5 = some v5 :=
  ⟨kept hb h.1, kept hb h.2.1, kept hb h.2.2.1, kept hb h.2.2.2.1, kept hb h.2.2.2.2.1, kept hb h.2.2.2.2.2⟩
set_option maxRecDepth 100000 in
set_option maxHeartbeats 4000000 in
theorem sames_go (w : World) (ht : Tabs w) (k s : Int) (p : Option Addr) (xs : List Int) (c : Nat) (k' s' : Int) (q : Option Addr) (ys : List Int) (d : Nat) (hp : BytesAt w p xs) (hq : BytesAt w q ys) :
    Calls Tryd.prog 5 #[.agg #[.int .i64 k, .int .i64 s, .slice p xs.length c], .agg #[.int .i64 k', .int .i64 s', .slice q ys.length d]] w fun e w' => e = .returned (.bool true) ∧ Below w.heap.size w w' := by
  have h0 := two_below w (.cells #[.int .i64 k, .int .i64 s, .slice p xs.length c] 24) (.cells #[.int .i64 k', .int .i64 s', .slice q ys.length d] 24)
  have A0 := (Blk.new w 24 [.int .i64 k, .int .i64 s, .slice p xs.length c]).alloc (.cells #[.int .i64 k', .int .i64 s', .slice q ys.length d] 24)
  have B0 := Blk.new (w.alloc (.cells #[.int .i64 k, .int .i64 s, .slice p xs.length c] 24)) 24 [.int .i64 k', .int .i64 s', .slice q ys.length d]
  rw [sz_alloc, show ([.int .i64 k', .int .i64 s', .slice q ys.length d] : List Value).toArray = #[.int .i64 k', .int .i64 s', .slice q ys.length d] from rfl] at B0
  rw [show ([.int .i64 k, .int .i64 s, .slice p xs.length c] : List Value).toArray = #[.int .i64 k, .int .i64 s, .slice p xs.length c] from rfl] at A0 B0
  obtain ⟨W, hW⟩ : ∃ W, (w.alloc (.cells #[.int .i64 k, .int .i64 s, .slice p xs.length c] 24)).alloc (.cells #[.int .i64 k', .int .i64 s', .slice q ys.length d] 24) = W := ⟨_, rfl⟩
  rw [hW] at h0 A0 B0
  have a2 := A0.cell 2 (by simp)
  have b2 := B0.cell 2 (by simp)
  have HB := Lib.hid h0
  have HL := Lib.hid (fun V (h : Below W.heap.size W V) => lives_any V (ht.below (h0.trans (h.mono h0.size))))
  have HS := Lib.hid (fun V (h : Below W.heap.size W V) => sameN_any k s p xs xs.length c k' s' q ys ys.length d V ((hp.below h0).below h) ((hq.below h0).below h) rfl rfl)
  have HR := Lib.hid (fun V (h : Below W.heap.size W V) => rsameN_any k s p xs xs.length c k' s' q ys ys.length d V ((hp.below h0).below h) ((hq.below h0).below h) rfl rfl)
  obtain ⟨r, hr⟩ : ∃ r, sameN k s xs k' s' ys = r := ⟨_, rfl⟩
  rw [hr] at HS HR
  rw [← hW] at a2 b2
  have HW := Lib.hid hW
  by_cases h : 6000 < xs.length ∨ 6000 < ys.length
  · have HL1 := Lib.hid (HL.out W (Below.refl _ _))
    by_cases h1 : 6000 < xs.length
    · have t1 : decide ((6000 : Int) < (xs.length : Int)) = true := by simp; omega
      clear ht hp hq h0 A0 B0 hr hW HL HS HR h h1
      go_enter Tryd.func5, Tryd.ntmps5
      go_wp2_with fail
      rw [HW.out]
      refine HL1.out.mono ?_; rintro e w1 ⟨rfl, hb1⟩
      have HB1 := Lib.hid (HB.out.trans (hb1.mono HB.out.size))
      clear hb1 a2 b2
      go_wp2_with fail
      go_ret
      exact ⟨rfl, HB1.out⟩
    · have t1 : decide ((6000 : Int) < (xs.length : Int)) = false := by simp; omega
      have t2 : decide ((6000 : Int) < (ys.length : Int)) = true := by simp; omega
      clear ht hp hq h0 A0 B0 hr hW HL HS HR h h1
      go_enter Tryd.func5, Tryd.ntmps5
      go_wp2_with fail
      rw [HW.out]
      refine HL1.out.mono ?_; rintro e w1 ⟨rfl, hb1⟩
      have HB1 := Lib.hid (HB.out.trans (hb1.mono HB.out.size))
      clear hb1 a2 b2
      go_wp2_with fail
      go_ret
      exact ⟨rfl, HB1.out⟩
  · have t1 : decide ((6000 : Int) < (xs.length : Int)) = false := by simp; omega
    have t2 : decide ((6000 : Int) < (ys.length : Int)) = false := by simp; omega
    have hS : W.drew.cell? ⟨w.heap.size, 0, none⟩ = some (.int .i64 k) ∧ W.drew.cell? ⟨w.heap.size, 1, none⟩ = some (.int .i64 s) ∧ W.drew.cell? ⟨w.heap.size, 2, none⟩ = some (.slice p xs.length c) ∧ W.drew.cell? ⟨w.heap.size + 1, 0, none⟩ = some (.int .i64 k') ∧ W.drew.cell? ⟨w.heap.size + 1, 1, none⟩ = some (.int .i64 s') ∧ W.drew.cell? ⟨w.heap.size + 1, 2, none⟩ = some (.slice q ys.length d) := ⟨A0.cell 0 (by simp), A0.cell 1 (by simp), A0.cell 2 (by simp), B0.cell 0 (by simp), B0.cell 1 (by simp), B0.cell 2 (by simp)⟩
    have BB : Hid (Below W.heap.size W W.drew) := Lib.hid (Below.refl _ _).drew
    clear ht hp hq h0 A0 B0 hr hW h
    go_enter Tryd.func5, Tryd.ntmps5
    go_wp2_with fail
    rw [HW.out]
    clear a2 b2
    go_region_held (fun w' => w'.cell? ⟨w.heap.size, 0, none⟩ = some (.int .i64 k) ∧ w'.cell? ⟨w.heap.size, 1, none⟩ = some (.int .i64 s) ∧ w'.cell? ⟨w.heap.size, 2, none⟩ = some (.slice p xs.length c) ∧ w'.cell? ⟨w.heap.size + 1, 0, none⟩ = some (.int .i64 k') ∧ w'.cell? ⟨w.heap.size + 1, 1, none⟩ = some (.int .i64 s') ∧ w'.cell? ⟨w.heap.size + 1, 2, none⟩ = some (.slice q ys.length d)) (with_reducible assumption) (first
      | (go_at_call 6; (with_reducible refine (HL.out _ BB.out).mono ?_); rintro e w2 ⟨rfl, hb2⟩; have hS := six_kept hb2 hS; have BB := Lib.hid (BB.out.trans (hb2.mono BB.out.size)); clear hb2)
      | (go_at_call 17; (with_reducible refine (HS.out _ BB.out).mono ?_); rintro e w2 ⟨rfl, hb2⟩; have hS := six_kept hb2 hS; have BB := Lib.hid (BB.out.trans (hb2.mono BB.out.size)); clear hb2)
      | (go_at_call 14; (with_reducible refine (HR.out _ BB.out).mono ?_); rintro e w2 ⟨rfl, hb2⟩; have hS := six_kept hb2 hS; have BB := Lib.hid (BB.out.trans (hb2.mono BB.out.size)); clear hb2))
    all_goals
      go_wp2_with fail
      go_ret
      exact ⟨ret_bool (by simp), HB.out.trans (BB.out.mono HB.out.size)⟩
end Go.Proofs.YtmeejbkcaghhgaaDoor
