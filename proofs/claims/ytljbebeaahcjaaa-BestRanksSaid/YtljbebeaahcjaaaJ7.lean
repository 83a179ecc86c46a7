/- best: least, for each look. -/
import Derived.Test.YtljbebeaahcjaaaJ6
import Derived.Deep.RegionHeldLaw
import Derived.Deep.RegionLaw
namespace Go.Proofs.Ytljbebeaahcjaaa
open Go.RowKit Go.Maps
set_option linter.unusedVariables false
set_option linter.unusedSimpArgs false
set_option maxRecDepth 100000

/-- The number of a place. -/
def keyAt (K : Nat) (l : List Rv) (i : Int) : Int := keyV K (l.getD i.toNat Rv.zero)
/-- Routes that may be looked at. -/
structure Looks (w : World) (p : Option Addr) (l : List Rv) (n : Nat) : Prop where
  intro ::
  at_ : RvsAt w p l
  len : l.length = n
  small : n ≤ 1000000
  lens : ∀ y ∈ l, lenL y.x.L ≤ 1000000
theorem Looks.below {w w' : World} {p : Option Addr} {l : List Rv} {n : Nat} (h : Looks w p l n) (hb : Below w.heap.size w w') : Looks w' p l n := ⟨h.at_.below hb, h.len, h.small, h.lens⟩

theorem look0_at (w : World) (p : Option Addr) (l : List Rv) (n j : Nat) (h : Looks w p l n) (hj : j < n) : ∃ b off, p = some ⟨b, off, none⟩ ∧ Calls Try.prog 43 #[.pointer (some ⟨b, off + j * 10, none⟩)] w fun e w' => e = .returned (.int .i64 (keyAt 0 l j)) ∧ Below w.heap.size w w' := by
  obtain ⟨b, off, rfl, hr⟩ := rv_here h.at_ h.len hj
  have hm : l.getD j Rv.zero ∈ l := by simp [List.getD, show j < l.length by rw [h.len]; exact hj]
  exact ⟨b, off, rfl, look0_any w b (off + j * 10) _ hr⟩
set_option maxHeartbeats 4000000 in
theorem lessF0_any (w : World) (p : Option Addr) (l : List Rv) (n c j ca cb cd : Nat) (best : Int) (h : Looks w p l n) (hj : j < n) (ha : w.cell? ⟨ca, 0, none⟩ = some (.func (.func 43) #[] #[])) (hb : w.cell? ⟨cb, 0, none⟩ = some (.slice p n c)) (hd : w.cell? ⟨cd, 0, none⟩ = some (.int .i64 best)) :
    Calls Try.prog 32 #[.int .i64 j, .pointer (some ⟨ca, 0, none⟩), .pointer (some ⟨cb, 0, none⟩), .pointer (some ⟨cd, 0, none⟩)] w fun e w' => e = .returned (.bool (decide (best < keyAt 0 l j))) ∧ Below w.heap.size w w' := by
  have hsm := h.small
  obtain ⟨b, off, rfl, hL⟩ := look0_at w.drew p l n j (h.below (Below.refl _ _).drew) hj
  have HL := Lib.hid hL
  have HSS := Lib.hid (fun (u : World) (hu : Below w.heap.size w u) => show u.cell? ⟨ca, 0, none⟩ = some (.func (.func 43) #[] #[]) ∧ u.cell? ⟨cb, 0, none⟩ = some (.slice (some ⟨b, off, none⟩) n c) ∧ u.cell? ⟨cd, 0, none⟩ = some (.int .i64 best) from ⟨kept hu ha, kept hu hb, kept hu hd⟩)
  have hS : w.drew.cell? ⟨ca, 0, none⟩ = some (.func (.func 43) #[] #[]) ∧ w.drew.cell? ⟨cb, 0, none⟩ = some (.slice (some ⟨b, off, none⟩) n c) ∧ w.drew.cell? ⟨cd, 0, none⟩ = some (.int .i64 best) := ⟨ha, hb, hd⟩
  obtain ⟨V, hV⟩ : ∃ V, keyAt 0 l j = V := ⟨_, rfl⟩
  rw [hV] at HL ⊢
  have hjI : (j : Int) < (n : Int) := by omega
  clear h hL ha hb hd hV
  go_enter Try.func32, Try.ntmps32
  go_wp2_with fail
  go_region_held_law (fun W => W.cell? ⟨ca, 0, none⟩ = some (.func (.func 43) #[] #[]) ∧ W.cell? ⟨cb, 0, none⟩ = some (.slice (some ⟨b, off, none⟩) n c) ∧ W.cell? ⟨cd, 0, none⟩ = some (.int .i64 best)) (with_reducible assumption) (first | (go_at_call 43; refine HL.out.mono ?_; rintro e u ⟨rfl, hu⟩; have HBu := Lib.hid (show Below w.heap.size w u from (Below.refl w.heap.size w).drew.trans hu); have hSu := HSS.out u HBu.out; clear hu))
  all_goals
    go_wp2_with fail
    go_ret
    exact ⟨rfl, HBu.out⟩
theorem look1_at (w : World) (p : Option Addr) (l : List Rv) (n j : Nat) (h : Looks w p l n) (hj : j < n) : ∃ b off, p = some ⟨b, off, none⟩ ∧ Calls Try.prog 44 #[.pointer (some ⟨b, off + j * 10, none⟩)] w fun e w' => e = .returned (.int .i64 (keyAt 1 l j)) ∧ Below w.heap.size w w' := by
  obtain ⟨b, off, rfl, hr⟩ := rv_here h.at_ h.len hj
  have hm : l.getD j Rv.zero ∈ l := by simp [List.getD, show j < l.length by rw [h.len]; exact hj]
  exact ⟨b, off, rfl, look1_any w b (off + j * 10) _ hr (h.lens _ hm)⟩
set_option maxHeartbeats 4000000 in
theorem lessF1_any (w : World) (p : Option Addr) (l : List Rv) (n c j ca cb cd : Nat) (best : Int) (h : Looks w p l n) (hj : j < n) (ha : w.cell? ⟨ca, 0, none⟩ = some (.func (.func 44) #[] #[])) (hb : w.cell? ⟨cb, 0, none⟩ = some (.slice p n c)) (hd : w.cell? ⟨cd, 0, none⟩ = some (.int .i64 best)) :
    Calls Try.prog 32 #[.int .i64 j, .pointer (some ⟨ca, 0, none⟩), .pointer (some ⟨cb, 0, none⟩), .pointer (some ⟨cd, 0, none⟩)] w fun e w' => e = .returned (.bool (decide (best < keyAt 1 l j))) ∧ Below w.heap.size w w' := by
  have hsm := h.small
  obtain ⟨b, off, rfl, hL⟩ := look1_at w.drew p l n j (h.below (Below.refl _ _).drew) hj
  have HL := Lib.hid hL
  have HSS := Lib.hid (fun (u : World) (hu : Below w.heap.size w u) => show u.cell? ⟨ca, 0, none⟩ = some (.func (.func 44) #[] #[]) ∧ u.cell? ⟨cb, 0, none⟩ = some (.slice (some ⟨b, off, none⟩) n c) ∧ u.cell? ⟨cd, 0, none⟩ = some (.int .i64 best) from ⟨kept hu ha, kept hu hb, kept hu hd⟩)
  have hS : w.drew.cell? ⟨ca, 0, none⟩ = some (.func (.func 44) #[] #[]) ∧ w.drew.cell? ⟨cb, 0, none⟩ = some (.slice (some ⟨b, off, none⟩) n c) ∧ w.drew.cell? ⟨cd, 0, none⟩ = some (.int .i64 best) := ⟨ha, hb, hd⟩
  obtain ⟨V, hV⟩ : ∃ V, keyAt 1 l j = V := ⟨_, rfl⟩
  rw [hV] at HL ⊢
  have hjI : (j : Int) < (n : Int) := by omega
  clear h hL ha hb hd hV
  go_enter Try.func32, Try.ntmps32
  go_wp2_with fail
  go_region_held_law (fun W => W.cell? ⟨ca, 0, none⟩ = some (.func (.func 44) #[] #[]) ∧ W.cell? ⟨cb, 0, none⟩ = some (.slice (some ⟨b, off, none⟩) n c) ∧ W.cell? ⟨cd, 0, none⟩ = some (.int .i64 best)) (with_reducible assumption) (first | (go_at_call 44; refine HL.out.mono ?_; rintro e u ⟨rfl, hu⟩; have HBu := Lib.hid (show Below w.heap.size w u from (Below.refl w.heap.size w).drew.trans hu); have hSu := HSS.out u HBu.out; clear hu))
  all_goals
    go_wp2_with fail
    go_ret
    exact ⟨rfl, HBu.out⟩
theorem look2_at (w : World) (p : Option Addr) (l : List Rv) (n j : Nat) (h : Looks w p l n) (hj : j < n) : ∃ b off, p = some ⟨b, off, none⟩ ∧ Calls Try.prog 46 #[.pointer (some ⟨b, off + j * 10, none⟩)] w fun e w' => e = .returned (.int .i64 (keyAt 2 l j)) ∧ Below w.heap.size w w' := by
  obtain ⟨b, off, rfl, hr⟩ := rv_here h.at_ h.len hj
  have hm : l.getD j Rv.zero ∈ l := by simp [List.getD, show j < l.length by rw [h.len]; exact hj]
  exact ⟨b, off, rfl, look2_any w b (off + j * 10) _ hr⟩
set_option maxHeartbeats 4000000 in
theorem lessF2_any (w : World) (p : Option Addr) (l : List Rv) (n c j ca cb cd : Nat) (best : Int) (h : Looks w p l n) (hj : j < n) (ha : w.cell? ⟨ca, 0, none⟩ = some (.func (.func 46) #[] #[])) (hb : w.cell? ⟨cb, 0, none⟩ = some (.slice p n c)) (hd : w.cell? ⟨cd, 0, none⟩ = some (.int .i64 best)) :
    Calls Try.prog 32 #[.int .i64 j, .pointer (some ⟨ca, 0, none⟩), .pointer (some ⟨cb, 0, none⟩), .pointer (some ⟨cd, 0, none⟩)] w fun e w' => e = .returned (.bool (decide (best < keyAt 2 l j))) ∧ Below w.heap.size w w' := by
  have hsm := h.small
  obtain ⟨b, off, rfl, hL⟩ := look2_at w.drew p l n j (h.below (Below.refl _ _).drew) hj
  have HL := Lib.hid hL
  have HSS := Lib.hid (fun (u : World) (hu : Below w.heap.size w u) => show u.cell? ⟨ca, 0, none⟩ = some (.func (.func 46) #[] #[]) ∧ u.cell? ⟨cb, 0, none⟩ = some (.slice (some ⟨b, off, none⟩) n c) ∧ u.cell? ⟨cd, 0, none⟩ = some (.int .i64 best) from ⟨kept hu ha, kept hu hb, kept hu hd⟩)
  have hS : w.drew.cell? ⟨ca, 0, none⟩ = some (.func (.func 46) #[] #[]) ∧ w.drew.cell? ⟨cb, 0, none⟩ = some (.slice (some ⟨b, off, none⟩) n c) ∧ w.drew.cell? ⟨cd, 0, none⟩ = some (.int .i64 best) := ⟨ha, hb, hd⟩
  obtain ⟨V, hV⟩ : ∃ V, keyAt 2 l j = V := ⟨_, rfl⟩
  rw [hV] at HL ⊢
  have hjI : (j : Int) < (n : Int) := by omega
  clear h hL ha hb hd hV
  go_enter Try.func32, Try.ntmps32
  go_wp2_with fail
  go_region_held_law (fun W => W.cell? ⟨ca, 0, none⟩ = some (.func (.func 46) #[] #[]) ∧ W.cell? ⟨cb, 0, none⟩ = some (.slice (some ⟨b, off, none⟩) n c) ∧ W.cell? ⟨cd, 0, none⟩ = some (.int .i64 best)) (with_reducible assumption) (first | (go_at_call 46; refine HL.out.mono ?_; rintro e u ⟨rfl, hu⟩; have HBu := Lib.hid (show Below w.heap.size w u from (Below.refl w.heap.size w).drew.trans hu); have hSu := HSS.out u HBu.out; clear hu))
  all_goals
    go_wp2_with fail
    go_ret
    exact ⟨rfl, HBu.out⟩
theorem look4_at (w : World) (p : Option Addr) (l : List Rv) (n j : Nat) (h : Looks w p l n) (hj : j < n) : ∃ b off, p = some ⟨b, off, none⟩ ∧ Calls Try.prog 29 #[.pointer (some ⟨b, off + j * 10, none⟩)] w fun e w' => e = .returned (.int .i64 (keyAt 4 l j)) ∧ Below w.heap.size w w' := by
  obtain ⟨b, off, rfl, hr⟩ := rv_here h.at_ h.len hj
  have hm : l.getD j Rv.zero ∈ l := by simp [List.getD, show j < l.length by rw [h.len]; exact hj]
  exact ⟨b, off, rfl, look4_any w b (off + j * 10) _ hr⟩
set_option maxHeartbeats 4000000 in
theorem lessF4_any (w : World) (p : Option Addr) (l : List Rv) (n c j ca cb cd : Nat) (best : Int) (h : Looks w p l n) (hj : j < n) (ha : w.cell? ⟨ca, 0, none⟩ = some (.func (.func 29) #[] #[])) (hb : w.cell? ⟨cb, 0, none⟩ = some (.slice p n c)) (hd : w.cell? ⟨cd, 0, none⟩ = some (.int .i64 best)) :
    Calls Try.prog 32 #[.int .i64 j, .pointer (some ⟨ca, 0, none⟩), .pointer (some ⟨cb, 0, none⟩), .pointer (some ⟨cd, 0, none⟩)] w fun e w' => e = .returned (.bool (decide (best < keyAt 4 l j))) ∧ Below w.heap.size w w' := by
  have hsm := h.small
  obtain ⟨b, off, rfl, hL⟩ := look4_at w.drew p l n j (h.below (Below.refl _ _).drew) hj
  have HL := Lib.hid hL
  have HSS := Lib.hid (fun (u : World) (hu : Below w.heap.size w u) => show u.cell? ⟨ca, 0, none⟩ = some (.func (.func 29) #[] #[]) ∧ u.cell? ⟨cb, 0, none⟩ = some (.slice (some ⟨b, off, none⟩) n c) ∧ u.cell? ⟨cd, 0, none⟩ = some (.int .i64 best) from ⟨kept hu ha, kept hu hb, kept hu hd⟩)
  have hS : w.drew.cell? ⟨ca, 0, none⟩ = some (.func (.func 29) #[] #[]) ∧ w.drew.cell? ⟨cb, 0, none⟩ = some (.slice (some ⟨b, off, none⟩) n c) ∧ w.drew.cell? ⟨cd, 0, none⟩ = some (.int .i64 best) := ⟨ha, hb, hd⟩
  obtain ⟨V, hV⟩ : ∃ V, keyAt 4 l j = V := ⟨_, rfl⟩
  rw [hV] at HL ⊢
  have hjI : (j : Int) < (n : Int) := by omega
  clear h hL ha hb hd hV
  go_enter Try.func32, Try.ntmps32
  go_wp2_with fail
  go_region_held_law (fun W => W.cell? ⟨ca, 0, none⟩ = some (.func (.func 29) #[] #[]) ∧ W.cell? ⟨cb, 0, none⟩ = some (.slice (some ⟨b, off, none⟩) n c) ∧ W.cell? ⟨cd, 0, none⟩ = some (.int .i64 best)) (with_reducible assumption) (first | (go_at_call 29; refine HL.out.mono ?_; rintro e u ⟨rfl, hu⟩; have HBu := Lib.hid (show Below w.heap.size w u from (Below.refl w.heap.size w).drew.trans hu); have hSu := HSS.out u HBu.out; clear hu))
  all_goals
    go_wp2_with fail
    go_ret
    exact ⟨rfl, HBu.out⟩
theorem look5_at (w : World) (p : Option Addr) (l : List Rv) (n j : Nat) (h : Looks w p l n) (hj : j < n) : ∃ b off, p = some ⟨b, off, none⟩ ∧ Calls Try.prog 30 #[.pointer (some ⟨b, off + j * 10, none⟩)] w fun e w' => e = .returned (.int .i64 (keyAt 5 l j)) ∧ Below w.heap.size w w' := by
  obtain ⟨b, off, rfl, hr⟩ := rv_here h.at_ h.len hj
  have hm : l.getD j Rv.zero ∈ l := by simp [List.getD, show j < l.length by rw [h.len]; exact hj]
  exact ⟨b, off, rfl, look5_any w b (off + j * 10) _ hr⟩
set_option maxHeartbeats 4000000 in
theorem lessF5_any (w : World) (p : Option Addr) (l : List Rv) (n c j ca cb cd : Nat) (best : Int) (h : Looks w p l n) (hj : j < n) (ha : w.cell? ⟨ca, 0, none⟩ = some (.func (.func 30) #[] #[])) (hb : w.cell? ⟨cb, 0, none⟩ = some (.slice p n c)) (hd : w.cell? ⟨cd, 0, none⟩ = some (.int .i64 best)) :
    Calls Try.prog 32 #[.int .i64 j, .pointer (some ⟨ca, 0, none⟩), .pointer (some ⟨cb, 0, none⟩), .pointer (some ⟨cd, 0, none⟩)] w fun e w' => e = .returned (.bool (decide (best < keyAt 5 l j))) ∧ Below w.heap.size w w' := by
  have hsm := h.small
  obtain ⟨b, off, rfl, hL⟩ := look5_at w.drew p l n j (h.below (Below.refl _ _).drew) hj
  have HL := Lib.hid hL
  have HSS := Lib.hid (fun (u : World) (hu : Below w.heap.size w u) => show u.cell? ⟨ca, 0, none⟩ = some (.func (.func 30) #[] #[]) ∧ u.cell? ⟨cb, 0, none⟩ = some (.slice (some ⟨b, off, none⟩) n c) ∧ u.cell? ⟨cd, 0, none⟩ = some (.int .i64 best) from ⟨kept hu ha, kept hu hb, kept hu hd⟩)
  have hS : w.drew.cell? ⟨ca, 0, none⟩ = some (.func (.func 30) #[] #[]) ∧ w.drew.cell? ⟨cb, 0, none⟩ = some (.slice (some ⟨b, off, none⟩) n c) ∧ w.drew.cell? ⟨cd, 0, none⟩ = some (.int .i64 best) := ⟨ha, hb, hd⟩
  obtain ⟨V, hV⟩ : ∃ V, keyAt 5 l j = V := ⟨_, rfl⟩
  rw [hV] at HL ⊢
  have hjI : (j : Int) < (n : Int) := by omega
  clear h hL ha hb hd hV
  go_enter Try.func32, Try.ntmps32
  go_wp2_with fail
  go_region_held_law (fun W => W.cell? ⟨ca, 0, none⟩ = some (.func (.func 30) #[] #[]) ∧ W.cell? ⟨cb, 0, none⟩ = some (.slice (some ⟨b, off, none⟩) n c) ∧ W.cell? ⟨cd, 0, none⟩ = some (.int .i64 best)) (with_reducible assumption) (first | (go_at_call 30; refine HL.out.mono ?_; rintro e u ⟨rfl, hu⟩; have HBu := Lib.hid (show Below w.heap.size w u from (Below.refl w.heap.size w).drew.trans hu); have hSu := HSS.out u HBu.out; clear hu))
  all_goals
    go_wp2_with fail
    go_ret
    exact ⟨rfl, HBu.out⟩
end Go.Proofs.Ytljbebeaahcjaaa
