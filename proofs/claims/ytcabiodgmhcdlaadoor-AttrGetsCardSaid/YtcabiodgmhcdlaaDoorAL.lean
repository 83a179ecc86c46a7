/- attr: the calls of lives, each by its own contract. -/
import Derived.Test.YtcabiodgmhcdlaaDoorAJ
namespace Go.Proofs.YtcabiodgmhcdlaaDoor
open Go.RowKit

abbrev LocA (pp cp : Option Addr) (pc cc : Nat) : Loc := ⟨pp, 0, pc, cp, 0, cc⟩
abbrev LocD (pp cp : Option Addr) (pc cc : Nat) : Loc := ⟨pp, 2, pc, cp, 1, cc⟩
theorem lv_A (pp cp : Option Addr) (pc cc : Nat) : (atL lvA (LocA pp cp pc cc)).toArray = #[.int .i64 0, .slice pp 0 pc, .int .u32 167772161, .int .i64 (-1), .int .i64 (-1), .slice cp 0 cc] := rfl
theorem lv_D (pp cp : Option Addr) (pc cc : Nat) : (atL lvD (LocD pp cp pc cc)).toArray = #[.int .i64 2, .slice pp 2 pc, .int .u32 9, .int .i64 5, .int .i64 100, .slice cp 1 cc] := rfl
theorem lv_putA (pp cp : Option Addr) (pc cc : Nat) (w : World) (ht : Tab w) (ha : AtAt w lvA (LocA pp cp pc cc)) :
    Calls Tryd.prog 8 #[.agg #[.int .i64 0, .slice pp 0 pc, .int .u32 167772161, .int .i64 (-1), .int .i64 (-1), .slice cp 0 cc], .bool true] w fun e w' => ∃ p cap, e = .returned (.tuple #[.slice p 14 cap, .int .i64 0]) ∧ Own w' w.heap.size p cap lvAL ∧ Below w.heap.size w w' := by
  have h := putA_ok lvA _ true w ht ha lvA_ok.1
  rw [lvA_put, lv_A] at h
  exact h
theorem lv_putD (pp cp : Option Addr) (pc cc : Nat) (w : World) (ht : Tab w) (ha : AtAt w lvD (LocD pp cp pc cc)) :
    Calls Tryd.prog 8 #[.agg #[.int .i64 2, .slice pp 2 pc, .int .u32 9, .int .i64 5, .int .i64 100, .slice cp 1 cc], .bool true] w fun e w' => ∃ p cap, e = .returned (.tuple #[.slice p 55 cap, .int .i64 0]) ∧ Own w' w.heap.size p cap (putA lvD true) ∧ Below w.heap.size w w' := by
  have h := putA_ok lvD _ true w ht ha lvD_ok.1
  rw [lvD_len, lv_D] at h
  exact h
theorem lv_putN (pp cp : Option Addr) (pc cc : Nat) (w : World) (ha : AtAt w lvD (LocD pp cp pc cc)) :
    Calls Tryd.prog 8 #[.agg #[.int .i64 2, .slice pp 2 pc, .int .u32 9, .int .i64 5, .int .i64 100, .slice cp 1 cc], .bool false] w fun e w' => e = .returned (.tuple #[.slice none 0 0, .int .i64 50]) ∧ Below w.heap.size w w' := by
  have h := putA_no lvD _ false w ha lvD_ok.2
  rw [lv_D] at h
  exact h
theorem lv_getA (p : Option Addr) (cap : Nat) (w : World) (ht : Tab w) (hb : BytesAt w p lvAL) :
    Calls Tryd.prog 11 #[.slice p 14 cap, .bool true] w fun e w' => ∃ (pp cp : Option Addr) (pc cc : Nat), e = .returned (.tuple #[.agg #[.int .i64 0, .slice pp 0 pc, .int .u32 167772161, .int .i64 (-1), .int .i64 (-1), .slice cp 0 cc], .int .i64 1]) ∧ AtAt w' lvA (LocA pp cp pc cc) ∧ Below w.heap.size w w' := by
  have h := getA_any true p lvAL 14 cap w ht hb rfl (by omega)
  rw [lvA_get] at h
  refine h.mono ?_; rintro e w' ⟨⟨pp, pn, pc, cp, cn, cc⟩, rfl, ha, hb⟩
  have h1 : 0 = pn := ha.pn
  have h2 : 0 = cn := ha.cn
  subst h1 h2
  exact ⟨pp, cp, pc, cc, rfl, ha, hb⟩
theorem lv_getD (p : Option Addr) (cap : Nat) (w : World) (ht : Tab w) (hb : BytesAt w p (putA lvD true)) :
    Calls Tryd.prog 11 #[.slice p 55 cap, .bool true] w fun e w' => ∃ (pp cp : Option Addr) (pc cc : Nat), e = .returned (.tuple #[.agg #[.int .i64 2, .slice pp 2 pc, .int .u32 9, .int .i64 5, .int .i64 100, .slice cp 1 cc], .int .i64 1]) ∧ AtAt w' lvD (LocD pp cp pc cc) ∧ Below w.heap.size w w' := by
  have h := getA_any true p (putA lvD true) 55 cap w ht hb lvD_len (by omega)
  rw [lvD_get] at h
  refine h.mono ?_; rintro e w' ⟨⟨pp, pn, pc, cp, cn, cc⟩, rfl, ha, hb⟩
  have h1 : 2 = pn := ha.pn
  have h2 : 1 = cn := ha.cn
  subst h1 h2
  exact ⟨pp, cp, pc, cc, rfl, ha, hb⟩
theorem lv_getN (w : World) (ht : Tab w) :
    Calls Tryd.prog 11 #[.slice none 0 0, .bool true] w fun e w' => ∃ (pp cp : Option Addr) (pn pc cn cc : Nat), e = .returned (.tuple #[.agg #[.int .i64 0, .slice pp pn pc, .int .u32 0, .int .i64 0, .int .i64 0, .slice cp cn cc], .int .i64 2]) ∧ Below w.heap.size w w' := by
  have h := getA_any true none [] 0 0 w ht (BytesAt.nil _ _) rfl (by omega)
  rw [lvN_get] at h
  refine h.mono ?_; rintro e w' ⟨⟨pp, pn, pc, cp, cn, cc⟩, rfl, ha, hb⟩
  exact ⟨pp, cp, pn, pc, cn, cc, rfl, hb⟩
theorem lv_getB (p : Option Addr) (cap : Nat) (w : World) (ht : Tab w) (hb : BytesAt w p [64, 1, 1, 3]) :
    Calls Tryd.prog 11 #[.slice p 4 cap, .bool true] w fun e w' => ∃ (pp cp : Option Addr) (pn pc cn cc : Nat), e = .returned (.tuple #[.agg #[.int .i64 0, .slice pp pn pc, .int .u32 0, .int .i64 0, .int .i64 0, .slice cp cn cc], .int .i64 3]) ∧ Below w.heap.size w w' := by
  have h := getA_any true p [64, 1, 1, 3] 4 cap w ht hb rfl (by omega)
  rw [lvB_get] at h
  refine h.mono ?_; rintro e w' ⟨⟨pp, pn, pc, cp, cn, cc⟩, rfl, ha, hb⟩
  exact ⟨pp, cp, pn, pc, cn, cc, rfl, hb⟩
theorem lv_sameA (pp cp qp dp : Option Addr) (pc cc qc dc : Nat) (w : World) (h1 : AtAt w lvA (LocA pp cp pc cc)) (h2 : AtAt w lvA (LocA qp dp qc dc)) :
    Calls Tryd.prog 13 #[.agg #[.int .i64 0, .slice pp 0 pc, .int .u32 167772161, .int .i64 (-1), .int .i64 (-1), .slice cp 0 cc], .agg #[.int .i64 0, .slice qp 0 qc, .int .u32 167772161, .int .i64 (-1), .int .i64 (-1), .slice dp 0 dc]] w fun e w' => e = .returned (.bool true) ∧ Below w.heap.size w w' := by
  have h := rsame_yes lvA _ _ w h1 h2
  rw [lv_A, lv_A] at h
  exact h
theorem lv_sameD (pp cp qp dp : Option Addr) (pc cc qc dc : Nat) (w : World) (h1 : AtAt w lvD (LocD pp cp pc cc)) (h2 : AtAt w lvD (LocD qp dp qc dc)) :
    Calls Tryd.prog 13 #[.agg #[.int .i64 2, .slice pp 2 pc, .int .u32 9, .int .i64 5, .int .i64 100, .slice cp 1 cc], .agg #[.int .i64 2, .slice qp 2 qc, .int .u32 9, .int .i64 5, .int .i64 100, .slice dp 1 dc]] w fun e w' => e = .returned (.bool true) ∧ Below w.heap.size w w' := by
  have h := rsame_yes lvD _ _ w h1 h2
  rw [lv_D, lv_D] at h
  exact h
theorem lv_likeD (pp cp qp dp : Option Addr) (pc cc qc dc : Nat) (w : World) (h1 : AtAt w lvD (LocD pp cp pc cc)) (h2 : AtAt w lvD (LocD qp dp qc dc)) :
    Calls Tryd.prog 18 #[.agg #[.int .i64 2, .slice pp 2 pc, .int .u32 9, .int .i64 5, .int .i64 100, .slice cp 1 cc], .agg #[.int .i64 2, .slice qp 2 qc, .int .u32 9, .int .i64 5, .int .i64 100, .slice dp 1 dc]] w fun e w' => e = .returned (.bool true) ∧ Below w.heap.size w w' := by
  have h := sameA_yes lvD _ _ w h1 h2
  rw [lv_D, lv_D] at h
  exact h
theorem lv_lenD (pp cp : Option Addr) (pc cc : Nat) (w : World) (h1 : AtAt w lvD (LocD pp cp pc cc)) :
    Calls Tryd.prog 15 #[.agg #[.int .i64 2, .slice pp 2 pc, .int .u32 9, .int .i64 5, .int .i64 100, .slice cp 1 cc]] w fun e w' => e = .returned (.int .i64 3) ∧ Below w.heap.size w w' := by
  have h := length_any lvD _ w h1 (by decide +kernel)
  rw [lvD_lenV, lv_D] at h
  exact h
theorem lv_firstD (pp cp : Option Addr) (pc cc : Nat) (w : World) (h1 : AtAt w lvD (LocD pp cp pc cc)) :
    Calls Tryd.prog 16 #[.agg #[.int .i64 2, .slice pp 2 pc, .int .u32 9, .int .i64 5, .int .i64 100, .slice cp 1 cc]] w fun e w' => e = .returned (.int .i64 7) ∧ Below w.heap.size w w' := by
  have h := first_row lvD _ 7 [70000] [⟨true, [1, 2]⟩] w h1 rfl
  rw [lv_D] at h
  exact h
theorem lv_has2 (pp cp : Option Addr) (pc cc : Nat) (w : World) (h1 : AtAt w lvD (LocD pp cp pc cc)) :
    Calls Tryd.prog 17 #[.agg #[.int .i64 2, .slice pp 2 pc, .int .u32 9, .int .i64 5, .int .i64 100, .slice cp 1 cc], .int .i64 2] w fun e w' => e = .returned (.bool true) ∧ Below w.heap.size w w' := by
  have h := hasA_any lvD _ 2 w h1
  rw [lvD_has.1, lv_D] at h
  exact h
theorem lv_has3 (pp cp : Option Addr) (pc cc : Nat) (w : World) (h1 : AtAt w lvD (LocD pp cp pc cc)) :
    Calls Tryd.prog 17 #[.agg #[.int .i64 2, .slice pp 2 pc, .int .u32 9, .int .i64 5, .int .i64 100, .slice cp 1 cc], .int .i64 3] w fun e w' => e = .returned (.bool false) ∧ Below w.heap.size w w' := by
  have h := hasA_any lvD _ 3 w h1
  rw [lvD_has.2, lv_D] at h
  exact h
theorem lv_check (pp cp : Option Addr) (pc cc : Nat) (w : World) (h1 : AtAt w lvA (LocA pp cp pc cc)) :
    Calls Tryd.prog 10 #[.agg #[.int .i64 0, .slice pp 0 pc, .int .u32 167772161, .int .i64 (-1), .int .i64 (-1), .slice cp 0 cc], .bool false] w fun e w' => e = .returned (.int .i64 0) ∧ Below w.heap.size w w' := by
  have h := checkA_any lvA _ false w h1
  rw [lvA_err, lv_A] at h
  exact h
/-- Attributes in a variable, and their cells. -/
theorem BoxSt.cellsA {w0 w : World} {g : Nat} {pp cp : Option Addr} {pc cc : Nat} (h : BoxSt w0 w g lvA (LocA pp cp pc cc)) : w.cell? ⟨g, 0, none⟩ = some (.int .i64 0) ∧ w.cell? ⟨g, 1, none⟩ = some (.slice pp 0 pc) ∧ w.cell? ⟨g, 2, none⟩ = some (.int .u32 167772161) ∧ w.cell? ⟨g, 3, none⟩ = some (.int .i64 (-1)) ∧ w.cell? ⟨g, 4, none⟩ = some (.int .i64 (-1)) ∧ w.cell? ⟨g, 5, none⟩ = some (.slice cp 0 cc) :=
  ⟨h.kb.cell 0 (by simp [atL]), h.kb.cell 1 (by simp [atL]), h.kb.cell 2 (by simp [atL]), h.kb.cell 3 (by simp [atL]), h.kb.cell 4 (by simp [atL]), h.kb.cell 5 (by simp [atL])⟩
theorem BoxSt.cellsD {w0 w : World} {g : Nat} {pp cp : Option Addr} {pc cc : Nat} (h : BoxSt w0 w g lvD (LocD pp cp pc cc)) : w.cell? ⟨g, 0, none⟩ = some (.int .i64 2) ∧ w.cell? ⟨g, 1, none⟩ = some (.slice pp 2 pc) ∧ w.cell? ⟨g, 2, none⟩ = some (.int .u32 9) ∧ w.cell? ⟨g, 3, none⟩ = some (.int .i64 5) ∧ w.cell? ⟨g, 4, none⟩ = some (.int .i64 100) ∧ w.cell? ⟨g, 5, none⟩ = some (.slice cp 1 cc) :=
  ⟨h.kb.cell 0 (by simp [atL]), h.kb.cell 1 (by simp [atL]), h.kb.cell 2 (by simp [atL]), h.kb.cell 3 (by simp [atL]), h.kb.cell 4 (by simp [atL]), h.kb.cell 5 (by simp [atL])⟩
/-- The attributes that lives builds, where they lie. -/
theorem lv_built (w : World) : ∃ W, ((((w.alloc (.cells #[.int .i64 7, .int .i64 70000] 3)).alloc (.cells #[.int .i64 1, .int .i64 2] 3)).alloc (.cells #[.bool false, .slice (some ⟨w.heap.size, 0, none⟩) 2 2, .bool true, .slice (some ⟨w.heap.size + 1, 0, none⟩) 2 2] 42)).alloc (.cells #[.int .i64 2147483648] 3)) = W ∧ Below w.heap.size w W ∧ W.heap.size = w.heap.size + 4 ∧ AtAt W lvD (LocD (some ⟨w.heap.size + 2, 0, none⟩) (some ⟨w.heap.size + 3, 0, none⟩) 2 1) := by
  have k0 := Blk.new w 3 [.int .i64 7, .int .i64 70000]
  have s0 : (w.alloc (.cells #[.int .i64 7, .int .i64 70000] 3)).heap.size = w.heap.size + 1 := sz_alloc _ _
  obtain ⟨W0, hW0⟩ : ∃ W0, w.alloc (.cells #[.int .i64 7, .int .i64 70000] 3) = W0 := ⟨_, rfl⟩
  have b0 : Below w.heap.size w W0 := by rw [← hW0]; exact new_below _ _
  have k0 : Blk W0 w.heap.size 3 [.int .i64 7, .int .i64 70000] := by rw [← hW0]; exact Blk.new w 3 [.int .i64 7, .int .i64 70000]
  rw [hW0] at s0 ⊢
  have k1 := Blk.new W0 3 [.int .i64 1, .int .i64 2]
  obtain ⟨W1, hW1⟩ : ∃ W1, W0.alloc (.cells #[.int .i64 1, .int .i64 2] 3) = W1 := ⟨_, rfl⟩
  have k1 : Blk W1 W0.heap.size 3 [.int .i64 1, .int .i64 2] := by rw [← hW1]; exact Blk.new W0 3 [.int .i64 1, .int .i64 2]
  have b1 : Below W0.heap.size W0 W1 := by rw [← hW1]; exact new_below _ _
  have s1 : W1.heap.size = W0.heap.size + 1 := by rw [← hW1]; exact sz_alloc _ _
  rw [hW1]
  obtain ⟨W2, hW2⟩ : ∃ W2, W1.alloc (.cells #[.bool false, .slice (some ⟨w.heap.size, 0, none⟩) 2 2, .bool true, .slice (some ⟨w.heap.size + 1, 0, none⟩) 2 2] 42) = W2 := ⟨_, rfl⟩
  have k2 : Blk W2 W1.heap.size 42 [.bool false, .slice (some ⟨w.heap.size, 0, none⟩) 2 2, .bool true, .slice (some ⟨w.heap.size + 1, 0, none⟩) 2 2] := by rw [← hW2]; exact Blk.new W1 42 [.bool false, .slice (some ⟨w.heap.size, 0, none⟩) 2 2, .bool true, .slice (some ⟨w.heap.size + 1, 0, none⟩) 2 2]
  have b2 : Below W1.heap.size W1 W2 := by rw [← hW2]; exact new_below _ _
  have s2 : W2.heap.size = W1.heap.size + 1 := by rw [← hW2]; exact sz_alloc _ _
  rw [hW2]
  obtain ⟨W3, hW3⟩ : ∃ W3, W2.alloc (.cells #[.int .i64 2147483648] 3) = W3 := ⟨_, rfl⟩
  have k3 : Blk W3 W2.heap.size 3 [.int .i64 2147483648] := by rw [← hW3]; exact Blk.new W2 3 [.int .i64 2147483648]
  have b3 : Below W2.heap.size W2 W3 := by rw [← hW3]; exact new_below _ _
  have s3 : W3.heap.size = W2.heap.size + 1 := by rw [← hW3]; exact sz_alloc _ _
  have k2' := k2.next b3
  have k1' := (k1.next b2).next b3
  have k0' := ((k0.next b1).next b2).next b3
  rw [show W0.heap.size = w.heap.size + 1 from s0] at k1'
  rw [show W1.heap.size = w.heap.size + 2 by omega] at k2'
  rw [show W2.heap.size = w.heap.size + 3 by omega] at k3
  refine ⟨W3, hW3, ((b0.trans (b1.mono (by omega))).trans (b2.mono (by omega))).trans (b3.mono (by omega)), by omega, ?_⟩
  have i0 : IntsAt W3 (some ⟨w.heap.size, 0, none⟩) [7, 70000] := .inr ⟨_, _, rfl, fun i hi => by
    match i, hi with
    | 0, _ => exact k0'.cell 0 (by simp)
    | 1, _ => exact k0'.cell 1 (by simp)⟩
  have i1 : IntsAt W3 (some ⟨w.heap.size + 1, 0, none⟩) [1, 2] := .inr ⟨_, _, rfl, fun i hi => by
    match i, hi with
    | 0, _ => exact k1'.cell 0 (by simp)
    | 1, _ => exact k1'.cell 1 (by simp)⟩
  have i2 : IntsAt W3 (some ⟨w.heap.size + 3, 0, none⟩) [2147483648] := .inr ⟨_, _, rfl, fun i hi => by
    match i, hi with
    | 0, _ => exact k3.cell 0 (by simp)⟩
  have sg : SegsAt W3 (some ⟨w.heap.size + 2, 0, none⟩) lvD.path := .inr ⟨_, _, rfl, fun i hi => by
    match i, hi with
    | 0, _ => exact ⟨k2'.cell 0 (by simp), _, 2, 2, k2'.cell 1 (by simp), rfl, by omega, by unfold maxLen; omega, i0⟩
    | 1, _ => exact ⟨k2'.cell 2 (by simp), _, 2, 2, k2'.cell 3 (by simp), rfl, by omega, by unfold maxLen; omega, i1⟩⟩
  exact ⟨sg, rfl, by simp, by unfold maxLen; simp, i2, rfl, by simp, by unfold maxLen; simp, by decide, by decide⟩
end Go.Proofs.YtcabiodgmhcdlaaDoor
