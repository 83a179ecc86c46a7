/- Contracts of addr's apart and together: an address's four bytes. -/
import Derived.Test.YtgmcjejgginpjaaPfx
namespace Go.Proofs.Ytgmcjejgginpjaa
open Go.RowKit

theorem fits4 {a : Int} (h0 : 0 ≤ a) (h1 : a < 4294967296) : fitsB a 4 = true := by
  unfold fitsB; rw [decide_eq_true h0, decide_eq_true (by rw [show (2 : Int) ^ (8 * 4) = 4294967296 from rfl]; exact h1)]; rfl

/-- The four bytes as a list of a fixed length. -/
def arr4 (l : List Int) : Value := .agg #[.int .u8 (l.getD 0 0), .int .u8 (l.getD 1 0), .int .u8 (l.getD 2 0), .int .u8 (l.getD 3 0)]

theorem row_four (w : World) (v0 v1 v2 v3 : Value) (t : TypeId) : (w.alloc (.cells #[v0, v1, v2, v3] t)).rowIs w.heap.size t 4 (fun j => #[v0, v1, v2, v3].getD j undef) :=
  World.rowIs_alloc w #[v0, v1, v2, v3] t _ (fun i hi => by
    have : i = 0 ∨ i = 1 ∨ i = 2 ∨ i = 3 := by simp at hi; omega
    rcases this with rfl | rfl | rfl | rfl <;> rfl)

theorem four_cells {w : World} {g : Nat} {t : TypeId} {f : Nat → Value} (h : w.rowIs g t 4 f) :
    (w.cell? ⟨g, 0, none⟩ = some (f 0) ∧ w.cell? ⟨g, 1, none⟩ = some (f 1) ∧ w.cell? ⟨g, 2, none⟩ = some (f 2) ∧ w.cell? ⟨g, 3, none⟩ = some (f 3)) ∧ (w.frozen? ⟨g, 0, none⟩ = false ∧ w.frozen? ⟨g, 1, none⟩ = false ∧ w.frozen? ⟨g, 2, none⟩ = false ∧ w.frozen? ⟨g, 3, none⟩ = false) :=
  ⟨⟨h.cell (by omega), h.cell (by omega), h.cell (by omega), h.cell (by omega)⟩, h.frozen 0, h.frozen 1, h.frozen 2, h.frozen 3⟩

theorem row4_block {w : World} {g : Nat} {t : TypeId} {f : Nat → Value} (h : w.rowIs g t 4 f) : w.heap[g]? = some (.cells #[f 0, f 1, f 2, f 3] t (0, 0)) := by
  obtain ⟨c, hb, hn, hc⟩ := h
  rw [hb]
  congr 2
  apply Array.ext_getElem?
  intro i
  rcases Nat.lt_or_ge i 4 with hi | hi
  · rw [hc i hi]
    have : i = 0 ∨ i = 1 ∨ i = 2 ∨ i = 3 := by omega
    rcases this with rfl | rfl | rfl | rfl <;> rfl
  · rw [Array.getElem?_eq_none (by omega), Array.getElem?_eq_none (by simp; omega)]

theorem copied4 {w : World} {g : Nat} {t : TypeId} {a : Int} (h : w.heap[g]? = some (.cells (splice [Value.int .u8 0, Value.int .u8 0, Value.int .u8 0, Value.int .u8 0] 0 ((putL a 4).map (Value.int .u8))).toArray t (0, 0))) :
    w.rowIs g t 4 (fun j => .int .u8 ((putL a 4).getD j 0)) := by
  have hl : ((putL a 4).map (Value.int .u8)).length = 4 := by rw [List.length_map, putL_len]
  rw [splice_all _ _ (by rw [hl]; rfl)] at h
  have := rowIs_of_list (f := fun j => .int .u8 ((putL a 4).getD j 0)) h (fun i hi => bytes_list _ i (by rw [List.length_map] at hi; exact hi))
  rwa [hl] at this

set_option maxRecDepth 100000 in
theorem apart_any (a : Int) (w : World) (h0 : 0 ≤ a) (h1 : a < 4294967296) :
    Calls Try.prog 41 #[.int .u32 a] w fun e w' => e = .returned (arr4 (putL a 4)) ∧ Below w.heap.size w w' := by
  have hf := fits4 h0 h1
  have S0 := Lib.hid (row_four w (.int .u8 0) (.int .u8 0) (.int .u8 0) (.int .u8 0) 74)
  obtain ⟨W1, hW1⟩ : ∃ W1, w.alloc (.cells #[Value.int .u8 0, Value.int .u8 0, Value.int .u8 0, Value.int .u8 0] 74) = W1 := ⟨_, rfl⟩
  have Z1 := Lib.hid (show W1.heap.size = w.heap.size + 1 by rw [← hW1]; simp)
  have S1 := Lib.hid (show (W1.alloc (.cells #[Value.int .u8 0, Value.int .u8 0, Value.int .u8 0, Value.int .u8 0] 74)).rowIs (w.heap.size + 1) 74 4 (fun j => #[Value.int .u8 0, Value.int .u8 0, Value.int .u8 0, Value.int .u8 0].getD j undef) by rw [← Z1.out]; exact row_four W1 _ _ _ _ _)
  have S0' := Lib.hid (show (W1.alloc (.cells #[Value.int .u8 0, Value.int .u8 0, Value.int .u8 0, Value.int .u8 0] 74)).rowIs w.heap.size 74 4 (fun j => #[Value.int .u8 0, Value.int .u8 0, Value.int .u8 0, Value.int .u8 0].getD j undef) by have := S0.out; rw [hW1] at this; exact this.alloc _)
  have B2 := Lib.hid (below_two w (.cells #[Value.int .u8 0, Value.int .u8 0, Value.int .u8 0, Value.int .u8 0] 74) (.cells #[Value.int .u8 0, Value.int .u8 0, Value.int .u8 0, Value.int .u8 0] 74))
  have Z2 := Lib.hid (show (W1.alloc (.cells #[Value.int .u8 0, Value.int .u8 0, Value.int .u8 0, Value.int .u8 0] 74)).heap.size = w.heap.size + 2 by simp [Z1.out])
  have hp := put_fits a 4 (W1.alloc (.cells #[Value.int .u8 0, Value.int .u8 0, Value.int .u8 0, Value.int .u8 0] 74)) (by omega) (by omega) hf
  rw [Z2.out] at hp
  have HP := Lib.hid hp
  have HW := Lib.hid hW1
  clear hp hW1
  go_enter Try.func41, Try.ntmps41
  go_wp2_with fail
  rw [HW.out]
  refine HP.out.mono ?_; rintro e w1 ⟨rfl, hr, hb⟩
  have HR := Lib.hid hr.list
  have T0 := Lib.hid (World.rowIs.of_block S0'.out (hb.block _ (by omega)))
  have T1 := Lib.hid (World.rowIs.of_block S1.out (hb.block _ (by omega)))
  have HB := Lib.hid (B2.out.trans (by rw [HW.out]; exact hb.mono (by omega)))
  clear hr hb
  go_wp2_with (refine wpList_copy_splice (o := ⟨some 14, _, _, _, _, _⟩) rfl (.tmp 12) (.tmp 13) 24 24 ?h0 5 Try.underlying24 size5 (some ⟨w.heap.size + 1, 0, none⟩) (some ⟨w.heap.size + 2, 0, none⟩) 4 4 4 4 ?h1 ?h2 (w.heap.size + 1) 0 [.int .u8 0, .int .u8 0, .int .u8 0, .int .u8 0] 74 ?c1 ((putL a 4).map (Value.int .u8)) ?c2 ?c3 ?c4 ?c6 (w.heap.size + 1) w1 ?c5 (Nat.le_refl _) ?_; (case h0 => rfl); (case h1 => rfl); (case h2 => rfl); (rotate_right; intro w2 HG hB2; have hcp := copied4 HG.out; have T2 := World.rowIs.of_block T0.out (hB2.block _ (by omega)); have HB2 := Lib.hid hB2; have H2 := Lib.hid T2; obtain ⟨⟨c0, c1, c2, c3⟩, _⟩ := four_cells hcp; obtain ⟨⟨d0, d1, d2, d3⟩, f0, f1, f2, f3⟩ := four_cells T2; clear hB2 T2 hcp))
  · have Z := HB2.out.size
    exact bodyPost_ret (v := arr4 (putL a 4)) (by simp [results, Try.results41, go_sem, arr4, d0, d1, d2, d3]) rfl ⟨rfl, ((((HB.out.trans (HB2.out.mono (by omega))).setCell (Nat.le_refl _) _).setCell (Nat.le_refl _) _).setCell (Nat.le_refl _) _).setCell (Nat.le_refl _) _⟩
  case c1 => exact row4_block T1.out
  case c2 => rw [List.length_map, putL_len]; rfl
  case c3 =>
    intro _ j x hj
    have hl : j < (putL a 4).length := by
      rcases Nat.lt_or_ge j (putL a 4).length with h | h
      · exact h
      · rw [List.getElem?_eq_none h] at hj; cases hj
    have := World.rowIs.cell HR.out hl
    rw [this]
    simp [List.getD, hj]
  case c4 => rw [List.length_map, putL_len]; decide
  case c6 =>
    intro v hv
    obtain ⟨x, _, rfl⟩ := List.mem_map.1 hv
    rfl
  case c5 => exact Below.refl _ _

theorem list_four {α : Type} {l : List α} (h : l.length = 4) : ∃ x y z u, l = [x, y, z, u] := by
  rcases l with _ | ⟨x, _ | ⟨y, _ | ⟨z, _ | ⟨u, _ | ⟨v, r⟩⟩⟩⟩⟩ <;> simp at h
  exact ⟨x, y, z, u, rfl⟩
theorem together_any (l : List Int) (w : World) (hl : l.length = 4) (hx : InByte l) :
    Calls Try.prog 53 #[arr4 l] w fun e w' => e = .returned (.int .u32 (getV l)) ∧ Below w.heap.size w w' := by
  have hv := getV_bd l hx 4 (by omega)
  rw [List.take_of_length_le (by omega)] at hv
  obtain ⟨v0, v1⟩ := hv
  have hp := pow_most (k := 4) (by omega)
  have hby : BytesAt (w.alloc (.cells #[Value.int .u8 (l.getD 0 0), .int .u8 (l.getD 1 0), .int .u8 (l.getD 2 0), .int .u8 (l.getD 3 0)] 74)) (some ⟨w.heap.size, 0, none⟩) l := by
    refine ⟨hx, .inr ⟨_, 0, rfl, fun i hi => ?_⟩⟩
    rw [Nat.zero_add, (row_four w _ _ _ _ _).cell (i := i) (by omega)]
    have : i = 0 ∨ i = 1 ∨ i = 2 ∨ i = 3 := by omega
    rcases this with rfl | rfl | rfl | rfl <;> rfl
  have hg := get_some _ l 4 _ (by omega) (by omega) hby
  rw [hl] at hg
  obtain ⟨x0, x1, x2, x3, rfl⟩ := list_four hl
  obtain ⟨V, hV⟩ : ∃ V, getV [x0, x1, x2, x3] = V := ⟨_, rfl⟩
  rw [hV] at hg v0 v1
  have HG := Lib.hid (show Calls Try.prog 45 #[.slice (some ⟨w.heap.size, 0, none⟩) 4 4] (w.alloc (.cells #[Value.int .u8 x0, .int .u8 x1, .int .u8 x2, .int .u8 x3] 74)) _ from hg)
  have HV := Lib.hid hV
  have hm : V % 4294967296 = V := by omega
  clear hg hby hx hV hl
  show Calls _ _ #[.agg #[.int .u8 x0, .int .u8 x1, .int .u8 x2, .int .u8 x3]] _ _
  go_enter Try.func53, Try.ntmps53
  go_wp2_with fail
  refine HG.out.mono ?_; rintro e w1 ⟨rfl, rfl⟩
  go_wp2_with fail
  go_ret
  exact ⟨by rw [HV.out]; rfl, (Below.refl _ _).alloc (Nat.le_refl _) _⟩
end Go.Proofs.Ytgmcjejgginpjaa
