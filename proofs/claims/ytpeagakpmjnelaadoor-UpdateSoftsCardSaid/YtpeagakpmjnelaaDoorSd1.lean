/- Contracts of num's Reader: copied, From, Bad, Left, spoil, take, Num, Bytes. -/
import Derived.Test.YtpeagakpmjnelaaDoorByA
import Derived.Test.YtpeagakpmjnelaaDoorByA
import Derived.Laws.CopyOwn
namespace Go.Proofs.YtpeagakpmjnelaaDoor.Ax
open Go.RowKit
set_option maxRecDepth 100000
theorem copied_any (p : Option Addr) (xs : List Int) (cap : Nat) (w : World) (hn : xs.length ≤ 140737488355328) (hb : BytesAt w p xs) :
    Calls Tryd.prog 59 #[.slice p xs.length cap] w fun e w' => e = .returned (.slice (some ⟨w.heap.size, 0, none⟩) xs.length xs.length) ∧ BRow w' w.heap.size xs ∧ Below w.heap.size w w' := by
  have hmk := run_make_row' (P := Tryd.prog) 32 5 (.int .u8 0) 1 Tryd.underlying32 info5 rfl .i64 .i64 xs.length (by omega) (by omega)
  obtain ⟨hx, hb⟩ := hb
  obtain ⟨n, hN⟩ : ∃ n, xs.length = n := ⟨_, rfl⟩
  rw [hN] at hmk hn ⊢
  obtain ⟨cs, hcs⟩ : ∃ cs, xs.map (Value.int .u8) = cs := ⟨_, rfl⟩
  have hcl : cs.length = n := by rw [← hcs]; simpa using hN
  have hsrc : 0 < cs.length → ∃ ad, p = some ad ∧ ∀ j v, cs[j]? = some v → w.cell? (ad.add j) = some v := by
    intro h
    rcases hb with rfl | ⟨b, off, rfl, hc⟩
    · simp at hN; omega
    · refine ⟨_, rfl, fun j v hj => ?_⟩
      have hjl : j < xs.length := by
        rcases Nat.lt_or_ge j cs.length with h | h
        · omega
        · rw [List.getElem?_eq_none h] at hj; cases hj
      rw [show (⟨b, off, none⟩ : Addr).add j = ⟨b, off + j, none⟩ from by unfold Addr.add; split <;> simp_all, hc j hjl, ← bytes_list xs j hjl, hcs, hj]
  have h1 : ∀ v ∈ cs, v.oneCell' = true := by
    intro v hv
    rw [← hcs] at hv
    obtain ⟨x, _, rfl⟩ := List.mem_map.1 hv
    rfl
  have HN := Lib.hid hN; have HC := Lib.hid hcs; have HL := Lib.hid hcl; have HS := Lib.hid hsrc; have H1 := Lib.hid h1
  clear hN hcs hb hx hcl hsrc h1
  go_enter Tryd.func59, Tryd.ntmps59
  go_wp2_with (refine wpList_copy_splice (o := ⟨some 9, _, _, _, _, _⟩) rfl (.tmp 7) (.tmp 8) 32 32 ?h0 5 Tryd.underlying32 size5 (some ⟨w.heap.size, 0, none⟩) p n n n cap ?h1 ?h2 w.heap.size 0 (madeCells #[Value.int IntKind.u8 0] n).toList 5 ?c1 cs ?c2 ?c3 ?c4 H1.out w.heap.size w ?c5 (Nat.le_refl _) ?_; (case h0 => rfl); (case h1 => rfl); (case h2 => rfl); (rotate_right; intro w2 HG hB2))
  · go_ret
    refine ⟨rfl, ?_, hB2⟩
    have hg := HG.out
    rw [splice_all _ _ (by rw [HL.out, Array.length_toList, size_madeCells])] at hg
    have := rowIs_of_list (f := fun j => .int .u8 (xs.getD j 0)) hg (fun i hi => by rw [← HC.out]; exact bytes_list xs i (by have := HL.out; have := HN.out; omega))
    rw [HL.out] at this
    unfold BRow
    rw [HN.out]
    exact this
  case c1 => rw [Array.toArray_toList]; exact Go.Deep.blk_alloc_new _ _
  case c2 => rw [HL.out]; exact (Nat.min_self n).symm
  case c3 =>
    intro h
    obtain ⟨ad, e, k⟩ := HS.out h
    refine ⟨ad, e, fun j v hj => ?_⟩
    have hk := k j v hj
    exact ((Below.refl w.heap.size w).alloc (Nat.le_refl _) _).cell (World.block_lt_of_cell? w _ hk) |>.trans hk
  case c4 => rw [HL.out, Array.length_toList, size_madeCells]; omega
  case c5 => exact (Below.refl _ _).alloc (Nat.le_refl _) _

/-- What a reader holds: none: it is bad; some xs: these bytes are left. -/
def RdAt (w : World) (g : Nat) : Option (List Int) → Prop
  | none => w.rowIs g 103 2 (fun j => if j = 0 then .slice none 0 0 else .bool true)
  | some xs => ∃ b off cap, w.rowIs g 103 2 (fun j => if j = 0 then .slice (some ⟨b, off, none⟩) xs.length cap else .bool false) ∧ b < g ∧ BytesAt w (some ⟨b, off, none⟩) xs ∧ xs.length ≤ cap ∧ cap ≤ 140737488355328

theorem RdAt.lt {w : World} {g : Nat} {s : Option (List Int)} (h : RdAt w g s) : g < w.heap.size := by
  cases s with
  | none => exact World.rowIs.lt h
  | some xs => obtain ⟨_, _, _, h, _⟩ := h; exact World.rowIs.lt h

/-- A pointer to a block that is new, and what that holds. -/
def NewAt (w w' : World) (e : Ending) (P : Nat → Prop) : Prop := ∃ g, e = .returned (.pointer (some ⟨g, 0, none⟩)) ∧ w.heap.size ≤ g ∧ P g ∧ Below w.heap.size w w'

theorem row_two (w : World) (v1 v2 : Value) (t : TypeId) : (w.alloc (.cells #[v1, v2] t)).rowIs w.heap.size t 2 (fun j => if j = 0 then v1 else v2) :=
  World.rowIs_alloc w #[v1, v2] t _ (fun i hi => by
    have : i = 0 ∨ i = 1 := by simp at hi; omega
    rcases this with rfl | rfl <;> rfl)

theorem from_any (p : Option Addr) (xs : List Int) (cap : Nat) (w : World) (hn : xs.length ≤ 140737488355328) (hb : BytesAt w p xs) :
    Calls Tryd.prog 31 #[.slice p xs.length cap] w fun e w' => NewAt w w' e (fun g => RdAt w' g (some xs)) := by
  have hx := Lib.hid hb.1
  go_enter Tryd.func31, Tryd.ntmps31
  go_wp2_with fail
  refine (copied_any _ _ _ _ hn hb).mono ?_; rintro e w1 ⟨rfl, hr, hb2⟩
  have HR := Lib.hid hr
  have HB := Lib.hid hb2
  have HN := Lib.hid hb
  clear hr hb2 hb
  go_wp2_with fail
  go_ret
  have hlt := World.rowIs.lt HR.out
  refine ⟨w1.heap.size, rfl, HB.out.size, ⟨w.heap.size, 0, xs.length, row_two _ _ _ _, by omega, ?_, Nat.le_refl _, hn⟩, HB.out.alloc HB.out.size _⟩
  exact (BRow.bytes HR.out hx.out).of_block (Go.Deep.blk_alloc_lt _ _ _ hlt)

theorem bad_nil (w : World) : Calls Tryd.prog 34 #[.pointer none] w fun e w' => e = .returned (.bool true) ∧ w = w' := by
  go_enter Tryd.func34, Tryd.ntmps34
  go_wp2
  go_ret
  exact ⟨rfl, rfl⟩

theorem bad_any (w : World) (g : Nat) (s : Option (List Int)) (h : RdAt w g s) : Calls Tryd.prog 34 #[.pointer (some ⟨g, 0, none⟩)] w fun e w' => e = .returned (.bool s.isNone) ∧ w = w' := by
  have hc : w.cell? ⟨g, 1, none⟩ = some (.bool s.isNone) := by
    cases s with
    | none => exact World.rowIs.cell h (i := 1) (by omega)
    | some xs => obtain ⟨b, off, cap, h, _⟩ := h; exact World.rowIs.cell h (i := 1) (by omega)
  go_enter Tryd.func34, Tryd.ntmps34
  go_wp2
  go_ret
  exact ⟨rfl, rfl⟩

theorem left_nil (w : World) : Calls Tryd.prog 37 #[.pointer none] w fun e w' => e = .returned (.int .i64 0) ∧ w = w' := by
  go_enter Tryd.func37, Tryd.ntmps37
  go_wp2_with fail
  refine (bad_nil _).mono ?_; rintro e w' ⟨rfl, rfl⟩
  go_wp2
  go_ret
  exact ⟨rfl, rfl⟩

def leftV : Option (List Int) → Nat
  | none => 0
  | some xs => xs.length
theorem left_any (w : World) (g : Nat) (s : Option (List Int)) (h : RdAt w g s) : Calls Tryd.prog 37 #[.pointer (some ⟨g, 0, none⟩)] w fun e w' => e = .returned (.int .i64 (leftV s)) ∧ w = w' := by
  have hbad := bad_any w g s h
  cases s with
  | none =>
    have HB := Lib.hid hbad
    clear hbad h
    go_enter Tryd.func37, Tryd.ntmps37
    go_wp2_with fail
    refine (HB.out).mono ?_; rintro e w' ⟨rfl, rfl⟩
    go_wp2
    go_ret
    exact ⟨rfl, rfl⟩
  | some xs =>
    obtain ⟨b, off, cap, h, _⟩ := h
    have hc := World.rowIs.cell h (i := 0) (by omega)
    rw [if_pos rfl] at hc
    have HB := Lib.hid hbad
    clear hbad h
    go_enter Tryd.func37, Tryd.ntmps37
    go_wp2_with fail
    refine (HB.out).mono ?_; rintro e w' ⟨rfl, rfl⟩
    go_wp2
    go_ret
    exact ⟨rfl, rfl⟩
end Go.Proofs.YtpeagakpmjnelaaDoor.Ax
