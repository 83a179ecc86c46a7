/- timer: New, all, Set, At, Stop, Len. -/
import Derived.Test.YtlcciifoddcbdaaTk1
import Derived.Carry
namespace Go.Proofs.Ytlcciifoddcbdaa
open Go.RowKit Go.Maps

theorem zero_int (w : World) : (zeroValue 3).run Try.prog w = .ok (.int .i64 0) w := by kernel_rfl
def inT (n : Int) : DataW Unit := .lit (.int .i64 n)
/-- Timers whose map reads as D. -/
structure TmP (w : World) (g b n : Nat) (D : DataW Unit) : Prop where
  blk : Blk w g 51 [.map (some b)]
  map : w.ownsMap Try.prog 31 (plainElem Try.prog 3) b n D
  lt : b < g
theorem TmP.next {w w' : World} {g b n : Nat} {D : DataW Unit} (h : TmP w g b n D) (hb : Below w.heap.size w w') : TmP w' g b n D :=
  ⟨h.blk.next hb, by
    have hl := h.map.lt
    obtain ⟨es, clock, hh, F, hs, hD⟩ := h.map
    exact ⟨es, clock, (hb.block b hl).trans hh, F, hs, hD⟩, h.lt⟩
theorem TmP.turn {w w' : World} {g b n n' : Nat} {D D' : DataW Unit} (h : TmP w g b n D) (hg : w.grownBy w' (some b)) (hm : w'.ownsMap Try.prog 31 (plainElem Try.prog 3) b n' D') : TmP w' g b n' D' :=
  ⟨h.blk.of_same (hg.block g h.blk.lt (fun e => by have := h.lt; simp at e; omega)), hm, h.lt⟩

theorem tnew_any (w : World) :
    Calls Try.prog 7 #[] w fun e w' => e = .returned (.pointer (some ⟨w.heap.size + 1, 0, none⟩)) ∧ TmP w' (w.heap.size + 1) w.heap.size 0 (.map []) ∧ Below w.heap.size w w' := by
  have hmm := @run_makeMap Try.prog
  have HM := Lib.hid (World.ownsMap_made (H := Unit) w Try.prog 31 (plainElem Try.prog 3))
  have HX := Lib.hid (show Blk ((w.alloc (.map #[] 0)).alloc (.cells #[.map (some w.heap.size)] 51)) (w.heap.size + 1) 51 [.map (some w.heap.size)] by
    rw [← sz_alloc w (.map #[] 0)]; exact Blk.new _ 51 [.map (some w.heap.size)])
  go_enter Try.func7, Try.ntmps7
  go_wp2
  go_ret
  exact ⟨rfl, ⟨HX.out, HM.out.alloc _, Nat.lt_succ_self _⟩, ((Below.refl _ _).alloc (Nat.le_refl _) _).alloc (by simp) _⟩
theorem tall_nil (w : World) :
    Calls Try.prog 21 #[.pointer none] w fun e w' => e = .returned (.map none) ∧ w = w' := by
  go_enter Try.func21, Try.ntmps21
  go_wp2
  go_ret
  exact ⟨rfl, rfl⟩
theorem tall_any (w : World) (g b n : Nat) (D : DataW Unit) (h : TmP w g b n D) :
    Calls Try.prog 21 #[.pointer (some ⟨g, 0, none⟩)] w fun e w' => e = .returned (.map (some b)) ∧ w = w' := by
  have c0 := h.blk.cell 0 (by simp)
  clear h
  go_enter Try.func21, Try.ntmps21
  go_wp2
  go_ret
  exact ⟨rfl, rfl⟩
theorem tlen_nil (w : World) :
    Calls Try.prog 20 #[.pointer none] w fun e w' => e = .returned (.int .i64 0) ∧ w = w' := by
  have hln := Maps.len_nil (P := Try.prog) (w := w) Try.underlying49
  go_enter Try.func20, Try.ntmps20
  go_wp2_with (go_at_call 21; refine (tall_nil _).mono ?_; rintro e w' ⟨rfl, rfl⟩)
  go_ret
  exact ⟨rfl, rfl⟩
theorem tlen_any (w : World) (g b n : Nat) (D : DataW Unit) (h : TmP w g b n D) :
    Calls Try.prog 20 #[.pointer (some ⟨g, 0, none⟩)] w fun e w' => e = .returned (.int .i64 (Maps.size D)) ∧ w = w' := by
  have H := Lib.hid h
  clear h
  go_enter Try.func20, Try.ntmps20
  go_wp2_with (first
    | (go_at_call 21; refine (tall_any _ _ _ _ _ H.out).mono ?_; rintro e w' ⟨rfl, rfl⟩)
    | (at_len; refine wpList_len_own _ rfl _ 49 rfl 31 3 Try.underlying49 _ b n D rfl H.out.map ?_))
  go_ret
  exact ⟨rfl, rfl⟩
end Go.Proofs.Ytlcciifoddcbdaa
