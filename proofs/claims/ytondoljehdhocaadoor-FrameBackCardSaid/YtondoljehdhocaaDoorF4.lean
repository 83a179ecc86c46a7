/- frame: a stream: New, Len, Feed. -/
import Derived.Test.YtondoljehdhocaaDoorF3
namespace Go.Proofs.YtondoljehdhocaaDoor
open Go.RowKit

/-- A stream whose bytes are xs, no head of which was wrong. -/
def StrP (w : World) (g : Nat) (xs : List Int) (p : Option Addr) (cap : Nat) : Prop := Blk w g 57 [.slice p xs.length cap, .int .i64 0, .int .i64 0, .slice none 0 0] ∧ Own w (g + 1) p cap xs
def Str (w : World) (g : Nat) (xs : List Int) : Prop := ∃ p cap, StrP w g xs p cap
/-- A stream behind a wrong head. -/
def Bad (w : World) (g : Nat) (sub : Int) (d : List Int) : Prop := ∃ p cap, Blk w g 57 [.slice none 0 0, .int .i64 1, .int .i64 sub, .slice p d.length cap] ∧ Own w (g + 1) p cap d
theorem Str.next {w w' : World} {g : Nat} {xs : List Int} (h : Str w g xs) (hb : Below w.heap.size w w') : Str w' g xs := by
  obtain ⟨p, cap, h1, h2⟩ := h
  exact ⟨p, cap, h1.next hb, h2.below hb⟩
theorem Bad.next {w w' : World} {g : Nat} {sub : Int} {d : List Int} (h : Bad w g sub d) (hb : Below w.heap.size w w') : Bad w' g sub d := by
  obtain ⟨p, cap, h1, h2⟩ := h
  exact ⟨p, cap, h1.next hb, h2.below hb⟩

theorem new_any (w : World) :
    Calls Tryd.prog 16 #[] w fun e w' => e = .returned (.pointer (some ⟨w.heap.size, 0, none⟩)) ∧ Str w' w.heap.size [] ∧ Below w.heap.size w w' := by
  have HX := Lib.hid (Blk.new w 57 [.slice none 0 0, .int .i64 0, .int .i64 0, .slice none 0 0])
  go_enter Tryd.func16, Tryd.ntmps16
  go_wp2
  go_ret
  exact ⟨rfl, ⟨none, 0, HX.out, Own.nil _ _⟩, (Below.refl _ _).alloc (Nat.le_refl _) _⟩

theorem closed_nil (w : World) :
    Calls Tryd.prog 29 #[.pointer none] w fun e w' => e = .returned (.bool true) ∧ w = w' := by
  go_enter Tryd.func29, Tryd.ntmps29
  go_wp2
  go_ret
  exact ⟨rfl, rfl⟩
theorem closed_str (w : World) (g : Nat) (xs : List Int) (h : Str w g xs) :
    Calls Tryd.prog 29 #[.pointer (some ⟨g, 0, none⟩)] w fun e w' => e = .returned (.bool false) ∧ w = w' := by
  obtain ⟨p, cap, h1, h2⟩ := h
  have c1 := h1.cell 1 (by simp)
  clear h1 h2
  go_enter Tryd.func29, Tryd.ntmps29
  go_wp2
  go_ret
  exact ⟨rfl, rfl⟩
theorem closed_bad (w : World) (g : Nat) (sub : Int) (d : List Int) (h : Bad w g sub d) :
    Calls Tryd.prog 29 #[.pointer (some ⟨g, 0, none⟩)] w fun e w' => e = .returned (.bool true) ∧ w = w' := by
  obtain ⟨p, cap, h1, h2⟩ := h
  have c1 := h1.cell 1 (by simp)
  clear h1 h2
  go_enter Tryd.func29, Tryd.ntmps29
  go_wp2
  go_ret
  exact ⟨rfl, rfl⟩

theorem len_nil (w : World) :
    Calls Tryd.prog 20 #[.pointer none] w fun e w' => e = .returned (.int .i64 0) ∧ w = w' := by
  go_enter Tryd.func20, Tryd.ntmps20
  go_wp2
  go_ret
  exact ⟨rfl, rfl⟩
theorem len_str (w : World) (g : Nat) (xs : List Int) (h : Str w g xs) :
    Calls Tryd.prog 20 #[.pointer (some ⟨g, 0, none⟩)] w fun e w' => e = .returned (.int .i64 xs.length) ∧ w = w' := by
  obtain ⟨p, cap, h1, h2⟩ := h
  have c1 := h1.cell 0 (by simp)
  clear h1 h2
  generalize xs.length = n at *
  go_enter Tryd.func20, Tryd.ntmps20
  go_wp2
  go_ret
  exact ⟨rfl, rfl⟩

theorem feed_nil (q : Option Addr) (n c : Nat) (w : World) :
    Calls Tryd.prog 17 #[.pointer none, .slice q n c] w fun e w' => e = .returned (.int .i64 6) ∧ w = w' := by
  go_enter Tryd.func17, Tryd.ntmps17
  go_wp2_with (go_at_call 29; refine (closed_nil _).mono ?_; rintro e w' ⟨rfl, rfl⟩)
  go_ret
  exact ⟨rfl, rfl⟩
theorem feed_bad (g : Nat) (sub : Int) (d : List Int) (q : Option Addr) (n c : Nat) (w : World) (h : Bad w g sub d) :
    Calls Tryd.prog 17 #[.pointer (some ⟨g, 0, none⟩), .slice q n c] w fun e w' => e = .returned (.int .i64 6) ∧ w = w' := by
  have H := Lib.hid h
  clear h
  go_enter Tryd.func17, Tryd.ntmps17
  go_wp2_with (go_at_call 29; refine (closed_bad _ _ _ _ H.out).mono ?_; rintro e w' ⟨rfl, rfl⟩)
  go_ret
  exact ⟨rfl, rfl⟩
theorem feed_full (g : Nat) (xs : List Int) (q : Option Addr) (n c : Nat) (w : World) (h : Str w g xs) (_ : n ≤ 1099511627776) (hx : xs.length ≤ 65536) (hf : 65536 < xs.length + n) :
    Calls Tryd.prog 17 #[.pointer (some ⟨g, 0, none⟩), .slice q n c] w fun e w' => e = .returned (.int .i64 2) ∧ w = w' := by
  have H := Lib.hid h
  obtain ⟨p, cap, h1, h2⟩ := h
  have c1 := h1.cell 0 (by simp)
  clear h1 h2
  generalize hL : xs.length = L at *
  clear hL
  have t1 : decide (65536 - (L : Int) < (n : Int)) = true := by simp; omega
  go_enter Tryd.func17, Tryd.ntmps17
  go_wp2_with (go_at_call 29; refine (closed_str _ _ _ H.out).mono ?_; rintro e w' ⟨rfl, rfl⟩)
  go_ret
  exact ⟨rfl, rfl⟩
theorem feed_okP (g : Nat) (xs : List Int) (p : Option Addr) (cap : Nat) (q : Option Addr) (ys : List Int) (n c : Nat) (w : World) (h : StrP w g xs p cap) (hb : BytesAt w q ys) (hn : ys.length = n) (hf : xs.length + n ≤ 65536) :
    Calls Tryd.prog 17 #[.pointer (some ⟨g, 0, none⟩), .slice q n c] w fun e w' => e = .returned (.int .i64 0) ∧ (∃ p' cap', StrP w' g (xs ++ ys) p' cap' ∧ (p'.map (·.block) = p.map (·.block) ∨ p'.map (·.block) = some w.heap.size)) ∧ Below g w w' ∧ ∀ b, b < w.heap.size → b ≠ g → p.map (·.block) ≠ some b → w'.heap[b]? = w.heap[b]? := by
  have H := Lib.hid (show Str w g xs from ⟨p, cap, h⟩)
  obtain ⟨h1, h2⟩ := h
  have c0 := h1.cell 0 (by simp)
  have H1 := Lib.hid h1
  have H2 := Lib.hid h2
  have HB := Lib.hid hb
  have HN := Lib.hid hn
  clear h1 h2 hb hn
  obtain ⟨L, hL⟩ : ∃ L, xs.length = L := ⟨_, rfl⟩
  have c1 : w.cell? ⟨g, 0, none⟩ = some (.slice p L cap) := by rw [← hL]; exact c0
  clear c0
  have HL := Lib.hid hL
  rw [hL] at hf
  clear hL
  have t1 : decide (65536 - (L : Int) < (n : Int)) = false := by simp; omega
  go_enter Tryd.func17, Tryd.ntmps17
  go_wp2_with (first
    | (go_at_call 29; refine (closed_str _ _ _ H.out).mono ?_; rintro e w' ⟨rfl, rfl⟩)
    | (refine wpList_appo (o := ⟨some 22, _, _, _, _, _⟩) (by rfl) (.tmp 20) (.tmp 21) (by rfl) (g + 1) p cap xs H2.out L HL.out (by rfl) q n c ys HB.out HN.out (by rfl) (L + n) (by omega) (by omega) H1.out.lt ?_; intro p' cap' w1 hO hB hG; have HY := Lib.hid (H1.out.below hB.out (by omega)); have d0 := HY.out.cell 0 (by simp); have f0 := HY.out.f 0))
  go_ret
  have hl : (xs ++ ys).length = L + n := by rw [List.length_append, HL.out, HN.out]
  have hS := HY.out.set 0 (.slice p' (L + n) cap')
  refine ⟨rfl, ⟨p', cap', ⟨by rw [hl]; exact hS, hO.out.setBelow (by simp) _⟩, ?_⟩, Below.setCell (B := g) (p := ⟨g, 0, none⟩) (hB.out.mono (Nat.le_succ g)) (Nat.le_refl _) _, fun b hb hne hpb => ?_⟩
  · rcases hG.out.2 with e | e
    · left; rw [e]
    · right; rw [e]; rfl
  · rw [Below.heap_setCell _ _ _ _ hne]
    exact hG.out.1.block b hb (Ne.symm hpb)
theorem feed_ok (g : Nat) (xs : List Int) (q : Option Addr) (ys : List Int) (n c : Nat) (w : World) (h : Str w g xs) (hb : BytesAt w q ys) (hn : ys.length = n) (hf : xs.length + n ≤ 65536) :
    Calls Tryd.prog 17 #[.pointer (some ⟨g, 0, none⟩), .slice q n c] w fun e w' => e = .returned (.int .i64 0) ∧ Str w' g (xs ++ ys) ∧ Below g w w' := by
  obtain ⟨p, cap, h⟩ := h
  exact (feed_okP g xs p cap q ys n c w h hb hn hf).mono fun e w' ⟨he, ⟨p', cap', hs, _⟩, hbl, _⟩ => ⟨he, ⟨p', cap', hs⟩, hbl⟩
end Go.Proofs.YtondoljehdhocaaDoor
