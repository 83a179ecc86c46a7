/- queue: Take, All, Clear. -/
import Derived.Test.YtbgofccnhehodaaQ4
namespace Go.Proofs.Ytbgofccnhehodaa
open Go.RowKit

theorem QuP.drew {w : World} {g room : Nat} {xs : List Int} {p : Option Addr} (h : QuP w g room xs p) : QuP w.drew g room xs p := h.next (Below.refl _ _).drew
/-- Bytes of one's own, as many as there is room. -/
def Piece (w w' : World) (xs : List Int) (e : Ending) : Prop := ∃ r, e = .returned (.slice r xs.length xs.length) ∧ Own w' w.heap.size r xs.length xs
theorem RingAt.ownL {w : World} {B : Nat} {p : Option Addr} {rs : List Int} {n : Nat} (h : RingAt w B p rs) (hl : rs.length = n) (hm : n ≤ maxLen) : Own w B p n rs := by
  subst hl; exact h.own hm
theorem splice_over {α : Type} (z : α) (xs : List α) (n : Nat) (h : xs.length = n) : splice (List.replicate n z) 0 xs = xs := by
  unfold splice
  rw [List.take_zero, List.nil_append, Nat.zero_add, List.drop_eq_nil_of_le (by simp; omega), List.append_nil]

theorem qtake_nil (n : Int) (w : World) :
    Calls Try.prog 12 #[.pointer none, .int .i64 n] w fun e w' => e = .returned (.slice none 0 0) ∧ w = w' := by
  have t1 : decide (min n 0 < 1) = true := by simp; omega
  go_enter Try.func12, Try.ntmps12
  go_wp2_with (go_at_call 15; refine (qlen_nil _).mono ?_; rintro e w' ⟨rfl, rfl⟩)
  go_ret
  exact ⟨rfl, rfl⟩
theorem qtake_none (w : World) (g room : Nat) (xs : List Int) (p : Option Addr) (h : QuP w g room xs p) (n : Int) (hn : min n xs.length < 1) :
    Calls Try.prog 12 #[.pointer (some ⟨g, 0, none⟩), .int .i64 n] w fun e w' => e = .returned (.slice none 0 0) ∧ w = w' := by
  have HL := Lib.hid (qlen_any w g room xs p h)
  obtain ⟨l, hl⟩ : ∃ l, xs.length = l := ⟨_, rfl⟩
  rw [hl] at HL hn
  have t1 : decide (min n (l : Int) < 1) = true := by simp; omega
  clear h hl
  go_enter Try.func12, Try.ntmps12
  go_wp2_with (go_at_call 15; refine HL.out.mono ?_; rintro e w' ⟨rfl, rfl⟩)
  go_ret
  exact ⟨rfl, rfl⟩
set_option maxHeartbeats 2000000 in
theorem qtake_some (w : World) (g room : Nat) (xs : List Int) (p : Option Addr) (h : QuP w g room xs p) (n : Int) (k : Nat) (hk : min n xs.length = k) (hk0 : 1 ≤ k) :
    Calls Try.prog 12 #[.pointer (some ⟨g, 0, none⟩), .int .i64 n] w fun e w' => Piece w w' (xs.take k) e ∧ QuP w' g room (xs.drop k) p ∧ QuK w w' g p p := by
  have HL := Lib.hid (qlen_any w g room xs p h)
  obtain ⟨l, hl⟩ : ∃ l, xs.length = l := ⟨_, rfl⟩
  rw [hl] at HL hk
  have hz := h.size
  have hkl : k ≤ l := by omega
  have t1 : decide ((k : Int) < 1) = false := by simp; omega
  obtain ⟨rs, f, h1, h2, h3, h4, h5, h6, h7⟩ := h
  have HQ := Lib.hid (show QuP w g room xs p from ⟨rs, f, h1, h2, h3, h4, h5, h6, h7⟩)
  obtain ⟨L, hL⟩ : ∃ L, rs.length = L := ⟨_, rfl⟩
  have H1 := Lib.hid (show Blk w g 44 [.int .i64 room, .slice p L L, .int .i64 (f : Nat), .int .i64 l] by rw [← hL, ← hl]; exact h1)
  have HCT := Lib.hid (cont_take h7 h3 h6 (by omega : k ≤ xs.length))
  have HR := Lib.hid h2
  have HLL := Lib.hid hL
  have HLN := Lib.hid hl
  have HSZ := Lib.hid (show l ≤ L ∧ L ≤ room ∧ room ≤ 65536 ∧ f ≤ L by omega)
  have r1 := fun u => run_makeR k (by omega) u
  have hl64 : l ≤ 65536 := by omega
  clear h1 h2 h3 h4 h5 h6 h7 hL hl hz
  obtain ⟨W, hW⟩ : ∃ W, w.alloc (.cells (madeCells #[.int .u8 0] k) 5) = W := ⟨_, rfl⟩
  have hb0 : Below w.heap.size w W := hW ▸ ((Below.refl _ _).alloc (Nat.le_refl _) _)
  have hsz : W.heap.size = w.heap.size + 1 := by rw [← hW]; simp
  have H1W := Lib.hid (H1.out.next hb0)
  have hring := RingAt.made w w.heap.size k (Nat.le_refl _)
  rw [hW] at hring
  have hrd := qread_any W g room xs p (HQ.out.next hb0) w.heap.size (some ⟨w.heap.size, 0, none⟩) (List.replicate k 0) hring k (by have := HLN.out; omega) (by rw [List.length_replicate]; omega) (by have := H1.out.lt; simp; omega) (by
    rcases hp : p with _ | a
    · exact .inl rfl
    · right; intro e; have := HQ.out.ring_lt (b := a.block) (by rw [hp]; rfl); simp at e; omega)
  rw [List.length_replicate, splice_over 0 (xs.take k) k (by have := HLN.out; simp; omega)] at hrd
  have HRd := Lib.hid hrd
  have HB0 := Lib.hid hb0
  clear hring hrd hb0
  go_enter Try.func12, Try.ntmps12
  go_wp2_with (first
    | (go_at_call 15; refine HL.out.mono ?_; rintro e w' ⟨rfl, rfl⟩)
    | (go_at_call 20; refine HRd.out.mono ?_; rintro e w3 ⟨rfl, hr3, hb3, hg3⟩; have HR3 := Lib.hid hr3; have HB3 := Lib.hid hb3; have HG3 := Lib.hid hg3; have HY := Lib.hid (H1W.out.below hb3 H1.out.lt); have d2 := HY.out.cell 2 (by simp); have d3 := HY.out.cell 3 (by simp); have f2 := HY.out.f 2; have f3 := HY.out.f 3; clear hr3 hb3 hg3)
    | (go_at_call 19; refine (qplace_any w3 g f L k [.int .i64 room, .int .i64 l] p HY.out (by have := HSZ.out; omega) (by have := HSZ.out; omega) (by have := HSZ.out; omega) (by have := HSZ.out; omega)).mono ?_; rintro e w4 ⟨rfl, rfl⟩))
  go_ret
  have hz := HSZ.out
  have hZ := (HY.out.set 2 (.int .i64 (placeN L f k : Nat))).set 3 (.int .i64 ((l : Int) - k))
  have hlen : (xs.take k).length = k := by have := HLN.out; simp; omega
  have hlt := H1.out.lt
  have hgk : QuK w w3 g p p := ⟨(HB0.out.mono (Nat.le_of_lt hlt)).trans (HB3.out.mono (Nat.le_of_lt hlt)), fun b hb hne hpb => by rw [HG3.out.block b (by omega) (by simp; omega), HB0.out.block b hb], .inl rfl⟩
  refine ⟨⟨some ⟨w.heap.size, 0, none⟩, by rw [hlen]; rfl, ?_⟩, ⟨rs, placeN L f k, ?_, ?_, ?_, ?_, hz.2.2.1, ?_, ?_⟩, ?_⟩
  · rw [hlen]
    exact ((HR3.out.ownL hlen (by unfold maxLen; omega)).setBelow hlt _).setBelow hlt _
  · rw [HLL.out, show ((xs.drop k).length : Int) = (l : Int) - k by have := HLN.out; simp; omega]
    exact hZ
  · exact (((HR.out.below HB0.out).grown HG3.out (by
      rcases hp : p with _ | a
      · exact .inl rfl
      · right; intro e; have := HR.out.block_lt (g := a.block) (by rw [hp]; rfl); simp at e; omega)).setBelow (by simp) _).setBelow (by simp) _
  · have := HLL.out; have := HLN.out; simp; omega
  · rw [HLL.out]; exact hz.2.1
  · rw [← HLL.out]; exact HCT.out.2
  · rw [← HLL.out]; exact HCT.out.1
  · exact (hgk.trans (QuK.set _ _ _ _ _)).trans (QuK.set _ _ _ _ _)

/-- Whatever is asked for. -/
def takeN (n : Int) (l : Nat) : Nat := (min n l).toNat
theorem qtake_any (w : World) (g room : Nat) (xs : List Int) (p : Option Addr) (h : QuP w g room xs p) (n : Int) :
    Calls Try.prog 12 #[.pointer (some ⟨g, 0, none⟩), .int .i64 n] w fun e w' => Piece w w' (xs.take (takeN n xs.length)) e ∧ QuP w' g room (xs.drop (takeN n xs.length)) p ∧ QuK w w' g p p := by
  unfold takeN
  by_cases h1 : min n (xs.length : Int) < 1
  · have e : (min n (xs.length : Int)).toNat = 0 := by omega
    rw [e]
    refine (qtake_none w g room xs p h n h1).mono fun e w' ⟨he, hw⟩ => ?_
    subst hw
    exact ⟨⟨none, he, Own.nil _ _⟩, h, QuK.refl _ _ _⟩
  · exact qtake_some w g room xs p h n _ (by omega) (by omega)

theorem qall_nil (w : World) :
    Calls Try.prog 17 #[.pointer none] w fun e w' => e = .returned (.slice none 0 0) ∧ w = w' := by
  go_enter Try.func17, Try.ntmps17
  go_wp2_with (go_at_call 15; refine (qlen_nil _).mono ?_; rintro e w' ⟨rfl, rfl⟩)
  go_ret
  exact ⟨rfl, rfl⟩
theorem qall_any (w : World) (g room : Nat) (xs : List Int) (p : Option Addr) (h : QuP w g room xs p) :
    Calls Try.prog 17 #[.pointer (some ⟨g, 0, none⟩)] w fun e w' => Piece w w' xs e ∧ Below w.heap.size w w' := by
  have HL := Lib.hid (qlen_any w g room xs p h)
  obtain ⟨k, hk⟩ : ∃ k, xs.length = k := ⟨_, rfl⟩
  have hz := h.size
  have HQ := Lib.hid h
  have HK := Lib.hid hk
  rw [hk] at HL hz
  have hk64 : k ≤ 65536 := by omega
  clear h hk
  rcases Nat.eq_zero_or_pos k with h0 | h0
  · subst h0
    have hxs : xs = [] := List.eq_nil_of_length_eq_zero HK.out
    go_enter Try.func17, Try.ntmps17
    go_wp2_with (go_at_call 15; refine HL.out.mono ?_; rintro e w' ⟨rfl, rfl⟩)
    go_ret
    subst hxs
    exact ⟨⟨none, rfl, Own.nil _ _⟩, Below.refl _ _⟩
  · have t1 : ((k : Int) == 0) = false := by simp; omega
    have r1 := fun u => run_makeR k (by omega) u
    obtain ⟨W, hW⟩ : ∃ W, w.alloc (.cells (madeCells #[.int .u8 0] k) 5) = W := ⟨_, rfl⟩
    have hb0 : Below w.heap.size w W := hW ▸ ((Below.refl _ _).alloc (Nat.le_refl _) _)
    have hsz : W.heap.size = w.heap.size + 1 := by rw [← hW]; simp
    have hlt := HQ.out.lt
    have hring := RingAt.made w w.heap.size k (Nat.le_refl _)
    rw [hW] at hring
    have hrd := qread_any W g room xs p (HQ.out.next hb0) w.heap.size (some ⟨w.heap.size, 0, none⟩) (List.replicate k 0) hring k (by have := HK.out; omega) (by rw [List.length_replicate]; omega) (by simp; omega) (by
      rcases hp : p with _ | a
      · exact .inl rfl
      · right; intro e; have := HQ.out.ring_lt (b := a.block) (by rw [hp]; rfl); simp at e; omega)
    have htk : xs.take k = xs := by rw [← HK.out]; exact List.take_length
    rw [List.length_replicate, htk, splice_over 0 xs k HK.out] at hrd
    have HRd := Lib.hid hrd
    have HB0 := Lib.hid hb0
    clear hring hrd hb0 htk
    go_enter Try.func17, Try.ntmps17
    go_wp2_with (first
      | (go_at_call 15; refine HL.out.mono ?_; rintro e w' ⟨rfl, rfl⟩)
      | (go_at_call 20; refine HRd.out.mono ?_; rintro e w3 ⟨rfl, hr3, hb3, hg3⟩; have HR3 := Lib.hid hr3; have HB3 := Lib.hid hb3; clear hr3 hb3 hg3))
    go_ret
    refine ⟨⟨some ⟨w.heap.size, 0, none⟩, by rw [HK.out]; rfl, HR3.out.own (by have := HK.out; unfold maxLen; omega)⟩, HB0.out.trans HB3.out⟩

theorem qclear_nil (w : World) :
    Calls Try.prog 14 #[.pointer none] w fun e w' => e = .returned (.int .i64 0) ∧ w = w' := by
  go_enter Try.func14, Try.ntmps14
  go_wp2_with (go_at_call 15; refine (qlen_nil _).mono ?_; rintro e w' ⟨rfl, rfl⟩)
  go_ret
  exact ⟨rfl, rfl⟩
theorem qclear_any (w : World) (g room : Nat) (xs : List Int) (p : Option Addr) (h : QuP w g room xs p) :
    Calls Try.prog 14 #[.pointer (some ⟨g, 0, none⟩)] w fun e w' => e = .returned (.int .i64 xs.length) ∧ QuP w' g room [] none ∧ QuK w w' g p none := by
  have HL := Lib.hid (qlen_any w g room xs p h)
  obtain ⟨k, hk⟩ : ∃ k, xs.length = k := ⟨_, rfl⟩
  have hz := h.size
  obtain ⟨rs, f, h1, h2⟩ := h
  obtain ⟨L, hL⟩ : ∃ L, rs.length = L := ⟨_, rfl⟩
  rw [hk, hL] at h1
  have H1 := Lib.hid h1
  have c0 := h1.cell 0 (by simp)
  have c1 := h1.cell 1 (by simp)
  have c2 := h1.cell 2 (by simp)
  have c3 := h1.cell 3 (by simp)
  have f0 := h1.f 0
  have f1 := h1.f 1
  have f2 := h1.f 2
  have f3 := h1.f 3
  rw [hk] at HL ⊢
  clear h1 h2 hk hL
  go_enter Try.func14, Try.ntmps14
  go_wp2_with (go_at_call 15; refine HL.out.mono ?_; rintro e w' ⟨rfl, rfl⟩)
  go_ret
  have hZ := (((H1.out.set 0 (.int .i64 room)).set 1 (.slice none 0 0)).set 2 (.int .i64 0)).set 3 (.int .i64 0)
  have hk := (((QuK.set w g 0 (.int .i64 room) p).trans (QuK.set _ g 1 (.slice none 0 0) p)).trans (QuK.set _ g 2 (.int .i64 0) p)).trans (QuK.set _ g 3 (.int .i64 0) p)
  exact ⟨rfl, ⟨[], 0, hZ, RingAt.nil _ _, by simp, by simp, hz.2, .inr ⟨rfl, rfl⟩, fun i hi => by simp at hi⟩, ⟨hk.below, hk.keep, .inr fun b hb => by cases hb⟩⟩
end Go.Proofs.Ytbgofccnhehodaa
