/- frame: a stream's Next, at a head that is right, or not there. -/
import Derived.Test.YtondoljehdhocaaDoorF6
namespace Go.Proofs.YtondoljehdhocaaDoor
open Go.RowKit

set_option maxHeartbeats 2000000 in
theorem next_none (g : Nat) (xs : List Int) (k : Int) (s : Nat) (w : World) (ht : Tab w) (h : Str w g xs) (hr : headM xs = ⟨k, s, 0, 0, []⟩) (hn : s = 0 ∨ xs.length < s) (_ : xs.length ≤ 65536) :
    Calls Tryd.prog 18 #[.pointer (some ⟨g, 0, none⟩)] w fun e w' => RetX w w' 0 [] false 0 0 [] e ∧ Str w' g xs ∧ Below w.heap.size w w' := by
  obtain ⟨b1, b2, b3⟩ := two_new3 w
  obtain ⟨W, hW⟩ : ∃ W, (w.alloc (.cells #[.int .i64 0, .slice none 0 0] 24)).alloc (.cells #[.int .i64 0, .int .i64 0, .slice none 0 0] 33) = W := ⟨_, rfl⟩
  have hW0 : W.heap.size = w.heap.size + 2 := by rw [← hW]; simp
  have hgw : g < w.heap.size := by obtain ⟨_, _, h3, _⟩ := h; exact h3.lt
  rw [hW] at b1 b2 b3
  have HS0 := Lib.hid h
  have hS := h.next b3
  have HSD := Lib.hid hS
  obtain ⟨p, cap, h1, h2⟩ := hS
  obtain ⟨L, hL⟩ : ∃ L, xs.length = L := ⟨_, rfl⟩
  have HBB := Lib.hid h2.bytes
  have hle := h2.le
  have hmx := h2.max
  unfold maxLen at hmx
  rw [hL] at h1 hle
  have HL := Lib.hid hL
  have HLE := Lib.hid hn
  have c0 := h1.cell 0 (by simp)
  have HH := Lib.hid (head_any p xs L cap W (ht.below b3) HBB.out hL hle (by omega))
  rw [hr] at HH
  have B1 := Lib.hid b1
  have B2 := Lib.hid b2
  have B3 := Lib.hid b3
  have HW := Lib.hid hW
  have HW0 := Lib.hid hW0
  clear b1 b2 b3 h1 h2 h hL hW hW0 hr ht hn
  go_enter Tryd.func18, Tryd.ntmps18
  go_wp2_with fail
  rw [HW.out]
  refine (closed_str _ _ _ HSD.out).mono ?_; rintro e w' ⟨rfl, rfl⟩
  go_wp2_with fail
  refine HH.out.mono ?_; rintro e w1 ⟨q, capq, rfl, hO, hb⟩
  dsimp only [List.length_nil] at hO ⊢
  have HBW := Lib.hid hb
  have HT1 := Lib.hid ((HSD.out.next hb).next ((Below.refl w1.heap.size w1).alloc (Nat.le_refl _) (.cells #[.int .i64 0, .int .i64 0, .slice q 0 capq] 33)))
  clear hO hb c0
  go_wp2_with fail
  refine (take_none g xs k s _ HT1.out HLE.out).mono ?_; rintro e w2 ⟨⟨q1, cp1, q2, cp2, rfl, hO1, hO2⟩, hb2⟩
  dsimp only [List.length_nil] at hO1 hO2 ⊢
  have HBX := Lib.hid (((Below.refl w1.heap.size w1).alloc (Nat.le_refl _) (.cells #[.int .i64 0, .int .i64 0, .slice q 0 capq] 33)).trans (hb2.mono (by simp)))
  have HS2 := Lib.hid (HT1.out.next hb2)
  have HO1 := Lib.hid hO1
  have HO2 := Lib.hid hO2
  clear hb2 hO1 hO2
  have B1' := (B1.out.next HBW.out).next HBX.out
  have B2' := (B2.out.next HBW.out).next HBX.out
  have c0 := B2'.cell 0 (by simp)
  have c1 := B2'.cell 1 (by simp)
  have c2 := B2'.cell 2 (by simp)
  have d0 := B1'.cell 0 (by simp)
  have d1 := B1'.cell 1 (by simp)
  have f0 := B2'.f 0
  have f1 := B2'.f 1
  have f2 := B2'.f 2
  have g0 := B1'.f 0
  have g1 := B1'.f 1
  clear B1' B2'
  go_wp2_with fail
  have hs := HBW.out.size
  have hw := HW0.out
  refine bodyPost_ret (v := .tuple #[.agg #[.int .i64 0, .slice q1 0 cp1], .bool false, .agg #[.int .i64 0, .int .i64 0, .slice q2 0 cp2]]) (by simp [results, Tryd.results18, go_sem, c0, c1, c2, d0, d1]) rfl ⟨⟨q1, cp1, q2, cp2, rfl, ?_, ?_⟩, ?_⟩
  · exact (((((HO1.out.setBelow (by simp; omega) _).setBelow (by simp; omega) _).setBelow (by simp; omega) _).setBelow (by simp; omega) _).setBelow (by simp; omega) _).mono (by simp; omega)
  · exact (((((HO2.out.setBelow (by simp; omega) _).setBelow (by simp; omega) _).setBelow (by simp; omega) _).setBelow (by simp; omega) _).setBelow (by simp; omega) _).mono (by simp; omega)
  · have hb := B3.out.trans ((HBW.out.mono (show w.heap.size ≤ W.heap.size by omega)).trans (HBX.out.mono (by omega)))
    have hb' := ((((hb.setCell (p := ⟨w.heap.size, 0, none⟩) (by simp) (.int .i64 0)).setCell (p := ⟨w.heap.size, 1, none⟩) (by simp) (.slice q1 0 cp1)).setCell (p := ⟨w.heap.size + 1, 0, none⟩) (by simp) (.int .i64 0)).setCell (p := ⟨w.heap.size + 1, 1, none⟩) (by simp) (.int .i64 0)).setCell (p := ⟨w.heap.size + 1, 2, none⟩) (by simp) (.slice q2 0 cp2)
    exact ⟨HS0.out.next hb', hb'⟩

set_option maxHeartbeats 2000000 in
theorem next_yes (g : Nat) (xs : List Int) (k : Int) (s : Nat) (w : World) (ht : Tab w) (h : Str w g xs) (hr : headM xs = ⟨k, s, 0, 0, []⟩) (hn : 19 ≤ s ∧ s ≤ xs.length) (hm : xs.length ≤ 65536) :
    Calls Tryd.prog 18 #[.pointer (some ⟨g, 0, none⟩)] w fun e w' => RetX w w' k ((xs.take s).drop 19) true 0 0 [] e ∧ Str w' g (xs.drop s) ∧ Below g w w' := by
  obtain ⟨b1, b2, b3⟩ := two_new3 w
  obtain ⟨W, hW⟩ : ∃ W, (w.alloc (.cells #[.int .i64 0, .slice none 0 0] 24)).alloc (.cells #[.int .i64 0, .int .i64 0, .slice none 0 0] 33) = W := ⟨_, rfl⟩
  have hW0 : W.heap.size = w.heap.size + 2 := by rw [← hW]; simp
  have hgw : g < w.heap.size := by obtain ⟨_, _, h3, _⟩ := h; exact h3.lt
  rw [hW] at b1 b2 b3
  obtain ⟨p, cap, e1, e2⟩ := h
  have HPB := Lib.hid (fun (b : Nat) (hb : p.map (·.block) = some b) => (e2.block_lt hb).2)
  have h1 := e1.next b3
  have h2 := e2.below b3
  have HSD := Lib.hid (show Str W g xs from ⟨p, cap, h1, h2⟩)
  have HSP := Lib.hid (show StrP W g xs p cap from ⟨h1, h2⟩)
  obtain ⟨L, hL⟩ : ∃ L, xs.length = L := ⟨_, rfl⟩
  have HBB := Lib.hid h2.bytes
  have hle := h2.le
  have hmx := h2.max
  unfold maxLen at hmx
  rw [hL] at h1 hm hle
  have HL := Lib.hid hL
  have HLE := Lib.hid hn
  have c0 := h1.cell 0 (by simp)
  have HH := Lib.hid (head_any p xs L cap W (ht.below b3) HBB.out hL hle (by omega))
  rw [hr] at HH
  have B1 := Lib.hid b1
  have B2 := Lib.hid b2
  have B3 := Lib.hid b3
  have HW := Lib.hid hW
  have HW0 := Lib.hid hW0
  clear b1 b2 b3 h1 h2 e1 e2 hL hW hW0 hr ht hn
  go_enter Tryd.func18, Tryd.ntmps18
  go_wp2_with fail
  rw [HW.out]
  refine (closed_str _ _ _ HSD.out).mono ?_; rintro e w' ⟨rfl, rfl⟩
  go_wp2_with fail
  refine HH.out.mono ?_; rintro e w1 ⟨q, capq, rfl, hO, hb⟩
  dsimp only [List.length_nil] at hO ⊢
  have HBW := Lib.hid hb
  have HT1 := Lib.hid (show StrP (w1.alloc (.cells #[.int .i64 0, .int .i64 0, .slice q 0 capq] 33)) g xs p cap from ⟨(HSP.out.1.next hb).alloc _, (HSP.out.2.below hb).alloc _⟩)
  clear hO hb c0
  go_wp2_with fail
  have hbl : ((xs.take s).drop 19).length = s - 19 := by have := HLE.out; simp; omega
  refine (take_yes g xs p cap k s _ HT1.out HLE.out.1 HLE.out.2 (by rw [HL.out]; exact hm)).mono ?_; rintro e w2 ⟨⟨q1, cp1, q2, cp2, rfl, hO1, hO2⟩, hs2, hb2, hx2⟩
  rw [hbl]
  dsimp only [List.length_nil] at hO2 ⊢
  have HBL := Lib.hid hbl
  have HB2 := Lib.hid hb2
  have HS2 := Lib.hid hs2
  have HO1 := Lib.hid hO1
  have HO2 := Lib.hid hO2
  have hs := HBW.out.size
  have hw := HW0.out
  have B1' := ((B1.out.next HBW.out).alloc (.cells #[.int .i64 0, .int .i64 0, .slice q 0 capq] 33)).of_same (hx2 _ (by simp; omega) (by omega))
  have B2' := ((B2.out.next HBW.out).alloc (.cells #[.int .i64 0, .int .i64 0, .slice q 0 capq] 33)).of_same (hx2 _ (by simp; omega) (by omega))
  have c0 := B2'.cell 0 (by simp)
  have c1 := B2'.cell 1 (by simp)
  have c2 := B2'.cell 2 (by simp)
  have d0 := B1'.cell 0 (by simp)
  have d1 := B1'.cell 1 (by simp)
  have f0 := B2'.f 0
  have f1 := B2'.f 1
  have f2 := B2'.f 2
  have g0 := B1'.f 0
  have g1 := B1'.f 1
  have HX2 := Lib.hid hx2
  clear B1' B2' hb2 hO1 hO2 hs2 hbl hx2
  go_wp2_with fail
  refine bodyPost_ret (v := .tuple #[.agg #[.int .i64 k, .slice q1 (s - 19) cp1], .bool true, .agg #[.int .i64 0, .int .i64 0, .slice q2 0 cp2]]) (by simp [results, Tryd.results18, go_sem, c0, c1, c2, d0, d1]) rfl ⟨⟨q1, cp1, q2, cp2, by rw [HBL.out]; rfl, ?_, ?_⟩, ?_, ?_⟩
  · exact (((((HO1.out.setBelow (by simp; omega) _).setBelow (by simp; omega) _).setBelow (by simp; omega) _).setBelow (by simp; omega) _).setBelow (by simp; omega) _).mono (by simp; omega)
  · exact (((((HO2.out.setBelow (by simp; omega) _).setBelow (by simp; omega) _).setBelow (by simp; omega) _).setBelow (by simp; omega) _).setBelow (by simp; omega) _).mono (by simp; omega)
  · have hpb : (cutP p cap s).map (·.block) ≠ some w.heap.size := fun e => absurd (HPB.out _ (by rwa [cutP_block] at e)) (by omega)
    have hpb' : (cutP p cap s).map (·.block) ≠ some (w.heap.size + 1) := fun e => absurd (HPB.out _ (by rwa [cutP_block] at e)) (by omega)
    exact ⟨cutP p cap s, cap - s, ((((HS2.out.1.setOther (by simp; omega) _).setOther (by simp; omega) _).setOther (by simp; omega) _).setOther (by simp; omega) _).setOther (by simp; omega) _, ((((HS2.out.2.setCell _ _ hpb).setCell _ _ hpb).setCell _ _ hpb').setCell _ _ hpb').setCell _ _ hpb'⟩
  · have hb0 : Below g w w2 := (B3.out.mono (by omega)).trans (((HBW.out.mono (show g ≤ W.heap.size by omega)).alloc (by omega) (.cells #[.int .i64 0, .int .i64 0, .slice q 0 capq] 33)).trans HB2.out)
    exact ((((hb0.setCell (by simp; omega) _).setCell (by simp; omega) _).setCell (by simp; omega) _).setCell (by simp; omega) _).setCell (by simp; omega) _
end Go.Proofs.YtondoljehdhocaaDoor
