/- frame: a stream's Next, behind a wrong head, and at one. -/
import Derived.Test.YtondoljehdhocaaDoorF5
import Derived.Deep.RegionHeld3
namespace Go.Proofs.YtondoljehdhocaaDoor
open Go.RowKit

theorem pair_far {B : Nat} {w w' : World} {g : Nat} {a b : Option Value} (hb : Below B w w') (hg : g < B) (h : w.cell? ⟨g, 2, none⟩ = a ∧ w.cell? ⟨g, 3, none⟩ = b) : w'.cell? ⟨g, 2, none⟩ = a ∧ w'.cell? ⟨g, 3, none⟩ = b :=
  ⟨(hb.cell (p := ⟨g, 2, none⟩) hg).trans h.1, (hb.cell (p := ⟨g, 3, none⟩) hg).trans h.2⟩

set_option maxHeartbeats 1000000 in
theorem next_bad (g : Nat) (sub : Int) (d : List Int) (w : World) (h : Bad w g sub d) (hd : d.length ≤ 1000) :
    Calls Tryd.prog 18 #[.pointer (some ⟨g, 0, none⟩)] w fun e w' => RetX w w' 0 [] false 1 sub d e ∧ Below w.heap.size w w' := by
  obtain ⟨b1, b2, b3⟩ := two_new3 w
  obtain ⟨W, hW⟩ : ∃ W, (w.alloc (.cells #[.int .i64 0, .slice none 0 0] 24)).alloc (.cells #[.int .i64 0, .int .i64 0, .slice none 0 0] 33) = W := ⟨_, rfl⟩
  have hW0 : W.heap.size = w.heap.size + 2 := by rw [← hW]; simp
  rw [hW] at b1 b2 b3
  have hB := h.next b3
  have HBD := Lib.hid hB
  obtain ⟨p, cap, h1, h2⟩ := hB
  have HBB := Lib.hid h2.bytes
  obtain ⟨L, hL⟩ : ∃ L, d.length = L := ⟨_, rfl⟩
  rw [hL] at h1 hd
  have HL := Lib.hid hL
  have cs : W.drew.cell? ⟨g, 2, none⟩ = some (.int .i64 sub) := h1.cell 2 (by simp)
  have cd : W.drew.cell? ⟨g, 3, none⟩ = some (.slice p L cap) := h1.cell 3 (by simp)
  have B1 := Lib.hid b1
  have B2 := Lib.hid b2
  have B3 := Lib.hid b3
  have HW := Lib.hid hW
  have HW0 := Lib.hid hW0
  have hgw : g < w.heap.size := by obtain ⟨_, _, h3, _⟩ := h; exact h3.lt
  clear b1 b2 b3 h1 h2 h hL hW hW0
  go_enter Tryd.func18, Tryd.ntmps18
  go_wp2_with fail
  rw [HW.out]
  refine (closed_bad _ _ _ _ HBD.out).mono ?_; rintro e w' ⟨rfl, rfl⟩
  go_wp2_with fail
  have hS := And.intro cs cd
  clear cs cd
  have HS := Lib.hid hS
  go_region_held (fun w' => w'.cell? ⟨g, 2, none⟩ = some (.int .i64 sub) ∧ w'.cell? ⟨g, 3, none⟩ = some (.slice p L cap)) (first | with_reducible assumption | (with_reducible refine pair_far ?_ hgw HK.out; repeat (first | with_reducible exact Below.refl _ _ | (with_reducible refine Below.setCell ?_ (by simp) _)))) (first
    | (go_at_call 26; refine (wrong_any sub p d L cap _ HBB.out.drew HL.out (by omega)).mono ?_; rintro e w1 ⟨q, capq, rfl, hO, hb⟩; rw [HL.out]; have hk := And.intro (kept hb HS.out.1) (kept hb HS.out.2); have HK := Lib.hid hk; have HO := Lib.hid hO; have HBW := Lib.hid hb; have B1' := B1.out.drew.next hb; have B2' := B2.out.drew.next hb; have c0 := B2'.cell 0 (by simp); have c1 := B2'.cell 1 (by simp); have c2 := B2'.cell 2 (by simp); have d0 := B1'.cell 0 (by simp); have d1 := B1'.cell 1 (by simp); have f0 := B2'.f 0; have f1 := B2'.f 1; have f2 := B2'.f 2; have g0 := B1'.f 0; have g1 := B1'.f 1; clear hO hb B1' B2'))
  go_wp2_with fail
  refine bodyPost_ret (v := .tuple #[.agg #[.int .i64 0, .slice none 0 0], .bool false, .agg #[.int .i64 1, .int .i64 sub, .slice q L capq]]) (by simp [results, Tryd.results18, go_sem, c0, c1, c2, d0, d1]) rfl ⟨⟨none, 0, q, capq, by rw [HL.out]; rfl, Own.nil _ _, ?_⟩, ?_⟩
  · have hO := HO.out
    rw [show W.drew.heap.size = w.heap.size + 2 from HW0.out] at hO
    exact (((((hO.setBelow (by simp) _).setBelow (by simp) _).setBelow (by simp) _).setBelow (by simp) _).setBelow (by simp) _).mono (by omega)
  · have hb := B3.out.drew.trans (HBW.out.mono (show w.heap.size ≤ W.heap.size by rw [HW0.out]; omega))
    exact ((((hb.setCell (by simp) _).setCell (by simp) _).setCell (by simp) _).setCell (by simp) _).setCell (by simp) _

set_option maxHeartbeats 2000000 in
theorem next_wrong (g : Nat) (xs : List Int) (sub : Int) (d : List Int) (w : World) (ht : Tab w) (h : Str w g xs) (hr : headM xs = ⟨0, 0, 1, sub, d⟩) (hd : d.length ≤ 1000) (_ : xs.length ≤ 65536) :
    Calls Tryd.prog 18 #[.pointer (some ⟨g, 0, none⟩)] w fun e w' => RetX w w' 0 [] false 1 sub d e ∧ Bad w' g sub d ∧ Below g w w' ∧ ∀ b, b < w.heap.size → b ≠ g → w'.heap[b]? = w.heap[b]? := by
  obtain ⟨b1, b2, b3⟩ := two_new3 w
  obtain ⟨W, hW⟩ : ∃ W, (w.alloc (.cells #[.int .i64 0, .slice none 0 0] 24)).alloc (.cells #[.int .i64 0, .int .i64 0, .slice none 0 0] 33) = W := ⟨_, rfl⟩
  have hW0 : W.heap.size = w.heap.size + 2 := by rw [← hW]; simp
  have hgw : g < w.heap.size := by obtain ⟨_, _, h3, _⟩ := h; exact h3.lt
  rw [hW] at b1 b2 b3
  have hS := h.next b3
  have HSD := Lib.hid hS
  obtain ⟨p, cap, h1, h2⟩ := hS
  obtain ⟨L, hL⟩ : ∃ L, xs.length = L := ⟨_, rfl⟩
  obtain ⟨M, hM⟩ : ∃ M, d.length = M := ⟨_, rfl⟩
  have HBB := Lib.hid h2.bytes
  have hle := h2.le
  have hmx := h2.max
  unfold maxLen at hmx
  rw [hL] at h1 hle
  rw [hM] at hd
  have HL := Lib.hid hL
  have HM := Lib.hid hM
  have c0 := h1.cell 0 (by simp)
  have HH := Lib.hid (head_any p xs L cap W (ht.below b3) HBB.out hL hle (by omega))
  rw [hr] at HH
  have HG := Lib.hid h1
  have B1 := Lib.hid b1
  have B2 := Lib.hid b2
  have B3 := Lib.hid b3
  have HW := Lib.hid hW
  have HW0 := Lib.hid hW0
  clear b1 b2 b3 h1 h2 h hL hM hW hW0 hr ht
  go_enter Tryd.func18, Tryd.ntmps18
  go_wp2_with fail
  rw [HW.out]
  refine (closed_str _ _ _ HSD.out).mono ?_; rintro e w' ⟨rfl, rfl⟩
  go_wp2_with fail
  refine HH.out.mono ?_; rintro e w1 ⟨q, capq, rfl, hO, hb⟩
  dsimp only at hO ⊢
  rw [HM.out]
  have HO := Lib.hid hO
  have HBW := Lib.hid hb
  have HG1 := Lib.hid (HG.out.next hb)
  have HN7 := Lib.hid (Blk.new w1 33 [.int .i64 1, .int .i64 sub, .slice q M capq])
  have hg1 : g < w1.heap.size := HG1.out.lt
  have hA := HG1.out.alloc (.cells #[.int .i64 1, .int .i64 sub, .slice q M capq] 33)
  clear hO hb c0
  have c0 := hA.cell 0 (by simp)
  have c1 := hA.cell 1 (by simp)
  have c2 := hA.cell 2 (by simp)
  have c3 := hA.cell 3 (by simp)
  have f0 := hA.f 0
  have f1 := hA.f 1
  have f2 := hA.f 2
  have f3 := hA.f 3
  clear hA
  have d0 := HG1.out.cell 0 (by simp)
  have d1 := HG1.out.cell 1 (by simp)
  have d2 := HG1.out.cell 2 (by simp)
  have d3 := HG1.out.cell 3 (by simp)
  have e0 := HG1.out.f 0
  have e1 := HG1.out.f 1
  have e2 := HG1.out.f 2
  have e3 := HG1.out.f 3
  go_wp2_with fail
  clear c0 c1 c2 c3 f0 f1 f2 f3 d0 d1 d2 d3 e0 e1 e2 e3
  obtain ⟨X, hX⟩ : ∃ X, ((((w1.setCell ⟨g, 0, none⟩ (.slice none 0 0)).setCell ⟨g, 1, none⟩ (.int .i64 1)).setCell ⟨g, 2, none⟩ (.int .i64 sub)).setCell ⟨g, 3, none⟩ (.slice q M capq)).alloc (.cells #[.int .i64 1, .int .i64 sub, .slice q M capq] 33) = X := ⟨_, rfl⟩
  have hW1 : W.heap.size ≤ w1.heap.size := HBW.out.size
  have hXs : X.heap.size = w1.heap.size + 1 := by rw [← hX]; simp [World.setCell]
  have hXG : Blk X g 57 [.slice none 0 0, .int .i64 1, .int .i64 sub, .slice q M capq] := by rw [← hX]; exact ((((HG1.out.set 0 _).set 1 _).set 2 _).set 3 _).alloc _
  have hXO : Own X W.heap.size q capq d := by rw [← hX]; exact ((((HO.out.setBelow (by simp [HW0.out]; omega) _).setBelow (by simp [HW0.out]; omega) _).setBelow (by simp [HW0.out]; omega) _).setBelow (by simp [HW0.out]; omega) _).alloc _
  have hX1 : Blk X w.heap.size 24 [.int .i64 0, .slice none 0 0] := by rw [← hX]; exact (((((B1.out.next HBW.out).setOther (by simp; omega) _).setOther (by simp; omega) _).setOther (by simp; omega) _).setOther (by simp; omega) _).alloc _
  have hX2 : Blk X (w.heap.size + 1) 33 [.int .i64 0, .int .i64 0, .slice none 0 0] := by rw [← hX]; exact (((((B2.out.next HBW.out).setOther (by simp; omega) _).setOther (by simp; omega) _).setOther (by simp; omega) _).setOther (by simp; omega) _).alloc _
  have hXB : Below g w X := by
    rw [← hX]
    have h0 : Below g w w1 := (B3.out.mono (by omega)).trans (HBW.out.mono (by rw [HW0.out]; omega))
    exact ((((h0.setCell (Nat.le_refl _) _).setCell (Nat.le_refl _) _).setCell (Nat.le_refl _) _).setCell (Nat.le_refl _) _).alloc (by simp [World.setCell]; omega) _
  have hXE : ∀ b, b < w.heap.size → b ≠ g → X.heap[b]? = w.heap[b]? := by
    intro b hb hne
    have hw := HW0.out
    rw [← hX, Below.heap_alloc _ _ _ (by simp [World.setCell]; omega), Below.heap_setCell _ _ _ _ hne, Below.heap_setCell _ _ _ _ hne, Below.heap_setCell _ _ _ _ hne, Below.heap_setCell _ _ _ _ hne]
    exact (HBW.out.block b (by omega)).trans (B3.out.block b hb)
  have HXE := Lib.hid hXE
  clear hXE
  rw [hX]
  have cs : X.drew.cell? ⟨g, 2, none⟩ = some (.int .i64 sub) := hXG.cell 2 (by simp)
  have cd : X.drew.cell? ⟨g, 3, none⟩ = some (.slice q M capq) := hXG.cell 3 (by simp)
  have hS := And.intro cs cd
  have HS := Lib.hid hS
  have HXG := Lib.hid hXG
  have HXO := Lib.hid hXO
  have HX1 := Lib.hid hX1
  have HX2 := Lib.hid hX2
  have HXB := Lib.hid hXB
  have HXS := Lib.hid hXs
  clear cs cd hXG hXO hX1 hX2 hXB hX hXs
  go_region_held (fun w' => w'.cell? ⟨g, 2, none⟩ = some (.int .i64 sub) ∧ w'.cell? ⟨g, 3, none⟩ = some (.slice q M capq)) (first | with_reducible assumption | (with_reducible refine pair_far ?_ hgw HK.out; repeat (first | with_reducible exact Below.refl _ _ | (with_reducible refine Below.setCell ?_ (by simp) _)))) (first
    | (go_at_call 26; refine (wrong_any sub q d M capq _ HXO.out.bytes.drew HM.out (by omega)).mono ?_; rintro e w2 ⟨q2, capq2, rfl, hO, hb⟩; rw [HM.out]; have hk := And.intro (kept hb HS.out.1) (kept hb HS.out.2); have HK := Lib.hid hk; have HO2 := Lib.hid hO; have HB2 := Lib.hid hb; have B1' := HX1.out.drew.next hb; have B2' := HX2.out.drew.next hb; have c0 := B2'.cell 0 (by simp); have c1 := B2'.cell 1 (by simp); have c2 := B2'.cell 2 (by simp); have d0 := B1'.cell 0 (by simp); have d1 := B1'.cell 1 (by simp); have f0 := B2'.f 0; have f1 := B2'.f 1; have f2 := B2'.f 2; have g0 := B1'.f 0; have g1 := B1'.f 1; clear hO hb B1' B2'))
  go_wp2_with fail
  refine bodyPost_ret (v := .tuple #[.agg #[.int .i64 0, .slice none 0 0], .bool false, .agg #[.int .i64 1, .int .i64 sub, .slice q2 M capq2]]) (by simp [results, Tryd.results18, go_sem, c0, c1, c2, d0, d1]) rfl ⟨⟨none, 0, q2, capq2, by rw [HM.out]; rfl, Own.nil _ _, ?_⟩, ⟨q, capq, ?_, ?_⟩, ?_, ?_⟩
  · have hO := HO2.out
    rw [show X.drew.heap.size = w1.heap.size + 1 from HXS.out] at hO
    have := HW0.out
    exact (((((hO.setBelow (by simp; omega) _).setBelow (by simp; omega) _).setBelow (by simp; omega) _).setBelow (by simp; omega) _).setBelow (by simp; omega) _).mono (by omega)
  · rw [HM.out]
    exact ((((((HXG.out.drew.next HB2.out).setOther (by simp; omega) _).setOther (by simp; omega) _).setOther (by simp; omega) _).setOther (by simp; omega) _).setOther (by simp; omega) _)
  · have := HW0.out
    exact ((((((HXO.out.drew.below HB2.out).setBelow (by simp; omega) _).setBelow (by simp; omega) _).setBelow (by simp; omega) _).setBelow (by simp; omega) _).setBelow (by simp; omega) _).mono (by omega)
  · have hb := HXB.out.drew.trans (HB2.out.mono (show g ≤ X.heap.size by rw [HXS.out]; omega))
    exact ((((hb.setCell (by simp; omega) _).setCell (by simp; omega) _).setCell (by simp; omega) _).setCell (by simp; omega) _).setCell (by simp; omega) _
  · intro b hb hne
    have hw := HW0.out
    rw [Below.heap_setCell _ _ _ _ (by simp; omega), Below.heap_setCell _ _ _ _ (by simp; omega), Below.heap_setCell _ _ _ _ (by simp; omega), Below.heap_setCell _ _ _ _ (by simp; omega), Below.heap_setCell _ _ _ _ (by simp; omega)]
    exact (HB2.out.block b (show b < X.heap.size by rw [HXS.out]; omega)).trans (HXE.out b hb hne)
end Go.Proofs.YtondoljehdhocaaDoor
