/- queue: Put, Take. -/
import Derived.Test.YtbgofccnhehodaaQ3
namespace Go.Proofs.Ytbgofccnhehodaa
open Go.RowKit

theorem QuK.grown {w w' : World} {g : Nat} {p : Option Addr} (hb : Below g w w') (hg : w.grownBy w' (p.map (·.block))) : QuK w w' g p p := ⟨hb, fun b hl _ hp => hg.block b hl (Ne.symm hp), .inl rfl⟩
theorem QuK.set (w : World) (g o : Nat) (v : Value) (p : Option Addr) : QuK w (w.setCell ⟨g, o, none⟩ v) g p p := ⟨Below.setCell (B := g) (p := ⟨g, o, none⟩) (Below.refl _ _) (Nat.le_refl _) _, fun _ _ hne _ => Below.heap_setCell _ _ _ _ hne, .inl rfl⟩
theorem qgrow_any (w : World) (g room : Nat) (xs : List Int) (p : Option Addr) (h : QuP w g room xs p) (need : Nat) (hx : xs.length ≤ need) (hr : need ≤ room) :
    Calls Try.prog 18 #[.pointer (some ⟨g, 0, none⟩), .int .i64 (need : Int)] w fun e w' => e = .returned (.tuple #[]) ∧ ∃ p' rs' f', QuR w' g room xs p' rs' f' ∧ need ≤ rs'.length ∧ QuK w w' g p p' := by
  obtain ⟨rs, f, h⟩ := h
  rcases Nat.lt_or_ge rs.length need with hl | hl
  · exact qgrow_yes w g room xs p rs f h need hl hx hr
  · exact (qgrow_not w g room xs p rs f h need hl).mono fun e w' ⟨he, hw⟩ => by subst hw; exact ⟨he, p, rs, f, h, hl, QuK.refl _ _ _⟩

theorem BytesAt.same {w w' : World} {p : Option Addr} {xs : List Int} (h : BytesAt w p xs) (hb : ∀ b, p.map (·.block) = some b → w'.heap[b]? = w.heap[b]?) : BytesAt w' p xs := by
  obtain ⟨hx, rfl | ⟨b, off, rfl, hc⟩⟩ := h
  · exact BytesAt.nil _ _
  · exact BytesAt.of_block ⟨hx, .inr ⟨b, off, rfl, hc⟩⟩ (hb b rfl)
theorem BytesAt.lt {w : World} {p : Option Addr} {xs : List Int} (h : BytesAt w p xs) (h0 : 0 < xs.length) : ∀ b, p.map (·.block) = some b → b < w.heap.size := by
  obtain ⟨_, rfl | ⟨b, off, rfl, hc⟩⟩ := h
  · simp at h0
  · intro b' hb
    obtain rfl : b = b' := by simpa using hb
    exact World.block_lt_of_cell? w _ (hc 0 h0)
def Apart (r p : Option Addr) : Prop := r.map (·.block) = none ∨ r.map (·.block) ≠ p.map (·.block)
theorem QuK.apart {w w' : World} {g : Nat} {p p' r : Option Addr} (hk : QuK w w' g p p') (ha : Apart r p) (hl : ∀ b, r.map (·.block) = some b → b < w.heap.size) : Apart r p' := by
  rcases ha with h | h
  · exact .inl h
  · rcases hk.new with e | e
    · right; rw [e]; exact h
    · rcases hr : r.map (·.block) with _ | b
      · exact .inl hr
      · right; intro e2; have := e b (e2.symm.trans hr); have := hl b hr; omega
/-- Bytes that lie neither in the queue nor in its ring stay. -/
theorem QuK.bytes {w w' : World} {g : Nat} {p p' q : Option Addr} {xs : List Int} (hk : QuK w w' g p p') (h : BytesAt w q xs) (hs : 0 < xs.length → q.map (·.block) ≠ some g ∧ Apart q p) : BytesAt w' q xs := by
  rcases Nat.eq_zero_or_pos xs.length with h0 | h0
  · obtain rfl := List.eq_nil_of_length_eq_zero h0
    exact BytesAt.nil _ _
  · obtain ⟨h1, h2⟩ := hs h0
    refine h.same fun b hb => hk.keep b (h.lt h0 b hb) (fun e => h1 (by rw [hb, e])) (fun e => ?_)
    rcases h2 with h' | h'
    · rw [h'] at hb; cases hb
    · exact h' (by rw [hb, e])
theorem QuR.p {w : World} {g room : Nat} {xs : List Int} {p : Option Addr} {rs : List Int} {f : Nat} (h : QuR w g room xs p rs f) : QuP w g room xs p := ⟨rs, f, h⟩

theorem two13 {w w' : World} {g : Nat} {a b : Option Value} (hl : g < w.heap.size) (hb : Below (g + 1) w.drew w') (h : w.drew.cell? ⟨g, 1, none⟩ = a ∧ w.drew.cell? ⟨g, 3, none⟩ = b) : w'.cell? ⟨g, 1, none⟩ = a ∧ w'.cell? ⟨g, 3, none⟩ = b :=
  ⟨(hb.cell (p := ⟨g, 1, none⟩) (Nat.lt_succ_self g)).trans h.1, (hb.cell (p := ⟨g, 3, none⟩) (Nat.lt_succ_self g)).trans h.2⟩

theorem qput_nil (q : Option Addr) (n c : Nat) (w : World) :
    Calls Try.prog 10 #[.pointer none, .slice q n c] w fun e w' => e = .returned (.bool false) ∧ w = w' := by
  go_enter Try.func10, Try.ntmps10
  go_wp2_with fail
  go_ret
  exact ⟨rfl, rfl⟩
theorem qput_no (w : World) (g room : Nat) (xs : List Int) (p : Option Addr) (h : QuP w g room xs p) (q : Option Addr) (m c : Nat) (hf : room < xs.length + m) :
    Calls Try.prog 10 #[.pointer (some ⟨g, 0, none⟩), .slice q m c] w fun e w' => e = .returned (.bool false) ∧ Below w.heap.size w w' := by
  have hz := h.size
  have HR := Lib.hid (qroom_any w g room xs p h)
  obtain ⟨n, hn⟩ : ∃ n, xs.length = n := ⟨_, rfl⟩
  have t1 : decide ((room : Int) - n < (m : Int)) = true := by simp; omega
  rw [hn] at HR
  clear h hn
  go_enter Try.func10, Try.ntmps10
  go_wp2_with (go_at_call 16; refine HR.out.mono ?_; rintro e w1 ⟨rfl, hb1⟩; have HB1 := Lib.hid hb1; clear hb1)
  go_ret
  exact ⟨rfl, HB1.out⟩

set_option maxHeartbeats 2000000 in
theorem qput_ok (w : World) (g room : Nat) (xs : List Int) (p : Option Addr) (h : QuP w g room xs p) (q : Option Addr) (ys : List Int) (m c : Nat) (hy : BytesAt w q ys) (hm : ys.length = m) (hc : m ≤ c) (hsep : 0 < m → q.map (·.block) ≠ some g ∧ Apart q p) (hf : xs.length + m ≤ room) :
    Calls Try.prog 10 #[.pointer (some ⟨g, 0, none⟩), .slice q m c] w fun e w' => e = .returned (.bool true) ∧ ∃ p', QuP w' g room (xs ++ ys) p' ∧ QuK w w' g p p' := by
  have hz := h.size
  obtain ⟨n, hn⟩ : ∃ n, xs.length = n := ⟨_, rfl⟩
  have HR := Lib.hid (qroom_any w g room xs p h)
  have HQ := Lib.hid h
  have HY := Lib.hid hy
  have HM := Lib.hid hm
  have HN := Lib.hid hn
  rw [hn] at HR hz hf
  have t1 : decide ((room : Int) - n < (m : Int)) = false := by simp; omega
  have HLT := Lib.hid h.lt
  have HSEP := Lib.hid (show 0 < ys.length → q.map (·.block) ≠ some g ∧ Apart q p by rw [hm]; exact hsep)
  have c3 : ∀ w1, Below w.heap.size w w1 → w1.cell? ⟨g, 3, none⟩ = some (.int .i64 (n : Int)) := fun w1 hb1 => by
    obtain ⟨rs, f, h1, _⟩ := HQ.out.next hb1
    rw [← HN.out]; exact h1.cell 3 (by simp)
  clear h hy hm hn hsep
  go_enter Try.func10, Try.ntmps10
  go_wp2_with (first
    | (go_at_call 16; refine HR.out.mono ?_; rintro e w1 ⟨rfl, hb1⟩; have HB1 := Lib.hid hb1; have e3 := c3 _ hb1; have HG := Lib.hid (qgrow_any w1 g room xs p (HQ.out.next hb1) (n + m) (by rw [HN.out]; omega) (by omega)); clear hb1 c3)
    | (go_at_call 18; refine HG.out.mono ?_; rintro e w2 ⟨rfl, p2, rs, f, hq2, hl2, hk2⟩; have HQ2 := Lib.hid hq2; have HL2 := Lib.hid hl2; have HK2 := Lib.hid hk2; clear hq2 hl2 hk2))
  obtain ⟨L, hL⟩ : ∃ L, rs.length = L := ⟨_, rfl⟩
  obtain ⟨P, hP⟩ : ∃ P, placeN L f n = P := ⟨_, rfl⟩
  obtain ⟨k, hk⟩ : ∃ k, Nat.min m (L - P) = k := ⟨_, rfl⟩
  have hk1 : k ≤ m := by rw [← hk]; exact Nat.min_le_left _ _
  have hk2 : k ≤ L - P := by rw [← hk]; exact Nat.min_le_right _ _
  obtain ⟨h1, h2, h3, h4, h5, h6, h7⟩ := HQ2.out
  have hLm : n + m ≤ L := by rw [← hL]; exact HL2.out
  have hPL : P ≤ L := by rw [← hP]; unfold placeN; split <;> omega
  have hcp := cont_put (ys := ys) (k := k) h7 h6 (by have := HM.out; have := HN.out; omega) (by rw [HM.out, HN.out, hL, hP]; exact hk)
  rw [hL, HN.out, hP] at hcp
  have h1' : Blk w2 g 44 [.int .i64 room, .slice p2 L L, .int .i64 (f : Nat), .int .i64 n] := by rw [← hL, ← HN.out]; exact h1
  have HX := Lib.hid h1'
  have HPL := Lib.hid (qplace_any w2.drew g f L n [.int .i64 room, .int .i64 n] p2 h1'.drew (by omega) (by omega) (by omega) (by omega))
  rw [hP] at HPL
  have hkk := (QuK.of_below (p := p) HB1.out (Nat.le_of_lt HLT.out)).trans HK2.out
  have hy2 : BytesAt w2 q ys := hkk.bytes HY.out HSEP.out
  have hsep2 : 0 < ys.length → q.map (·.block) ≠ some g ∧ Apart q p2 := fun h0 => ⟨(HSEP.out h0).1, hkk.apart (HSEP.out h0).2 (HY.out.lt h0)⟩
  have HY2 := Lib.hid hy2.drew
  have HR2 := Lib.hid (h2.below (Below.refl _ _).drew)
  have HLT2 := Lib.hid h1.lt
  have HLL := Lib.hid hL
  have HKK := Lib.hid hk
  have HCP := Lib.hid hcp
  have HSEP2 := Lib.hid hsep2
  have HF := Lib.hid h6
  have HRM := Lib.hid h4
  have hLb : L ≤ 65536 := by omega
  have hS : w2.drew.cell? ⟨g, 1, none⟩ = some (.slice p2 L L) ∧ w2.drew.cell? ⟨g, 3, none⟩ = some (.int .i64 (n : Int)) := ⟨h1'.cell 1 (by simp), h1'.cell 3 (by simp)⟩
  have r1 := fun u => run_cut_l u p2 L L (P : Int) P rfl hPL
  have r2 := fun u => run_cut_l u q m c (k : Int) k rfl hk1
  clear h1 h2 h3 h4 h5 h6 h7 h1' hcp hsep2 hkk hy2 hL hP e3 HG HR t1 HY HQ hk
  go_region_held_law (fun w' => w'.cell? ⟨g, 1, none⟩ = some (.slice p2 L L) ∧ w'.cell? ⟨g, 3, none⟩ = some (.int .i64 (n : Int))) (with_reducible assumption) (first
    | (go_at_call 19; refine HPL.out.mono ?_; rintro e w3 ⟨rfl, rfl⟩)
    | (refine step_copyR (o := ⟨some 36, _, _, _, _, _⟩) rfl (.tmp 34) (.tmp 35) rfl (g + 1) p2 rs HR2.out L P (L - P) (L - P) ?b1 ?b2 ?b3 q m c ys HY2.out ?b4 ?b5 k ?b6 ?_; (case b1 => rfl); (case b2 => have := HLL.out; omega); (case b3 => intro e; left; omega); (case b4 => exact HM.out); (case b5 => rfl); (case b6 => exact HKK.out); intro w3 hD3 hB3 hG3; have hS3 := two13 HLT2.out hB3.out hS))
  obtain ⟨c1, c3⟩ := hS3
  have HX3 := Lib.hid (HX.out.drew.below hB3.out (Nat.lt_succ_self g))
  have HD3 := Lib.hid (hD3.out.below (Below.refl _ _).drew)
  have HY3 := Lib.hid (((QuK.grown (p := p2) (hB3.out.mono (Nat.le_succ g)) hG3.out).bytes HY2.out HSEP2.out).below (Below.refl _ _).drew)
  have HYC := Lib.hid (HY3.out.cutl c k (by have := HM.out; omega) (by have := HM.out; omega))
  clear hS HY2 HR2 HPL r1 hD3
  have hS : w3.drew.cell? ⟨g, 1, none⟩ = some (.slice p2 L L) := c1
  clear c1 c3
  go_wp2_with fail
  go_region_held_law (fun w' => w'.cell? ⟨g, 1, none⟩ = some (.slice p2 L L)) (with_reducible assumption) (first
    | (refine step_copyR (o := ⟨some 44, _, _, _, _, _⟩) rfl (.tmp 40) (.tmp 43) rfl (g + 1) p2 (splice rs P (ys.take k)) HD3.out 0 0 L L ?b1 ?b2 ?b3 _ (m - k) (c - k) (ys.drop k) HYC.out ?b4 ?b5 (m - k) ?b6 ?_; (case b1 => rfl); (case b2 => have := HLL.out; have := HM.out; rw [length_splice _ _ _ (by simp; omega)]; omega); (case b3 => intro e; exact .inr rfl); (case b4 => have := HM.out; simp; omega); (case b5 => rfl); (case b6 => exact Nat.min_eq_left (by omega)); intro w5 hD5 hB5 hG5; have hS5 := (hB5.out.cell (p := ⟨g, 1, none⟩) (Nat.lt_succ_self g)).trans hS))
  have HX5 := Lib.hid (HX3.out.drew.below hB5.out (Nat.lt_succ_self g))
  have d3 := HX5.out.cell 3 (by simp)
  have f3 := HX5.out.f 3
  clear HY3 HYC HD3 hS hS5 r2
  go_wp2_with fail
  go_ret
  have hD6 := hD5.out
  rw [show (ys.drop k).take (m - k) = ys.drop k from List.take_of_length_le (by have := HM.out; simp; omega)] at hD6
  have hZ := HX5.out.set 3 (.int .i64 ((n : Int) + m))
  refine ⟨rfl, p2, ⟨_, f, ?_, hD6.setBelow (by simp) _, ?_, ?_, hz.2, ?_, HCP.out.1⟩, ?_⟩
  · rw [HCP.out.2, List.length_append, HM.out, HN.out]; exact hZ
  · rw [HCP.out.2, List.length_append, HM.out, HN.out]; omega
  · rw [HCP.out.2, ← HLL.out]; exact HRM.out
  · rw [HCP.out.2, ← HLL.out]; exact HF.out
  · exact (((((QuK.of_below HB1.out (Nat.le_of_lt HLT.out)).trans HK2.out).trans (QuK.of_below (Below.refl _ _).drew (Nat.le_of_lt HLT2.out))).trans (QuK.grown (hB3.out.mono (Nat.le_succ g)) hG3.out)).trans ((QuK.of_below (Below.refl _ _).drew (Nat.le_of_lt HX3.out.lt)).trans (QuK.grown (hB5.out.mono (Nat.le_succ g)) hG5.out))).trans (QuK.set _ _ _ _ _)
end Go.Proofs.Ytbgofccnhehodaa
