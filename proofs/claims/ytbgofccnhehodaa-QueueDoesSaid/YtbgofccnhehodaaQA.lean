/- The document's own queue. -/
import Derived.Test.YtbgofccnhehodaaQ9
namespace Go.Proofs.Ytbgofccnhehodaa
open Go.RowKit

/-- The document's queue: xs, of at most so many. -/
def RqP (w : World) (h room : Nat) (xs : List Int) (p : Option Addr) : Prop :=
  ∃ cap, Blk w h 36 [.slice p xs.length cap, .int .i64 room] ∧ Own w (h + 1) p cap xs
theorem RqP.next {w w' : World} {h room : Nat} {xs : List Int} {p : Option Addr} (hq : RqP w h room xs p) (hb : Below w.heap.size w w') : RqP w' h room xs p := by
  obtain ⟨cap, h1, h2⟩ := hq
  exact ⟨cap, h1.next hb, h2.below hb⟩
theorem RqP.lt {w : World} {h room : Nat} {xs : List Int} {p : Option Addr} (hq : RqP w h room xs p) : h < w.heap.size := by
  obtain ⟨cap, h1, h2⟩ := hq
  exact h1.lt

theorem rnew_ok (r : Nat) (w : World) (h : r ≤ 65536) :
    Calls Try.prog 8 #[.int .i64 (r : Int)] w fun e w' => e = .returned (.pointer (some ⟨w.heap.size, 0, none⟩)) ∧ RqP w' w.heap.size r [] none ∧ Below w.heap.size w w' := by
  have HX := Lib.hid (Blk.new w 36 [.slice none 0 0, .int .i64 (r : Int)])
  have t1 : decide ((r : Int) < 0) = false := by simp
  have t2 : decide (65536 < (r : Int)) = false := by simp; omega
  go_enter Try.func8, Try.ntmps8
  go_wp2
  go_ret
  exact ⟨rfl, ⟨0, HX.out, Own.nil _ _⟩, (Below.refl _ _).alloc (Nat.le_refl _) _⟩
theorem rnew_no (r : Int) (w : World) (h : r < 0 ∨ 65536 < r) :
    Calls Try.prog 8 #[.int .i64 r] w fun e w' => e = .returned (.pointer none) ∧ w = w' := by
  by_cases h0 : r < 0
  · have t1 : decide (r < 0) = true := by simp [h0]
    go_enter Try.func8, Try.ntmps8
    go_wp2
    go_ret
    exact ⟨rfl, rfl⟩
  · have t1 : decide (r < 0) = false := by simp; omega
    have t2 : decide (65536 < r) = true := by simp; omega
    go_enter Try.func8, Try.ntmps8
    go_wp2
    go_ret
    exact ⟨rfl, rfl⟩

/-- What a call of the document's queue may turn: the queue alone, and what is new. -/
structure RqK (w w' : World) (h : Nat) (p p' : Option Addr) : Prop where
  below : Below h w w'
  keep : ∀ b, b < w.heap.size → b ≠ h → w'.heap[b]? = w.heap[b]?
  new : p' = p ∨ ∀ b, p'.map (·.block) = some b → w.heap.size ≤ b

theorem rput_no (w : World) (h room : Nat) (xs : List Int) (p : Option Addr) (hq : RqP w h room xs p) (hr : room ≤ 65536) (hx : xs.length ≤ room) (q : Option Addr) (m c : Nat) (hm : m ≤ 1099511627776) (hf : room < xs.length + m) :
    Calls Try.prog 11 #[.pointer (some ⟨h, 0, none⟩), .slice q m c] w fun e w' => e = .returned (.bool false) ∧ Below w.heap.size w w' := by
  obtain ⟨cap, h1, _⟩ := hq
  obtain ⟨n, hn⟩ : ∃ n, xs.length = n := ⟨_, rfl⟩
  rw [hn] at h1 hf hx
  have hS : w.drew.cell? ⟨h, 0, none⟩ = some (.slice p n cap) ∧ w.drew.cell? ⟨h, 1, none⟩ = some (.int .i64 (room : Int)) := ⟨h1.cell 0 (by simp), h1.cell 1 (by simp)⟩
  clear h1 hn
  have t1 : decide ((room : Int) < IntKind.i64.wrap ((n : Int) + m)) = true := by rw [IntKind.wrap_i64]; simp; omega
  go_enter Try.func11, Try.ntmps11
  go_wp2_with fail
  go_region_held (fun w' => w'.cell? ⟨h, 0, none⟩ = some (.slice p n cap) ∧ w'.cell? ⟨h, 1, none⟩ = some (.int .i64 (room : Int))) (with_reducible assumption) (fail)
  all_goals go_wp2_with fail
  all_goals go_ret
  all_goals exact ⟨rfl, (Below.refl _ _).drew⟩

set_option maxHeartbeats 2000000 in
theorem rput_ok (w : World) (h room : Nat) (xs : List Int) (p : Option Addr) (hq : RqP w h room xs p) (hr : room ≤ 65536) (q : Option Addr) (ys : List Int) (m c : Nat) (hy : BytesAt w q ys) (hm : ys.length = m) (hf : xs.length + m ≤ room) :
    Calls Try.prog 11 #[.pointer (some ⟨h, 0, none⟩), .slice q m c] w fun e w' => e = .returned (.bool true) ∧ ∃ p', RqP w' h room (xs ++ ys) p' ∧ RqK w w' h p p' := by
  obtain ⟨cap, h1, h2⟩ := hq
  obtain ⟨n, hn⟩ : ∃ n, xs.length = n := ⟨_, rfl⟩
  rw [hn] at h1 hf
  have c0 : w.drew.cell? ⟨h, 0, none⟩ = some (.slice p n cap) := h1.cell 0 (by simp)
  have c1 : w.drew.cell? ⟨h, 1, none⟩ = some (.int .i64 (room : Int)) := h1.cell 1 (by simp)
  have hS := And.intro c0 c1
  have H1 := Lib.hid h1
  have H2 := Lib.hid h2
  have HN := Lib.hid hn
  have HM := Lib.hid hm
  have HY := Lib.hid hy
  clear h1 h2 hn hy hm c0 c1
  have t1 : decide ((room : Int) < IntKind.i64.wrap ((n : Int) + m)) = false := by rw [IntKind.wrap_i64]; simp; omega
  go_enter Try.func11, Try.ntmps11
  go_wp2_with fail
  go_region_held (fun w' => w'.cell? ⟨h, 0, none⟩ = some (.slice p n cap) ∧ w'.cell? ⟨h, 1, none⟩ = some (.int .i64 (room : Int))) (with_reducible assumption) (fail)
  have hA := newB2 w (.cells #[] 5)
  have c0 : (w.alloc (.cells #[] 5)).drew.cell? ⟨h, 0, none⟩ = some (.slice p n cap) := (H1.out.next hA).cell 0 (by simp)
  have HOL := Lib.hid (Own.lit w w.heap.size [] (fun i hi => by simp at hi) (by simp) (Nat.le_refl _)).drew
  have BX := Lib.hid (H2.out.bytes.below hA)
  have HB0 := Lib.hid hA
  clear hA hS
  go_wp2_with (first
    | (refine wpList_appo (o := ⟨some 24, _, _, _, _, _⟩) (by rfl) (.tmp 19) (.tmp 23) (by rfl) w.heap.size (some ⟨w.heap.size, 0, none⟩) 0 [] HOL.out 0 (by rfl) (by rfl) p n cap xs BX.out HN.out (by rfl) n (by omega) (by omega) (by simp) ?_; intro p3 c3 w3 hO3 hB3 hG3)
    | (refine wpList_appo (o := ⟨some 26, _, _, _, _, _⟩) (by rfl) (.tmp 24) (.tmp 25) (by rfl) w.heap.size p3 c3 ([] ++ xs) hO3.out n HN.out (by rfl) q m c ys (HY.out.below (HB0.out.trans hB3.out)) HM.out (by rfl) (n + m) (by omega) (by omega) (HB0.out.trans hB3.out).size ?_; intro p4 c4 w4 hO4 hB4 hG4; have HB4 := Lib.hid ((HB0.out.trans hB3.out).trans hB4.out); have H4 := Lib.hid (H1.out.next HB4.out); have d0 := H4.out.cell 0 (by simp); have f0 := H4.out.f 0))
  go_ret
  have hlt := H1.out.lt
  have hZ := H4.out.set 0 (.slice p4 (n + m) c4)
  have hl : (xs ++ ys).length = n + m := by rw [List.length_append, HN.out, HM.out]
  refine ⟨rfl, p4, ⟨c4, by rw [hl]; exact hZ, (hO4.out.mono (by omega)).setBelow (by simp) _⟩, Below.setCell (B := h) (p := ⟨h, 0, none⟩) (HB4.out.mono (Nat.le_of_lt hlt)) (Nat.le_refl _) _, fun b hb hne => by rw [Below.heap_setCell _ _ _ _ hne, HB4.out.block b hb], .inr fun b hb => ?_⟩
  have := hO4.out.block_lt (g := b) hb
  omega

/-- From the cut on: k of them go. -/
def RtakeTo (w w' : World) (h room : Nat) (xs : List Int) (p : Option Addr) (k : Nat) (e : Ending) : Prop :=
  (∃ r c, e = .returned (.slice r k c) ∧ Own w' w.heap.size r c (xs.take k)) ∧ ∃ p', RqP w' h room (xs.drop k) p' ∧ RqK w w' h p p'
theorem newA (w : World) (o : Obj) : Below w.heap.size w (w.alloc o) := (Below.refl w.heap.size w).alloc (Nat.le_refl _) _
theorem rtake_end {w w3 w4 : World} {h room n k m : Nat} {xs : List Int} {p p3 p4 : Option Addr} {c3 c4 cap : Nat}
    (b3 : Below w.heap.size w w3) (o3 : Own w3 w.heap.size p3 c3 ([] ++ xs.take k)) (l3 : (xs.take k).length = k) (b4 : Below w3.heap.size w3 w4) (h4 : Blk w4 h 36 [.slice p n cap, .int .i64 room]) (o4 : Own w4 w3.heap.size p4 c4 ([] ++ xs.drop k)) (l4 : (xs.drop k).length = m) (hlt : h < w.heap.size) :
    RtakeTo w (w4.setCell ⟨h, 0, none⟩ (.slice p4 m c4)) h room xs p k (.returned (.slice p3 k c3)) := by
  have hZ := h4.set 0 (.slice p4 m c4)
  have hs := b3.size
  have b5 := b3.trans (b4.mono hs)
  refine ⟨⟨p3, c3, rfl, (o3.below b4).setBelow hlt _⟩, p4, ⟨c4, by rw [l4]; exact hZ, (o4.mono (by omega)).setBelow (by simp) _⟩, Below.setCell (B := h) (p := ⟨h, 0, none⟩) (b5.mono (Nat.le_of_lt hlt)) (Nat.le_refl _) _, fun b hb hne => by rw [Below.heap_setCell _ _ _ _ hne, b5.block b hb], .inr fun b hb => ?_⟩
  have := o4.block_lt (g := b) hb
  omega

set_option maxHeartbeats 4000000 in
theorem rtake_any (w : World) (h room : Nat) (xs : List Int) (p : Option Addr) (hq : RqP w h room xs p) (hx : xs.length ≤ 65536) (v : Int) :
    Calls Try.prog 13 #[.pointer (some ⟨h, 0, none⟩), .int .i64 v] w fun e w' => RtakeTo w w' h room xs p (takeN v xs.length) e := by
  obtain ⟨cap, h1, h2⟩ := hq
  obtain ⟨n, hn⟩ : ∃ n, xs.length = n := ⟨_, rfl⟩
  obtain ⟨k, hk⟩ : ∃ k, takeN v xs.length = k := ⟨_, rfl⟩
  have hkn : k ≤ n := by rw [← hk, ← hn]; exact takeN_le _ _
  have hcn : n ≤ cap := by rw [← hn]; exact h2.le
  rw [hn] at h1 hx hk
  have H1 := Lib.hid h1
  have H2 := Lib.hid h2
  have HN := Lib.hid hn
  have c0 : w.cell? ⟨h, 0, none⟩ = some (.slice p n cap) := h1.cell 0 (by simp)
  have hA := newA w (.cells #[] 5)
  have c0W : (w.alloc (.cells #[] 5)).cell? ⟨h, 0, none⟩ = some (.slice p n cap) := (h1.next hA).cell 0 (by simp)
  have HOL := Lib.hid (Own.lit w w.heap.size [] (fun i hi => by simp at hi) (by simp) (Nat.le_refl _))
  have BX := Lib.hid ((h2.bytes.take k).below hA)
  have HA := Lib.hid hA
  have HTK := Lib.hid (show (xs.take k).length = k by simp; omega)
  have HDK := Lib.hid (show (xs.drop k).length = n - k by simp; omega)
  have hpost : ∀ e w', RtakeTo w w' h room xs p k e → RtakeTo w w' h room xs p (takeN v xs.length) e := fun e w' hh => by rw [hn, hk]; exact hh
  refine Calls.mono ?_ fun e w' hh => hpost e w' hh
  clear h1 h2 hA hn hpost
  have kk : (v < 0 ∧ k = 0) ∨ (0 ≤ v ∧ (n : Int) < v ∧ k = n) ∨ (0 ≤ v ∧ v ≤ n ∧ v = k) := by unfold takeN at hk; omega
  clear hk
  rcases kk with ⟨hv, rfl⟩ | ⟨hv, hv2, rfl⟩ | ⟨hv, hv2, rfl⟩
  · have t0 : decide (v < 0) = true := by simp [hv]
    have t1 : decide ((n : Int) < 0) = false := by simp
    have r1 := fun u => run_cut_h0 u p n cap 0 0 rfl (by omega)
    have r2 := fun u => run_cut_l u p n cap 0 0 rfl hkn
    go_enter Try.func13, Try.ntmps13
    go_wp2_with (first
      | (refine wpList_appo (o := ⟨some 27, _, _, _, _, _⟩) (by rfl) (.tmp 20) (.tmp 26) (by rfl) w.heap.size (some ⟨w.heap.size, 0, none⟩) 0 [] HOL.out 0 (by rfl) (by rfl) p 0 cap (xs.take 0) BX.out HTK.out (by rfl) 0 (by omega) (by omega) (by simp) ?_; intro p3 c3 w3 hO3 hB3 hG3; have HB3 := Lib.hid (HA.out.trans hB3.out); have H3 := Lib.hid (H1.out.next HB3.out); have d0 := H3.out.cell 0 (by simp); have hA3 := newA w3 (.cells #[] 5); have d1 := (H3.out.next hA3).cell 0 (by simp); have BY := Lib.hid (((H2.out.bytes.cutl cap 0 (by have := HN.out; omega) (by have := HN.out; omega)).below HB3.out).below hA3); have HOM := Lib.hid (Own.lit w3 w3.heap.size [] (fun i hi => by simp at hi) (by simp) (Nat.le_refl _)); have HA3 := Lib.hid hA3; have hs3 := HB3.out.size; clear hA3)
      | (refine wpList_appo (o := ⟨some 36, _, _, _, _, _⟩) (by rfl) (.tmp 29) (.tmp 35) (by rfl) w3.heap.size (some ⟨w3.heap.size, 0, none⟩) 0 [] HOM.out 0 (by rfl) (by rfl) (cutP p cap 0) (n - 0) (cap - 0) (xs.drop 0) BY.out HDK.out (by rfl) (n - 0) (by omega) (by omega) (by simp) ?_; intro p4 c4 w4 hO4 hB4 hG4; have HB4 := Lib.hid (HA3.out.trans hB4.out); have H4 := Lib.hid (H3.out.next HB4.out); have e0 := H4.out.cell 0 (by simp); have f0 := H4.out.f 0))
    go_ret
    exact rtake_end HB3.out hO3.out HTK.out HB4.out H4.out hO4.out HDK.out H1.out.lt
  · have t0 : decide (v < 0) = false := by simp; omega
    have t1 : decide ((k : Int) < v) = true := by simp; omega
    have r1 := fun u => run_cut_h0 u p k cap (k : Int) k rfl (by omega)
    have r2 := fun u => run_cut_l u p k cap (k : Int) k rfl hkn
    go_enter Try.func13, Try.ntmps13
    go_wp2_with (first
      | (refine wpList_appo (o := ⟨some 27, _, _, _, _, _⟩) (by rfl) (.tmp 20) (.tmp 26) (by rfl) w.heap.size (some ⟨w.heap.size, 0, none⟩) 0 [] HOL.out 0 (by rfl) (by rfl) p k cap (xs.take k) BX.out HTK.out (by rfl) k (by omega) (by omega) (by simp) ?_; intro p3 c3 w3 hO3 hB3 hG3; have HB3 := Lib.hid (HA.out.trans hB3.out); have H3 := Lib.hid (H1.out.next HB3.out); have d0 := H3.out.cell 0 (by simp); have hA3 := newA w3 (.cells #[] 5); have d1 := (H3.out.next hA3).cell 0 (by simp); have BY := Lib.hid (((H2.out.bytes.cutl cap k (by have := HN.out; omega) (by have := HN.out; omega)).below HB3.out).below hA3); have HOM := Lib.hid (Own.lit w3 w3.heap.size [] (fun i hi => by simp at hi) (by simp) (Nat.le_refl _)); have HA3 := Lib.hid hA3; have hs3 := HB3.out.size; clear hA3)
      | (refine wpList_appo (o := ⟨some 36, _, _, _, _, _⟩) (by rfl) (.tmp 29) (.tmp 35) (by rfl) w3.heap.size (some ⟨w3.heap.size, 0, none⟩) 0 [] HOM.out 0 (by rfl) (by rfl) (cutP p cap k) 0 (cap - k) (xs.drop k) BY.out (by have := HDK.out; omega) (by rfl) 0 (by omega) (by omega) (by simp) ?_; intro p4 c4 w4 hO4 hB4 hG4; have HB4 := Lib.hid (HA3.out.trans hB4.out); have H4 := Lib.hid (H3.out.next HB4.out); have e0 := H4.out.cell 0 (by simp); have f0 := H4.out.f 0))
    go_ret
    exact rtake_end HB3.out hO3.out HTK.out HB4.out H4.out hO4.out (by have := HDK.out; omega) H1.out.lt
  · have t0 : decide ((k : Int) < 0) = false := by simp
    have t1 : decide ((n : Int) < (k : Int)) = false := by simp; omega
    have r1 := fun u => run_cut_h0 u p n cap (k : Int) k rfl (by omega)
    have r2 := fun u => run_cut_l u p n cap (k : Int) k rfl hkn
    go_enter Try.func13, Try.ntmps13
    go_wp2_with (first
      | (refine wpList_appo (o := ⟨some 27, _, _, _, _, _⟩) (by rfl) (.tmp 20) (.tmp 26) (by rfl) w.heap.size (some ⟨w.heap.size, 0, none⟩) 0 [] HOL.out 0 (by rfl) (by rfl) p k cap (xs.take k) BX.out HTK.out (by rfl) k (by omega) (by omega) (by simp) ?_; intro p3 c3 w3 hO3 hB3 hG3; have HB3 := Lib.hid (HA.out.trans hB3.out); have H3 := Lib.hid (H1.out.next HB3.out); have d0 := H3.out.cell 0 (by simp); have hA3 := newA w3 (.cells #[] 5); have d1 := (H3.out.next hA3).cell 0 (by simp); have BY := Lib.hid (((H2.out.bytes.cutl cap k (by have := HN.out; omega) (by have := HN.out; omega)).below HB3.out).below hA3); have HOM := Lib.hid (Own.lit w3 w3.heap.size [] (fun i hi => by simp at hi) (by simp) (Nat.le_refl _)); have HA3 := Lib.hid hA3; have hs3 := HB3.out.size; clear hA3)
      | (refine wpList_appo (o := ⟨some 36, _, _, _, _, _⟩) (by rfl) (.tmp 29) (.tmp 35) (by rfl) w3.heap.size (some ⟨w3.heap.size, 0, none⟩) 0 [] HOM.out 0 (by rfl) (by rfl) (cutP p cap k) (n - k) (cap - k) (xs.drop k) BY.out HDK.out (by rfl) (n - k) (by omega) (by omega) (by simp) ?_; intro p4 c4 w4 hO4 hB4 hG4; have HB4 := Lib.hid (HA3.out.trans hB4.out); have H4 := Lib.hid (H3.out.next HB4.out); have e0 := H4.out.cell 0 (by simp); have f0 := H4.out.f 0))
    go_ret
    exact rtake_end HB3.out hO3.out HTK.out HB4.out H4.out hO4.out HDK.out H1.out.lt
end Go.Proofs.Ytbgofccnhehodaa
