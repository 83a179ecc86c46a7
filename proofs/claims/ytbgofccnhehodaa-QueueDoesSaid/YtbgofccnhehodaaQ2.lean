/- queue: New, Len, Room, place, read. -/
import Derived.Test.YtbgofccnhehodaaQ1
namespace Go.Proofs.Ytbgofccnhehodaa
open Go.RowKit

theorem qnew_ok (r : Nat) (w : World) (h : r ≤ 65536) :
    Calls Try.prog 7 #[.int .i64 (r : Int)] w fun e w' => e = .returned (.tuple #[.pointer (some ⟨w.heap.size, 0, none⟩), .int .i64 0]) ∧ QuP w' w.heap.size r [] none ∧ Below w.heap.size w w' := by
  have HX := Lib.hid (Blk.new w 44 [.int .i64 (r : Int), .slice none 0 0, .int .i64 0, .int .i64 0])
  have t1 : decide ((r : Int) < 0) = false := by simp
  have t2 : decide (65536 < (r : Int)) = false := by simp; omega
  go_enter Try.func7, Try.ntmps7
  go_wp2
  refine bodyPost_ret (v := .tuple #[.pointer (some ⟨w.heap.size, 0, none⟩), .int .i64 0]) (by simp [results, Try.results7, go_sem]) rfl ?_
  exact ⟨rfl, ⟨[], 0, HX.out, RingAt.nil _ _, by simp, by simp, h, .inr ⟨rfl, rfl⟩, fun i hi => by simp at hi⟩, (Below.refl _ _).alloc (Nat.le_refl _) _⟩
theorem qnew_no (r : Int) (w : World) (h : r < 0 ∨ 65536 < r) :
    Calls Try.prog 7 #[.int .i64 r] w fun e w' => e = .returned (.tuple #[.pointer none, .int .i64 1]) ∧ w = w' := by
  by_cases h0 : r < 0
  · have t1 : decide (r < 0) = true := by simp [h0]
    go_enter Try.func7, Try.ntmps7
    go_wp2
    exact bodyPost_ret (v := .tuple #[.pointer none, .int .i64 1]) (by simp [results, Try.results7, go_sem]) rfl ⟨rfl, rfl⟩
  · have t1 : decide (r < 0) = false := by simp; omega
    have t2 : decide (65536 < r) = true := by simp; omega
    go_enter Try.func7, Try.ntmps7
    go_wp2
    exact bodyPost_ret (v := .tuple #[.pointer none, .int .i64 1]) (by simp [results, Try.results7, go_sem]) rfl ⟨rfl, rfl⟩

theorem qlen_nil (w : World) :
    Calls Try.prog 15 #[.pointer none] w fun e w' => e = .returned (.int .i64 0) ∧ w = w' := by
  go_enter Try.func15, Try.ntmps15
  go_wp2
  go_ret
  exact ⟨rfl, rfl⟩
theorem qlen_any (w : World) (g room : Nat) (xs : List Int) (p : Option Addr) (h : QuP w g room xs p) :
    Calls Try.prog 15 #[.pointer (some ⟨g, 0, none⟩)] w fun e w' => e = .returned (.int .i64 xs.length) ∧ w = w' := by
  obtain ⟨rs, f, h1, _⟩ := h
  have c1 := h1.cell 3 (by simp)
  clear h1
  generalize xs.length = n at *
  go_enter Try.func15, Try.ntmps15
  go_wp2
  go_ret
  exact ⟨rfl, rfl⟩
theorem qroom_nil (w : World) :
    Calls Try.prog 16 #[.pointer none] w fun e w' => e = .returned (.int .i64 0) ∧ w = w' := by
  go_enter Try.func16, Try.ntmps16
  go_wp2
  go_ret
  exact ⟨rfl, rfl⟩
theorem qroom_any (w : World) (g room : Nat) (xs : List Int) (p : Option Addr) (h : QuP w g room xs p) :
    Calls Try.prog 16 #[.pointer (some ⟨g, 0, none⟩)] w fun e w' => e = .returned (.int .i64 ((room : Int) - xs.length)) ∧ Below w.heap.size w w' := by
  have hz := h.size
  obtain ⟨rs, f, h1, _⟩ := h
  have c0 := h1.cell 0 (by simp)
  have c1 := h1.cell 3 (by simp)
  clear h1
  generalize xs.length = n at *
  go_enter Try.func16, Try.ntmps16
  go_wp2_with fail
  all_goals go_region
  all_goals go_wp2_with fail
  all_goals go_ret
  all_goals exact ⟨rfl, (Below.refl _ _).drew⟩
theorem qplace_any (w : World) (g f L n : Nat) (vs : List Value) (p : Option Addr) (h : Blk w g 44 [vs.getD 0 undef, .slice p L L, .int .i64 (f : Int), vs.getD 1 undef]) (hf : f ≤ 65536) (hL : L ≤ 65536) (hn : n ≤ 65536) (hfL : f + n ≤ L + L) :
    Calls Try.prog 19 #[.pointer (some ⟨g, 0, none⟩), .int .i64 (n : Int)] w fun e w' => e = .returned (.int .i64 (placeN L f n : Nat)) ∧ w = w' := by
  have c1 := h.cell 1 (by simp)
  have c2 := h.cell 2 (by simp)
  clear h
  unfold placeN
  by_cases hl : f + n < L
  · have t1 : decide ((L : Int) ≤ (f : Int) + n) = false := by simp; omega
    rw [if_pos hl]
    go_enter Try.func19, Try.ntmps19
    go_wp2
    go_ret
    exact ⟨ret_int (by omega), rfl⟩
  · have t1 : decide ((L : Int) ≤ (f : Int) + n) = true := by simp; omega
    rw [if_neg hl]
    go_enter Try.func19, Try.ntmps19
    go_wp2
    go_ret
    exact ⟨ret_int (by omega), rfl⟩

theorem twoG {w w' : World} {g : Nat} {row : Option Nat} {a b : Option Value} (hn : row ≠ some g) (hl : g < w.heap.size) (hg : w.drew.grownBy w' row) (h : w.drew.cell? ⟨g, 1, none⟩ = a ∧ w.drew.cell? ⟨g, 2, none⟩ = b) : w'.cell? ⟨g, 1, none⟩ = a ∧ w'.cell? ⟨g, 2, none⟩ = b :=
  ⟨(World.cell?_of_block (w := w.drew) (a := ⟨g, 1, none⟩) (hg.block g hl (Ne.symm hn))).trans h.1, (World.cell?_of_block (w := w.drew) (a := ⟨g, 2, none⟩) (hg.block g hl (Ne.symm hn))).trans h.2⟩
theorem oneG {w w' : World} {g o : Nat} {row : Option Nat} {a : Option Value} (hn : row ≠ some g) (hl : g < w.heap.size) (hg : w.drew.grownBy w' row) (h : w.drew.cell? ⟨g, o, none⟩ = a) : w'.cell? ⟨g, o, none⟩ = a :=
  (World.cell?_of_block (w := w.drew) (a := ⟨g, o, none⟩) (hg.block g hl (Ne.symm hn))).trans h
theorem gb_trans {a b c : World} {r : Option Nat} (h : a.grownBy b r) (k : b.grownBy c r) : a.grownBy c r :=
  ⟨k.os.trans h.os, k.tape.trans h.tape, k.output.trans h.output, Nat.le_trans h.size k.size, fun x hx hne => (k.block x (Nat.lt_of_lt_of_le hx h.size) hne).trans (h.block x hx hne)⟩
theorem gb_set (w : World) (a : Addr) (v : Value) : w.grownBy (w.setCell a v) (some a.block) :=
  ⟨rfl, rfl, rfl, by simp [World.setCell], fun x _ hne => Below.heap_setCell _ _ _ _ (fun e => hne (by rw [e]))⟩
theorem gb_drew (w : World) (row : Option Nat) : w.grownBy w.drew row := ⟨rfl, rfl, rfl, Nat.le_refl _, fun _ _ _ => rfl⟩

/-- The first m bytes go to a row of one's own. -/
theorem qread_any (w : World) (g room : Nat) (xs : List Int) (p : Option Addr) (h : QuP w g room xs p) (B : Nat) (d : Option Addr) (ds : List Int) (hd : RingAt w B d ds) (m : Nat) (hm : m ≤ xs.length) (hmd : m ≤ ds.length) (hne : d.map (·.block) ≠ some g) (hnp : p.map (·.block) = none ∨ p.map (·.block) ≠ d.map (·.block)) :
    Calls Try.prog 20 #[.pointer (some ⟨g, 0, none⟩), .slice d m ds.length] w fun e w' => e = .returned (.tuple #[]) ∧ RingAt w' B d (splice ds 0 (xs.take m)) ∧ Below B w w' ∧ w.grownBy w' (d.map (·.block)) := by
  have hz := h.size
  obtain ⟨rs, f, h1, h2, h3, h4, h5, h6, h7⟩ := h
  obtain ⟨k, hk⟩ : ∃ k, Nat.min (rs.length - f) m = k := ⟨_, rfl⟩
  have hcr := cont_read h7 h3 h6 hm hmd hk
  have hk1 : k ≤ m := by rw [← hk]; exact Nat.min_le_right _ _
  have hk2 : k ≤ rs.length - f := by rw [← hk]; exact Nat.min_le_left _ _
  have hfL : f ≤ rs.length := by omega
  obtain ⟨L, hL⟩ : ∃ L, rs.length = L := ⟨_, rfl⟩
  obtain ⟨D, hD⟩ : ∃ D, ds.length = D := ⟨_, rfl⟩
  have H1 := Lib.hid h1
  have c1 : w.cell? ⟨g, 1, none⟩ = some (.slice p L L) := by rw [← hL]; exact h1.cell 1 (by simp)
  have c2 : w.cell? ⟨g, 2, none⟩ = some (.int .i64 (f : Int)) := h1.cell 2 (by simp)
  have r1 := fun u => run_cut_l u p L L (f : Int) f rfl (by omega)
  have r2 := fun u => run_cut_l u d m D (k : Int) k rfl hk1
  have HB := Lib.hid (h2.bytes.cutl L f (by omega) (by omega)).drew
  have HD := Lib.hid (hd.below (Below.refl _ _).drew)
  have HL := Lib.hid hL
  have HDL := Lib.hid hD
  have HC := Lib.hid hcr
  have HG := Lib.hid hne
  have HNP := Lib.hid hnp
  have HR := Lib.hid h2
  rw [hL] at hk hk2 hfL h3 h4
  rw [hD] at hmd ⊢
  have HK := Lib.hid hk
  have hS : w.drew.cell? ⟨g, 1, none⟩ = some (.slice p L L) ∧ w.drew.cell? ⟨g, 2, none⟩ = some (.int .i64 (f : Int)) := ⟨c1, c2⟩
  clear h1 h2 h6 h7 hL hD hcr hd hne hnp c1 c2
  go_enter Try.func20, Try.ntmps20
  go_wp2_with fail
  go_region_held_law (fun w' => w'.cell? ⟨g, 1, none⟩ = some (.slice p L L) ∧ w'.cell? ⟨g, 2, none⟩ = some (.int .i64 (f : Int))) (with_reducible assumption) (first
    | (refine step_copyR (o := ⟨some 15, _, _, _, _, _⟩) rfl (.tmp 5) (.tmp 14) rfl B d ds HD.out 0 0 m D ?b1 ?b2 ?b3 _ (L - f) (L - f) (rs.drop f) HB.out ?b4 ?b5 k ?b6 ?_; (case b1 => rfl); (case b2 => have := HDL.out; omega); (case b3 => intro _; exact .inr rfl); (case b4 => have := HL.out; simp; omega); (case b5 => rfl); (case b6 => exact HK.out); intro w3 hD3 hB3 hG3; have hS3 := twoG HG.out H1.out.lt hG3.out hS))
  obtain ⟨c1, _⟩ := hS3
  have HD3 := Lib.hid (hD3.out.below (Below.refl _ _).drew)
  have HR3 := Lib.hid ((HR.out.below (Below.refl _ _).drew).grown hG3.out HNP.out)
  have HB3 := Lib.hid HR3.out.bytes.drew
  clear HB HD HR hS r1
  have hS : w3.drew.cell? ⟨g, 1, none⟩ = some (.slice p L L) := c1
  clear c1
  go_wp2_with fail
  go_region_held_law (fun w' => w'.cell? ⟨g, 1, none⟩ = some (.slice p L L)) (with_reducible assumption) (first
    | (refine step_copyR (o := ⟨some 23, _, _, _, _, _⟩) rfl (.tmp 18) (.tmp 22) rfl B d (splice ds 0 ((rs.drop f).take k)) HD3.out D k (m - k) (D - k) ?b1 ?b2 ?b3 _ L L rs HB3.out ?b4 ?b5 (m - k) ?b6 ?_; (case b1 => rfl); (case b2 => have := HL.out; have := HDL.out; rw [length_splice _ _ _ (by simp; omega)]; omega); (case b3 => intro e; left; omega); (case b4 => exact HL.out); (case b5 => rfl); (case b6 => exact Nat.min_eq_right (by omega)); intro w5 hD5 hB5 hG5; have hS5 := oneG HG.out (Nat.lt_of_lt_of_le H1.out.lt hG3.out.size) hG5.out hS))
  go_wp2_with fail
  go_end0
  have hD6 := hD5.out
  rw [HC.out] at hD6
  exact ⟨rfl, hD6, ((Below.refl _ _).drew.trans hB3.out).trans ((Below.refl _ _).drew.trans hB5.out), gb_trans (gb_trans (gb_drew _ _) hG3.out) (gb_trans (gb_drew _ _) hG5.out)⟩
end Go.Proofs.Ytbgofccnhehodaa
