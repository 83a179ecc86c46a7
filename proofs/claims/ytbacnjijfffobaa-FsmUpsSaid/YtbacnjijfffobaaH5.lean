/- fsm: bytes.Clone; leave, fall, stop. -/
import Derived.Test.YtbacnjijfffobaaH4
namespace Go.Proofs.Ytbacnjijfffobaa
open Go.RowKit

theorem doA (w : World) (g B : Nat) (o : Op) (r : Int) (s : Ph) (l : List Ac) (h : StM w g B o r s l) (k : List Ac) (m c : Nat) (hk : k.length = m) (hm : l.length + m ≤ 1000) (hB : B ≤ w.heap.size) (t : TypeId) :
    Calls Try.prog 23 #[.pointer (some ⟨g, 0, none⟩), .slice (some ⟨w.heap.size, 0, none⟩) m c] (w.alloc (.cells (acells k).toArray t)) fun e w' => e = .returned (.tuple #[]) ∧ StM w' g B o r s (l ++ k) ∧ Below B w w' :=
  (do_any (w.alloc (.cells (acells k).toArray t)) g B o r s l (h.next (newB _ _)) w.heap.size m c k hk (AcsAt.new w t k) hm (by rw [sz_alloc]; omega)).mono fun e w' ⟨he, hS, hb⟩ => ⟨he, hS, ((newB w _).mono hB).trans hb⟩

/-- Bytes of one's own that a call hands back. -/
def RetB (w w' : World) (xs : List Int) (e : Ending) : Prop := ∃ p cap, e = .returned (.slice p xs.length cap) ∧ Own w' w.heap.size p cap xs ∧ Below w.heap.size w w'
theorem clone_any (p : Option Addr) (xs : List Int) (n c : Nat) (w : World) (hb : BytesAt w p xs) (hn : xs.length = n) (hl : n ≤ 1099511627776) :
    Calls Try.prog 27 #[.slice p n c] w fun e w' => RetB w w' xs e := by
  have hq := fun (w : World) => Lib.run_eql_slice_nil (P := Try.prog) w 32 5 p n c 0 0 Try.underlying32
  rcases p with _ | a
  · obtain rfl : xs = [] := hb.2.resolve_right (by rintro ⟨_, _, h, _⟩; cases h)
    clear hb hl
    go_enter Try.func27, Try.ntmps27
    go_wp2
    go_ret
    exact ⟨none, 0, rfl, Own.nil _ _, Below.refl _ _⟩
  · have HB := Lib.hid (hb.alloc (.cells #[] 5))
    have HO := Lib.hid (Own.lit w w.heap.size [] (fun i hi => by simp at hi) (by simp) (Nat.le_refl _))
    have HN := Lib.hid hn
    clear hb hn
    go_enter Try.func27, Try.ntmps27
    go_wp2_with (refine wpList_appo (o := ⟨some 7, _, _, _, _, _⟩) (by rfl) (.tmp 5) (.tmp 6) (by rfl) w.heap.size (some ⟨w.heap.size, 0, none⟩) 0 [] HO.out 0 (by rfl) (by rfl) (some a) n c xs HB.out HN.out (by rfl) n (by omega) (by omega) (by simp) ?_; intro p' cap' w' hO hB hG)
    go_ret
    exact ⟨p', cap', by rw [HN.out]; rfl, hO.out, ((Below.refl _ _).alloc (Nat.le_refl _) _).trans hB.out⟩

/-- A note's block is written: the step stands. -/
theorem StM.setNote {w : World} {g B : Nat} {o : Op} {r : Int} {s : Ph} {l : List Ac} (h : StM w g B o r s l) {X : Nat} {vs : List Value} (hx : Blk w X 34 vs) (hg : g ≠ X) (i : Nat) (v : Value) : StM (w.setCell ⟨X, i, none⟩ v) g B o r s l := by
  obtain ⟨⟨v', hb, hr⟩, hlow⟩ := h
  exact ⟨⟨v', hb.setOther hg v, rowH_past hr hx (by decide) (gb_set w X i v)⟩, hlow⟩
def DidD (w' w : World) (g B : Nat) (o : Op) (r : Int) (R : Dt → Ph × List Ac) (l : List Ac) (e : Ending) : Prop := ∃ d, Did w' w g B o r (R d) l e
/-- The end of leave: from the acts that close on. -/
theorem leave_end (s : Ph) (code sub : Int) (d : Dt) (retry : Int) (l : List Ac) : (l ++ noteL code sub d ++ closeL retry) ++ downL s = l ++ leaveL s code sub d retry := by
  unfold leaveL; simp
theorem close_len (retry : Int) : (closeL retry).length = 4 := rfl
theorem note_len (code sub : Int) (d : Dt) : (noteL code sub d).length ≤ 1 := by unfold noteL; split <;> simp
set_option maxHeartbeats 2000000 in
theorem leave_any (w : World) (g B : Nat) (o : Op) (r : Int) (s : Ph) (l : List Ac) (h : StM w g B o r s l) (hl : l.length ≤ 900) (hB : B ≤ w.heap.size) (code sub : Int) (p : Option Addr) (xs : List Int) (n c : Nat) (hb : BytesAt w p xs) (hn : xs.length = n) (hm : n ≤ 1099511627776) (ph retry : Int) :
    Calls Try.prog 21 #[.pointer (some ⟨g, 0, none⟩), .agg #[.int .i64 code, .int .i64 sub, .slice p n c], .int .i64 ph, .int .i64 retry] w fun e w' => DidD w' w g B o r (fun d => (Ph.at ph, leaveL s code sub d retry)) l e := by
  obtain ⟨X, hX⟩ : ∃ X, w.heap.size = X := ⟨_, rfl⟩
  have hn1 := newB w (.cells #[.int .i64 code, .int .i64 sub, .slice p n c] 34)
  have hx := Blk.new w 34 [.int .i64 code, .int .i64 sub, .slice p n c]
  have HS := Lib.hid (h.next hn1)
  have HT := Lib.hid (hb.below hn1)
  have HN1 := Lib.hid (hn1.mono hB)
  have HN := Lib.hid hn
  have HL := Lib.hid hl
  have HBX := Lib.hid (show B ≤ X by omega)
  have HBW := Lib.hid hB
  have HM := Lib.hid hm
  rw [hX] at hx
  obtain ⟨W1, hW1⟩ : ∃ W1, w.alloc (.cells #[.int .i64 code, .int .i64 sub, .slice p n c] 34) = W1 := ⟨_, rfl⟩
  have HW1 := Lib.hid hW1
  have hx1 : Blk W1 X 34 [.int .i64 code, .int .i64 sub, .slice p n c] := hW1 ▸ hx
  rw [hW1] at HS HT HN1
  have HX := Lib.hid hx1
  have HSX := Lib.hid hX
  have d0 : W1.cell? ⟨X, 0, none⟩ = some (.int .i64 code) := hx1.cell 0 (by simp)
  have d1 : W1.cell? ⟨X, 1, none⟩ = some (.int .i64 sub) := hx1.cell 1 (by simp)
  have d2 : W1.cell? ⟨X, 2, none⟩ = some (.slice p n c) := hx1.cell 2 (by simp)
  have e2 := hx1.f 2
  -- what is done from the acts that close on
  have REST : ∀ (d : Dt) (U : World) (k : List Ac), StM U g B o r s (l ++ k) → k = noteL code sub d → Below B w U → B ≤ U.heap.size →
      Calls Try.prog 23 #[.pointer (some ⟨g, 0, none⟩), .slice (some ⟨U.heap.size, 0, none⟩) 4 4] (U.alloc (.cells #[.int .i64 5, .int .i64 0, .int .i64 0, .int .i64 0, .slice none 0 0, .int .i64 6, .int .i64 0, .int .i64 0, .int .i64 0, .slice none 0 0, .int .i64 7, .int .i64 0, .int .i64 0, .int .i64 0, .slice none 0 0, .int .i64 8, .int .i64 retry, .int .i64 0, .int .i64 0, .slice none 0 0] 44)) fun e w' => e = .returned (.tuple #[]) ∧ StM w' g B o r s (l ++ noteL code sub d ++ closeL retry) ∧ Below B w w' := by
    intro d U k hS hk hb hBU
    subst hk
    have := note_len code sub d
    have hl' := HL.out
    exact (doA U g B o r s _ hS (closeL retry) 4 4 rfl (by simp; omega) hBU _).mono fun e w' ⟨he, h1, h2⟩ => ⟨he, h1, hb.trans h2⟩
  have LAST : ∀ (d : Dt) (U : World), StM U g B o r s (l ++ noteL code sub d ++ closeL retry) → Below B w U →
      Calls Try.prog 23 #[.pointer (some ⟨g, 0, none⟩), .slice (some ⟨U.heap.size, 0, none⟩) 1 1] (U.alloc (.cells #[.int .i64 10, .int .i64 0, .int .i64 0, .int .i64 0, .slice none 0 0] 44)) fun e w' => e = .returned (.tuple #[]) ∧ StM w' g B o r s ((l ++ noteL code sub d ++ closeL retry) ++ [ac 10 0]) ∧ Below B w w' := by
    intro d U hS hb
    have := note_len code sub d
    have hl' := HL.out
    have hb' := HBW.out
    exact (doA U g B o r s _ hS [ac 10 0] 1 1 rfl (by simp [closeL]; omega) (by have := hb.size; omega) _).mono fun e w' ⟨he, h1, h2⟩ => ⟨he, h1, hb.trans h2⟩
  have FIRST : ∀ (d : Dt) (U : World), (code == 0) = false → StM U g B o r s l → Below B w U →
      Calls Try.prog 23 #[.pointer (some ⟨g, 0, none⟩), .slice (some ⟨U.heap.size, 0, none⟩) 1 1] (U.alloc (.cells #[.int .i64 4, .int .i64 0, .int .i64 code, .int .i64 sub, .slice d.p d.len d.cap] 44)) fun e w' => e = .returned (.tuple #[]) ∧ StM w' g B o r s (l ++ noteL code sub d) ∧ Below B w w' := by
    intro d U hc hS hb
    have hc' : code ≠ 0 := by simpa using hc
    have hl' := HL.out
    have hb' := HBW.out
    have hk : noteL code sub d = [noteAc code sub d] := by unfold noteL; rw [if_neg hc']
    rw [hk]
    exact (doA U g B o r s _ hS [noteAc code sub d] 1 1 rfl (by simp; omega) (by have := hb.size; omega) _).mono fun e w' ⟨he, h1, h2⟩ => ⟨he, h1, hb.trans h2⟩
  have HR := Lib.hid REST
  have HLA := Lib.hid LAST
  have HF := Lib.hid FIRST
  have HCL := Lib.hid (fun (U : World) hb' hn' hl' => clone_any p xs n c U hb' hn' hl')
  have HPH := Lib.hid (show downL s = if s.phase = 5 then [ac 10 0] else [] from rfl)
  have HSZ := Lib.hid (show X + 1 = W1.heap.size by rw [← hW1, sz_alloc, hX])
  have HGX := Lib.hid (show g ≠ X by have := h.lt; omega)
  clear h hb hn hl hm hn1 hx hB hX hW1 REST LAST FIRST
  by_cases hc0 : code = 0
  · subst hc0
    clear hx1
    go_enter Try.func21, Try.ntmps21
    go_wp2_with fail
    rw [HW1.out, HSX.out, HSZ.out]
    refine (HR.out ⟨none, 0, 0⟩ W1 _ (by rw [show noteL 0 sub (⟨none, 0, 0⟩ : Dt) = [] from rfl, List.append_nil]; exact HS.out) rfl HN1.out (by have h1 := (HN1.out).size; have h2 := HBW.out; omega)).mono ?_
    rintro e w5 ⟨rfl, hS, hb⟩
    have HS5 := Lib.hid hS
    have HB5 := Lib.hid hb
    obtain ⟨_, _, _, _, _, _, c6, c7, c8, c9, c10⟩ := hS.cells
    have f6 := hS.fz 6
    have f7 := hS.fz 7
    have f8 := hS.fz 8
    have f9 := hS.fz 9
    have f10 := hS.fz 10
    clear hS hb
    by_cases hp : s.phase = 5
    · rw [hp] at c6
      go_wp2_with fail
      refine (HLA.out ⟨none, 0, 0⟩ w5 HS5.out HB5.out).mono ?_
      rintro e w6 ⟨rfl, hS, hb⟩
      have HS6 := Lib.hid hS
      have HB6 := Lib.hid hb
      obtain ⟨_, _, _, _, _, _, c6, c7, c8, c9, c10⟩ := hS.cells
      rw [hp] at c6
      have f6 := hS.fz 6
      have f7 := hS.fz 7
      have f8 := hS.fz 8
      have f9 := hS.fz 9
      have f10 := hS.fz 10
      clear hS hb
      go_wp2_with fail
      exact bodyPost_end (v := .tuple #[]) (by simp [results, Try.results21, go_sem]) rfl ⟨(⟨none, 0, 0⟩ : Dt), rfl, by rw [← leave_end, HPH.out, if_pos hp]; exact HS6.out.state (Ph.at ph), HB6.out.trans (set5_below _ g B HS6.out.low _ _ _ _ _)⟩
    · have hp' : (s.phase == 5) = false := by simpa using hp
      go_wp2_with fail
      exact bodyPost_end (v := .tuple #[]) (by simp [results, Try.results21, go_sem]) rfl ⟨(⟨none, 0, 0⟩ : Dt), rfl, by rw [← leave_end, HPH.out, if_neg hp, List.append_nil]; exact HS5.out.state (Ph.at ph), HB5.out.trans (set5_below _ g B HS5.out.low _ _ _ _ _)⟩
  · have hc' : (code == 0) = false := by simpa using hc0
    go_enter Try.func21, Try.ntmps21
    go_wp2_with fail
    rw [HW1.out, HSX.out]
    refine (HCL.out W1 HT.out HN.out HM.out).mono ?_
    rintro e w2 ⟨p', cap', rfl, hO, hB2⟩
    have HX2 := Lib.hid (HX.out.next hB2)
    have HS2 := Lib.hid (HS.out.next hB2)
    have HB2 := Lib.hid (HN1.out.trans (hB2.mono (by have h1 := HN1.out.size; have h2 := HBW.out; omega)))
    have d0 : w2.cell? ⟨X, 0, none⟩ = some (.int .i64 code) := HX2.out.cell 0 (by simp)
    have d1 : w2.cell? ⟨X, 1, none⟩ = some (.int .i64 sub) := HX2.out.cell 1 (by simp)
    have d2 : w2.cell? ⟨X, 2, none⟩ = some (.slice p n c) := HX2.out.cell 2 (by simp)
    have e2 := HX2.out.f 2
    obtain ⟨D, hD⟩ : ∃ D : Dt, D = ⟨p', xs.length, cap'⟩ := ⟨_, rfl⟩
    clear hB2 hO
    go_wp2_with fail
    have HS2' := Lib.hid (HS2.out.setNote HX2.out HGX.out 2 (.slice p' xs.length cap'))
    have HB2' := Lib.hid (HB2.out.setCell (p := ⟨X, 2, none⟩) HBX.out (.slice p' xs.length cap'))
    have HSU : Hid ((w2.setCell ⟨X, 2, none⟩ (.slice p' xs.length cap')).heap.size = w2.heap.size) := Lib.hid (by simp [World.setCell])
    obtain ⟨U, hU⟩ : ∃ U, w2.setCell ⟨X, 2, none⟩ (.slice p' xs.length cap') = U := ⟨_, rfl⟩
    rw [hU] at HS2' HB2' HSU ⊢
    rw [← HSU.out]
    refine (HF.out ⟨p', xs.length, cap'⟩ U hc' HS2'.out HB2'.out).mono ?_
    rintro e w3 ⟨rfl, hS3, hb3⟩
    have HS3 := Lib.hid hS3
    have HB3 := Lib.hid hb3
    clear hS3 hb3
    go_wp2_with fail
    refine (HR.out ⟨p', xs.length, cap'⟩ w3 _ HS3.out rfl HB3.out (by have h1 := (HB3.out).size; have h2 := HBW.out; omega)).mono ?_
    rintro e w5 ⟨rfl, hS, hb⟩
    have HS5 := Lib.hid hS
    have HB5 := Lib.hid hb
    obtain ⟨_, _, _, _, _, _, c6, c7, c8, c9, c10⟩ := hS.cells
    have f6 := hS.fz 6
    have f7 := hS.fz 7
    have f8 := hS.fz 8
    have f9 := hS.fz 9
    have f10 := hS.fz 10
    clear hS hb
    by_cases hp : s.phase = 5
    · rw [hp] at c6
      go_wp2_with fail
      refine (HLA.out ⟨p', xs.length, cap'⟩ w5 HS5.out HB5.out).mono ?_
      rintro e w6 ⟨rfl, hS, hb⟩
      have HS6 := Lib.hid hS
      have HB6 := Lib.hid hb
      obtain ⟨_, _, _, _, _, _, c6, c7, c8, c9, c10⟩ := hS.cells
      rw [hp] at c6
      have f6 := hS.fz 6
      have f7 := hS.fz 7
      have f8 := hS.fz 8
      have f9 := hS.fz 9
      have f10 := hS.fz 10
      clear hS hb
      go_wp2_with fail
      exact bodyPost_end (v := .tuple #[]) (by simp [results, Try.results21, go_sem]) rfl ⟨⟨p', xs.length, cap'⟩, rfl, by rw [← leave_end, HPH.out, if_pos hp]; exact HS6.out.state (Ph.at ph), HB6.out.trans (set5_below _ g B HS6.out.low _ _ _ _ _)⟩
    · have hp' : (s.phase == 5) = false := by simpa using hp
      go_wp2_with fail
      exact bodyPost_end (v := .tuple #[]) (by simp [results, Try.results21, go_sem]) rfl ⟨⟨p', xs.length, cap'⟩, rfl, by rw [← leave_end, HPH.out, if_neg hp, List.append_nil]; exact HS5.out.state (Ph.at ph), HB5.out.trans (set5_below _ g B HS5.out.low _ _ _ _ _)⟩
end Go.Proofs.Ytbacnjijfffobaa
