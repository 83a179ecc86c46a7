/- frame: its table, types, lengths; Check; a copy of bytes; the note of a head. -/
import Derived.Test.YtmeejbkcaghhgaaDoorBy
namespace Go.Proofs.YtmeejbkcaghhgaaDoor
open Go.RowKit

def leastL : List Int := [0, 10, 4, 2, 0]
/-- The table as its initialiser lays it. -/
def Tab (w : World) : Prop := ∀ i, i < 5 → w.cell? ⟨1, i, none⟩ = some (.int .i64 (leastL.getD i 0))
theorem Tab.below {w w' : World} (h : Tab w) (hb : Below w.heap.size w w') : Tab w' := fun i hi =>
  (hb.cell (p := ⟨1, i, none⟩) (World.block_lt_of_cell? w _ (h i hi))).trans (h i hi)

def knownB (k : Int) : Bool := decide (1 ≤ k) && decide (k ≤ 4)
theorem knownB_yes {k : Int} (h : knownB k = true) : 1 ≤ k ∧ k ≤ 4 := by simpa [knownB] using h
theorem known_any (k : Int) (w : World) :
    Calls Tryd.prog 20 #[.int .i64 k] w fun e w' => e = .returned (.bool (knownB k)) ∧ w = w' := by
  by_cases h1 : 1 ≤ k
  · go_enter Tryd.func20, Tryd.ntmps20
    go_wp2
    go_ret
    exact ⟨ret_bool (by simp [knownB, h1]), rfl⟩
  · go_enter Tryd.func20, Tryd.ntmps20
    go_wp2
    go_ret
    exact ⟨ret_bool (by unfold knownB; rw [decide_eq_false (by omega)]; rfl), rfl⟩

def fitsM (k size : Int) : Bool := if k = 4 then size == 0 else decide (leastL.getD k.toNat 0 ≤ size) && decide (size ≤ 4077)
theorem fitsM_any (k size : Int) (w : World) (ht : Tab w) (hk : knownB k = true) :
    Calls Tryd.prog 21 #[.int .i64 k, .int .i64 size] w fun e w' => e = .returned (.bool (fitsM k size)) ∧ w = w' := by
  obtain ⟨k1, k4⟩ := knownB_yes hk
  have hc : k = 1 ∨ k = 2 ∨ k = 3 ∨ k = 4 := by omega
  clear hk k1 k4
  rcases hc with rfl | rfl | rfl | rfl
  · have c1 := ht 1 (by omega)
    clear ht
    by_cases h1 : 10 ≤ size
    · go_enter Tryd.func21, Tryd.ntmps21
      go_wp2
      go_ret
      exact ⟨ret_bool (by simp [fitsM, leastL, h1]), rfl⟩
    · go_enter Tryd.func21, Tryd.ntmps21
      go_wp2
      go_ret
      exact ⟨ret_bool (by simp [fitsM, leastL]; omega), rfl⟩
  · have c1 := ht 2 (by omega)
    clear ht
    by_cases h1 : 4 ≤ size
    · go_enter Tryd.func21, Tryd.ntmps21
      go_wp2
      go_ret
      exact ⟨ret_bool (by simp [fitsM, leastL, h1]), rfl⟩
    · go_enter Tryd.func21, Tryd.ntmps21
      go_wp2
      go_ret
      exact ⟨ret_bool (by simp [fitsM, leastL]; omega), rfl⟩
  · have c1 := ht 3 (by omega)
    clear ht
    by_cases h1 : 2 ≤ size
    · go_enter Tryd.func21, Tryd.ntmps21
      go_wp2
      go_ret
      exact ⟨ret_bool (by simp [fitsM, leastL, h1]), rfl⟩
    · go_enter Tryd.func21, Tryd.ntmps21
      go_wp2
      go_ret
      exact ⟨ret_bool (by simp [fitsM, leastL]; omega), rfl⟩
  · clear ht
    go_enter Tryd.func21, Tryd.ntmps21
    go_wp2
    go_ret
    exact ⟨rfl, rfl⟩

def okM (k size : Int) : Bool := knownB k && fitsM k size
def errM (k size : Int) : Int := if okM k size then 0 else 30
theorem checkM_any (k : Int) (q : Option Addr) (n c : Nat) (w : World) (ht : Tab w) (_ : n ≤ 1099511627776) :
    Calls Tryd.prog 13 #[.agg #[.int .i64 k, .slice q n c]] w fun e w' => e = .returned (.int .i64 (errM k n)) ∧ Below w.heap.size w w' := by
  have hb := (Below.refl w.heap.size w).alloc (Nat.le_refl _) (.cells #[.int .i64 k, .slice q n c] 27)
  have ht' := ht.below hb
  have HB := Lib.hid hb
  rcases hk : knownB k with _ | _
  · have hE := Lib.hid (show errM k n = 30 by simp [errM, okM, hk])
    clear hb ht ht'
    go_enter Tryd.func13, Tryd.ntmps13
    go_wp2_with (go_at_call 20; refine (known_any _ _).mono ?_; rintro e w' ⟨rfl, rfl⟩)
    go_ret
    exact ⟨by rw [hE.out]; rfl, HB.out⟩
  · have HT := Lib.hid ht'
    have HK := Lib.hid hk
    rcases hf : fitsM k n with _ | _
    · have hE := Lib.hid (show errM k n = 30 by simp [errM, okM, hk, hf])
      clear hb ht ht'
      go_enter Tryd.func13, Tryd.ntmps13
      go_wp2_with (first | (go_at_call 20; refine (known_any _ _).mono ?_; rintro e w' ⟨rfl, rfl⟩) | (go_at_call 21; refine (fitsM_any _ _ _ HT.out HK.out).mono ?_; rintro e w' ⟨rfl, rfl⟩))
      go_ret
      exact ⟨by rw [hE.out]; rfl, HB.out⟩
    · have hE := Lib.hid (show errM k n = 0 by simp [errM, okM, hk, hf])
      clear hb ht ht'
      go_enter Tryd.func13, Tryd.ntmps13
      go_wp2_with (first | (go_at_call 20; refine (known_any _ _).mono ?_; rintro e w' ⟨rfl, rfl⟩) | (go_at_call 21; refine (fitsM_any _ _ _ HT.out HK.out).mono ?_; rintro e w' ⟨rfl, rfl⟩))
      go_ret
      exact ⟨by rw [hE.out]; rfl, HB.out⟩

/-- Bytes of one's own that a call hands back. -/
def RetB (w w' : World) (xs : List Int) (e : Ending) : Prop := ∃ p cap, e = .returned (.slice p xs.length cap) ∧ Own w' w.heap.size p cap xs ∧ Below w.heap.size w w'

theorem clone_any (p : Option Addr) (xs : List Int) (n c : Nat) (w : World) (hb : BytesAt w p xs) (hn : xs.length = n) (hl : n ≤ 1099511627776) :
    Calls Tryd.prog 19 #[.slice p n c] w fun e w' => RetB w w' xs e := by
  have hq := fun (w : World) => Lib.run_eql_slice_nil (P := Tryd.prog) w 22 5 p n c 0 0 Tryd.underlying22
  rcases p with _ | a
  · obtain rfl : xs = [] := hb.2.resolve_right (by rintro ⟨_, _, h, _⟩; cases h)
    clear hb hl
    go_enter Tryd.func19, Tryd.ntmps19
    go_wp2
    go_ret
    exact ⟨none, 0, rfl, Own.nil _ _, Below.refl _ _⟩
  · have HB := Lib.hid (hb.alloc (.cells #[] 5))
    have HO := Lib.hid (Own.lit w w.heap.size [] (fun i hi => by simp at hi) (by simp) (Nat.le_refl _))
    have HN := Lib.hid hn
    clear hb hn
    go_enter Tryd.func19, Tryd.ntmps19
    go_wp2_with (refine wpList_appo (o := ⟨some 7, _, _, _, _, _⟩) (by rfl) (.tmp 5) (.tmp 6) (by rfl) w.heap.size (some ⟨w.heap.size, 0, none⟩) 0 [] HO.out 0 (by rfl) (by rfl) (some a) n c xs HB.out HN.out (by rfl) n (by omega) (by omega) (by simp) ?_; intro p' cap' w' hO hB hG)
    go_ret
    exact ⟨p', cap', by rw [HN.out]; rfl, hO.out, ((Below.refl _ _).alloc (Nat.le_refl _) _).trans hB.out⟩

/-- A note that a call hands back, with bytes of its own. -/
def RetN (w w' : World) (code sub : Int) (xs : List Int) (e : Ending) : Prop := ∃ p cap, e = .returned (.agg #[.int .i64 code, .int .i64 sub, .slice p xs.length cap]) ∧ Own w' w.heap.size p cap xs ∧ Below w.heap.size w w'
end Go.Proofs.YtmeejbkcaghhgaaDoor
