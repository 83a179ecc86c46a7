/- The document's set, of any type that is known; its Get: what is seen. -/
import Derived.Test.YtcabiodgmhcdlaaDoorBb
namespace Go.Proofs.YtcabiodgmhcdlaaDoor
open Go.RowKit

theorem rset_any (B g : Nat) (a : At) (l : Loc) (Bp k : Nat) (p : Option Addr) (xs : List Int) (n c : Nat) (four : Bool) (w : World) (hh : RAt w B g a l) (hBw : B ≤ w.heap.size) (hy : Own w Bp p c xs) (hn : xs.length = n) (hl : n ≤ 1000000) (hk : k = 1 ∨ k = 2 ∨ k = 3 ∨ k = 4 ∨ k = 5 ∨ k = 8) :
    Calls Tryd.prog 42 #[.pointer (some ⟨g, 0, none⟩), .int .i64 k, .slice p n c, .bool four] w fun e w' => RSetTo w w' B g (readV four a k xs) e := by
  have no : ∀ {e : Ending} {w' : World}, e = .returned (.bool false) ∧ w = w' → RSetTo w w' B g none e := fun h => ⟨h.1, by rw [← h.2]; exact gb_self _ _⟩
  rcases hk with rfl | rfl | rfl | rfl | rfl | rfl
  · by_cases h1 : n = 1
    · subst h1
      obtain ⟨x, rfl⟩ : ∃ x, xs = [x] := by
        rcases xs with _ | ⟨x, _ | ⟨y, t⟩⟩
        · simp at hn
        · exact ⟨x, rfl⟩
        · simp at hn
      have hbd := hy.byte 0 (by simp)
      simp at hbd
      have hgx : getV [x] = x := by simp [getV]
      have hcell : ∃ b off, p = some ⟨b, off, none⟩ ∧ w.cell? ⟨b, off, none⟩ = some (.int .u8 x) := by
        rcases hy.bytes.2 with h | ⟨b, off, hp, hc⟩
        · cases h
        · exact ⟨b, off, hp, by simpa using hc 0 (by simp)⟩
      obtain ⟨b, off, rfl, hx⟩ := hcell
      by_cases h2 : 2 < x
      · rw [show readV four a 1 [x] = none from (readV_1 four a [x]).trans <| if_neg (fun h => by rw [hgx] at h; have := oddB_no h.2; omega)]
        exact (rset1_odd g b off c x four w hx h2 hbd.2).mono fun _ _ h => no h
      · rw [show readV four a 1 [x] = some { a with origin := x } from (readV_1 four a [x]).trans <| by rw [if_pos ⟨rfl, by rw [hgx]; simp [oddB]; omega⟩, hgx]]
        exact rset1_ok B g a l b off c x four w hh hx hbd.1 (by omega)
    · rw [show readV four a 1 xs = none from (readV_1 four a xs).trans <| if_neg (fun h => by omega)]
      exact (rset1_no g p n c four w h1).mono fun _ _ h => no h
  · exact rset2_any B g a l Bp p xs n c four w hh hBw hy hn hl
  · by_cases h1 : n = 4
    · subst h1
      by_cases h2 : getV xs = 0
      · rw [show readV four a 3 xs = none from (readV_3 four a xs).trans <| if_neg (fun h => h.2 h2)]
        exact rset3_zero B g a l p xs c four w hh hy.bytes hn h2
      · rw [show readV four a 3 xs = some { a with next := getV xs } from (readV_3 four a xs).trans <| if_pos ⟨hn, h2⟩]
        exact rset3_ok B g a l p xs c four w hh hy.bytes hn h2
    · rw [show readV four a 3 xs = none from (readV_3 four a xs).trans <| if_neg (fun h => by omega)]
      exact (rset3_no g p n c four w h1).mono fun _ _ h => no h
  · by_cases h1 : n = 4
    · subst h1
      rw [show readV four a 4 xs = some { a with med := getV xs } from (readV_4 four a xs).trans <| if_pos hn]
      exact rset4_ok B g a l p xs c four w hh hy.bytes hn
    · rw [show readV four a 4 xs = none from (readV_4 four a xs).trans <| if_neg (fun h => by omega)]
      exact (rset4_no g p n c four w h1).mono fun _ _ h => no h
  · by_cases h1 : n = 4
    · subst h1
      rw [show readV four a 5 xs = some { a with pref := getV xs } from (readV_5 four a xs).trans <| if_pos hn]
      exact rset5_ok B g a l p xs c four w hh hy.bytes hn
    · rw [show readV four a 5 xs = none from (readV_5 four a xs).trans <| if_neg (fun h => by omega)]
      exact (rset5_no g p n c four w h1).mono fun _ _ h => no h
  · exact rset8_any B g a l Bp p xs n c four w hh hBw hy hn hl

/-- The types that were there: a row of truths, as the bits tell. -/
theorem base_div : ∀ f : Int, 0 ≤ f → f ≤ 255 → baseV f = f / 32 * 32 := by
  intro f h0 h1
  obtain ⟨n, rfl⟩ := Int.eq_ofNat_of_zero_le h0
  have hn : n < 256 := by omega
  have key : ∀ m : Fin 256, baseV (m.val : Int) = (m.val : Int) / 32 * 32 := by decide +kernel
  exact key ⟨n, hn⟩
theorem wide_div : ∀ f : Int, 0 ≤ f → f ≤ 255 → ((wideOf f : Nat) : Int) = 1 + f / 16 % 2 := by
  intro f h0 h1
  obtain ⟨n, rfl⟩ := Int.eq_ofNat_of_zero_le h0
  have hn : n < 256 := by omega
  have key : ∀ m : Fin 256, ((wideOf (m.val : Int) : Nat) : Int) = 1 + (m.val : Int) / 16 % 2 := by decide +kernel
  exact key ⟨n, hn⟩
theorem opt_ge : ∀ f : Int, 0 ≤ f → f ≤ 255 → optB f = !decide (f < 128) := by
  intro f h0 h1
  obtain ⟨n, rfl⟩ := Int.eq_ofNat_of_zero_le h0
  have hn : n < 256 := by omega
  have key : ∀ m : Fin 256, optB (m.val : Int) = !decide ((m.val : Int) < 128) := by decide +kernel
  exact key ⟨n, hn⟩
theorem seen_set : ∀ th ∈ allTh, ∀ k ∈ [1, 2, 3, 4, 5, 8], ∀ j ∈ List.range 9, seenB (setT th k) j = (j == k || seenB th j) := by decide +kernel
theorem whole_seen : ∀ th ∈ allTh, wholeB th = (seenB th 1 && (seenB th 2 && seenB th 3)) := by decide +kernel
end Go.Proofs.YtcabiodgmhcdlaaDoor
