/- The document's own Head, and whether two notes are the same; 'FrameHeads'. -/
import Derived.Test.YtondoljehdhocaaDoorF10
import Derived.Test.YtondoljehdhocaaDoorKH
import Derived.Deep.RegionHeld
import Derived.StillTailTactics
namespace Go.Proofs.YtondoljehdhocaaDoor
open Go.RowKit

theorem rsameN_yes (code sub : Int) (p : Option Addr) (xs : List Int) (n c : Nat) (q : Option Addr) (c' : Nat) (w : World) (hp : BytesAt w p xs) (hq : BytesAt w q xs) (hn : xs.length = n) :
    Calls Tryd.prog 15 #[.agg #[.int .i64 code, .int .i64 sub, .slice p n c], .agg #[.int .i64 code, .int .i64 sub, .slice q n c']] w fun e w' => e = .returned (.bool true) ∧ Below w.heap.size w w' := by
  have b1 := two_below w (.cells #[.int .i64 code, .int .i64 sub, .slice p n c] 33) (.cells #[.int .i64 code, .int .i64 sub, .slice q n c'] 33)
  have C1 := run_text (hp.below b1) c
  have C2 := run_text (hq.below b1) c'
  rw [hn] at C1 C2
  have HB := Lib.hid b1
  clear hp hq hn b1
  go_enter Tryd.func15, Tryd.ntmps15
  go_wp2
  go_ret
  exact ⟨rfl, HB.out⟩

theorem rhead_short (q : Option Addr) (n c : Nat) (w : World) (hn : n < 19) :
    Calls Tryd.prog 14 #[.slice q n c] w fun e w' => RetH w w' 0 0 0 0 [] e := by
  have HX := Lib.hid (Blk.new w 33 [.int .i64 0, .int .i64 0, .slice none 0 0])
  have c0 := HX.out.cell 0 (by simp)
  have c1 := HX.out.cell 1 (by simp)
  have c2 := HX.out.cell 2 (by simp)
  go_enter Tryd.func14, Tryd.ntmps14
  go_wp2_with fail
  exact bodyPost_ret (v := .tuple #[.int .i64 0, .int .i64 0, .agg #[.int .i64 0, .int .i64 0, .slice none 0 0]]) (by simp [results, Tryd.results14, go_sem, c0, c1, c2]) rfl ⟨none, 0, rfl, Own.nil _ _, (Below.refl _ _).alloc (Nat.le_refl _) _⟩

theorem rhead_marks (b off : Nat) (xs : List Int) (n c : Nat) (w : World) (hb : BytesAt w (some ⟨b, off, none⟩) xs) (hn : xs.length = n) (h19 : 19 ≤ n) (hm : marksB xs = false) :
    Calls Tryd.prog 14 #[.slice (some ⟨b, off, none⟩) n c] w fun e w' => RetH w w' 0 0 1 1 [] e := by
  have HX := Lib.hid (Blk.new w 33 [.int .i64 0, .int .i64 0, .slice none 0 0])
  have hb2 := hb.alloc (.cells #[.int .i64 0, .int .i64 0, .slice none 0 0] 33)
  obtain ⟨hx, hcl⟩ := hb2
  obtain ⟨b', off', he, hcl⟩ := hcl.resolve_left (by rintro rfl; simp at hn; omega)
  obtain ⟨rfl, rfl⟩ : b = b' ∧ off = off' := by simpa using he
  have HC := Lib.hid hcl
  have HM := Lib.hid (marksB_no hm)
  have HN := Lib.hid hn
  clear hb hm he hcl hx hn
  have t1 : decide ((n : Int) < 19) = false := by simp; omega
  go_enter Tryd.func14, Tryd.ntmps14
  go_wp2_with fail
  clear t1
  go_loop [5] (fun i => ∃ j : Nat, j ≤ 16 ∧ i = .int .i64 j ∧ ∀ m, m < j → xs.getD m 0 = 255) (fun i => 16 - (intOf i).toNat)
  case atStart => exact ⟨0, by omega, rfl, fun m hm => by omega⟩
  case round =>
    obtain ⟨j, hj, rfl, hall⟩ := hrel
    have HALL := Lib.hid hall
    clear hall
    by_cases hlt : j < 16
    · have cj := HC.out j (by have := HN.out; omega)
      have hjn : (j : Int) < (n : Int) := by omega
      rcases hx : (xs.getD j 0 != 255) with _ | _
      · have hxe : xs.getD j 0 = 255 := by simpa using hx
        have HJ := Lib.hid (show ∀ m, m < j + 1 → xs.getD m 0 = 255 from fun m hm => by
          rcases Nat.lt_or_ge m j with h | h
          · exact HALL.out m h
          · obtain rfl : m = j := by omega
            exact hxe)
        clear hxe
        generalize xs.getD j 0 = x at *
        go_wp2_with fail
        go_round
        case rel => exact ⟨j + 1, by omega, by go_num, HJ.out⟩
        case measure => simp [intOf]; omega
      · generalize xs.getD j 0 = x at *
        have c0 := HX.out.cell 0 (by simp)
        have c1 := HX.out.cell 1 (by simp)
        have c2 := HX.out.cell 2 (by simp)
        go_wp2_with fail
        exact bodyPost_ret (v := .tuple #[.int .i64 0, .int .i64 0, .agg #[.int .i64 1, .int .i64 1, .slice none 0 0]]) (by simp [results, Tryd.results14, go_sem]) rfl ⟨none, 0, rfl, Own.nil _ _, by repeat (first | exact Below.refl _ _ | (refine Below.setCell ?_ (by simp) _) | (refine Below.alloc ?_ (by simp) _))⟩
    · obtain rfl : j = 16 := by omega
      exact absurd HALL.out HM.out
end Go.Proofs.YtondoljehdhocaaDoor
