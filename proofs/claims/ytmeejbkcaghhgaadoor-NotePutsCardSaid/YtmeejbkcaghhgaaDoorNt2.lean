/- note: Same; the document's own SameNote. -/
import Derived.Test.YtmeejbkcaghhgaaDoorNt1
namespace Go.Proofs.YtmeejbkcaghhgaaDoor
open Go.RowKit

theorem sameN_any (k s : Int) (p : Option Addr) (xs : List Int) (n c : Nat) (k' s' : Int) (q : Option Addr) (ys : List Int) (m d : Nat) (w : World) (hp : BytesAt w p xs) (hq : BytesAt w q ys) (hn : xs.length = n) (hm : ys.length = m) :
    Calls Tryd.prog 17 #[.agg #[.int .i64 k, .int .i64 s, .slice p n c], .agg #[.int .i64 k', .int .i64 s', .slice q m d]] w fun e w' => e = .returned (.bool (sameN k s xs k' s' ys)) ∧ Below w.heap.size w w' := by
  have b1 := two_below w (.cells #[.int .i64 k, .int .i64 s, .slice p n c] 24) (.cells #[.int .i64 k', .int .i64 s', .slice q m d] 24)
  have HQ := Lib.hid (bytesEqual_any p xs n c q ys m d _ (hp.below b1) (hq.below b1) hn hm)
  have HB := Lib.hid b1
  clear hp hq hn hm b1
  by_cases h1 : (k == k') = true
  · by_cases h2 : (s == s') = true
    · have hE : sameN k s xs k' s' ys = ((strOfNums xs).toList == (strOfNums ys).toList) := by unfold sameN; rw [h1, h2]; rfl
      have HE := Lib.hid hE
      clear hE
      go_enter Tryd.func17, Tryd.ntmps17
      go_wp2_with (go_at_call 23; refine HQ.out.mono ?_; rintro e w' ⟨rfl, rfl⟩)
      go_ret
      exact ⟨by rw [HE.out] <;> rfl, HB.out⟩
    · have t2 : (s == s') = false := by simpa using h2
      have hE : sameN k s xs k' s' ys = false := by unfold sameN; rw [h1, t2]; rfl
      have HE := Lib.hid hE
      clear hE h2
      go_enter Tryd.func17, Tryd.ntmps17
      go_wp2_with (go_at_call 23; refine HQ.out.mono ?_; rintro e w' ⟨rfl, rfl⟩)
      go_ret
      exact ⟨by rw [HE.out] <;> rfl, HB.out⟩
  · have t1 : (k == k') = false := by simpa using h1
    have hE : sameN k s xs k' s' ys = false := by unfold sameN; rw [t1]; rfl
    have HE := Lib.hid hE
    clear hE h1
    go_enter Tryd.func17, Tryd.ntmps17
    go_wp2_with (go_at_call 23; refine HQ.out.mono ?_; rintro e w' ⟨rfl, rfl⟩)
    go_ret
    exact ⟨by rw [HE.out] <;> rfl, HB.out⟩

theorem rsameN_any (k s : Int) (p : Option Addr) (xs : List Int) (n c : Nat) (k' s' : Int) (q : Option Addr) (ys : List Int) (m d : Nat) (w : World) (hp : BytesAt w p xs) (hq : BytesAt w q ys) (hn : xs.length = n) (hm : ys.length = m) :
    Calls Tryd.prog 14 #[.agg #[.int .i64 k, .int .i64 s, .slice p n c], .agg #[.int .i64 k', .int .i64 s', .slice q m d]] w fun e w' => e = .returned (.bool (sameN k s xs k' s' ys)) ∧ Below w.heap.size w w' := by
  have b1 := two_below w (.cells #[.int .i64 k, .int .i64 s, .slice p n c] 24) (.cells #[.int .i64 k', .int .i64 s', .slice q m d] 24)
  have C1 := run_text (hp.below b1) c
  have C2 := run_text (hq.below b1) d
  rw [hn] at C1
  rw [hm] at C2
  have HB := Lib.hid b1
  clear hp hq hn hm b1
  obtain ⟨R, hR⟩ : ∃ R, sameN k s xs k' s' ys = R := ⟨_, rfl⟩
  rw [hR]
  unfold sameN at hR
  obtain ⟨S, hS⟩ : ∃ S, strOfNums xs = S := ⟨_, rfl⟩
  obtain ⟨T, hT⟩ : ∃ T, strOfNums ys = T := ⟨_, rfl⟩
  rw [hS] at C1 hR
  rw [hT] at C2 hR
  clear hS hT
  by_cases h1 : (k == k') = true
  · by_cases h2 : (s == s') = true
    · rw [h1, h2] at hR
      have HE := Lib.hid hR
      clear hR
      go_enter Tryd.func14, Tryd.ntmps14
      go_wp2
      go_ret
      exact ⟨by rw [← HE.out] <;> rfl, HB.out⟩
    · have t2 : (s == s') = false := by simpa using h2
      rw [h1, t2] at hR
      have HE := Lib.hid hR
      clear hR h2
      go_enter Tryd.func14, Tryd.ntmps14
      go_wp2
      go_ret
      exact ⟨by rw [← HE.out] <;> rfl, HB.out⟩
  · have t1 : (k == k') = false := by simpa using h1
    rw [t1] at hR
    have HE := Lib.hid hR
    clear hR h1
    go_enter Tryd.func14, Tryd.ntmps14
    go_wp2
    go_ret
    exact ⟨by rw [← HE.out] <;> rfl, HB.out⟩
end Go.Proofs.YtmeejbkcaghhgaaDoor
