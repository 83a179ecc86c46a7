/- note: Check, Same, bytes.Equal; the document's own Check and SameNote. -/
import Derived.Test.YtmeejbkcaghhgaaDoorF1
namespace Go.Proofs.YtmeejbkcaghhgaaDoor
open Go.RowKit

def okN (k s : Int) (n : Nat) : Bool := decide (1 ≤ k) && decide (k ≤ 6) && decide (0 ≤ s) && decide (s ≤ 255) && decide ((n : Int) ≤ 4075)
theorem okN_yes {k s : Int} {n : Nat} (h : okN k s n = true) : 1 ≤ k ∧ k ≤ 6 ∧ 0 ≤ s ∧ s ≤ 255 ∧ n ≤ 4075 := by
  simp [okN] at h; omega
theorem okN_no {k s : Int} {n : Nat} (h : ¬ (1 ≤ k ∧ k ≤ 6 ∧ 0 ≤ s ∧ s ≤ 255 ∧ n ≤ 4075)) : okN k s n = false := by
  rcases hk : okN k s n with _ | _
  · rfl
  · exact absurd (okN_yes hk) h
theorem okN_of {k s : Int} {n : Nat} (h : 1 ≤ k ∧ k ≤ 6 ∧ 0 ≤ s ∧ s ≤ 255 ∧ n ≤ 4075) : okN k s n = true := by
  simp [okN]; omega
def errN (k s : Int) (n : Nat) : Int := if okN k s n then 0 else 80
theorem errN_yes {k s : Int} {n : Nat} (h : okN k s n = true) : errN k s n = 0 := by simp [errN, h]
theorem errN_no {k s : Int} {n : Nat} (h : okN k s n = false) : errN k s n = 80 := by simp [errN, h]

theorem checkN_any (k s : Int) (q : Option Addr) (n c : Nat) (w : World) :
    Calls Tryd.prog 9 #[.agg #[.int .i64 k, .int .i64 s, .slice q n c]] w fun e w' => e = .returned (.int .i64 (errN k s n)) ∧ Below w.heap.size w w' := by
  have HB := Lib.hid ((Below.refl w.heap.size w).alloc (Nat.le_refl _) (.cells #[.int .i64 k, .int .i64 s, .slice q n c] 24))
  by_cases h1 : k < 1
  · have hE := Lib.hid (errN_no (okN_no (k := k) (s := s) (n := n) (by omega)))
    go_enter Tryd.func9, Tryd.ntmps9
    go_wp2
    go_ret
    exact ⟨by rw [hE.out] <;> rfl, HB.out⟩
  by_cases h2 : 6 < k
  · have hE := Lib.hid (errN_no (okN_no (k := k) (s := s) (n := n) (by omega)))
    have t1 : decide (k < 1) = false := decide_eq_false h1
    clear h1
    go_enter Tryd.func9, Tryd.ntmps9
    go_wp2
    go_ret
    exact ⟨by rw [hE.out] <;> rfl, HB.out⟩
  by_cases h3 : s < 0
  · have hE := Lib.hid (errN_no (okN_no (k := k) (s := s) (n := n) (by omega)))
    have t1 : decide (k < 1) = false := decide_eq_false h1
    have t2 : decide (6 < k) = false := decide_eq_false h2
    clear h1 h2
    go_enter Tryd.func9, Tryd.ntmps9
    go_wp2
    go_ret
    exact ⟨by rw [hE.out] <;> rfl, HB.out⟩
  by_cases h4 : 255 < s
  · have hE := Lib.hid (errN_no (okN_no (k := k) (s := s) (n := n) (by omega)))
    have t1 : decide (k < 1) = false := decide_eq_false h1
    have t2 : decide (6 < k) = false := decide_eq_false h2
    have t3 : decide (s < 0) = false := decide_eq_false h3
    clear h1 h2 h3
    go_enter Tryd.func9, Tryd.ntmps9
    go_wp2
    go_ret
    exact ⟨by rw [hE.out] <;> rfl, HB.out⟩
  have t1 : decide (k < 1) = false := decide_eq_false h1
  have t2 : decide (6 < k) = false := decide_eq_false h2
  have t3 : decide (s < 0) = false := decide_eq_false h3
  have t4 : decide (255 < s) = false := decide_eq_false h4
  by_cases h5 : (4075 : Int) < n
  · have hE := Lib.hid (errN_no (okN_no (k := k) (s := s) (n := n) (by omega)))
    clear h1 h2 h3 h4
    go_enter Tryd.func9, Tryd.ntmps9
    go_wp2
    go_ret
    exact ⟨by rw [hE.out] <;> rfl, HB.out⟩
  · have hE := Lib.hid (errN_yes (okN_of (k := k) (s := s) (n := n) (by omega)))
    have t5 : decide ((4075 : Int) < n) = false := decide_eq_false h5
    clear h1 h2 h3 h4 h5
    go_enter Tryd.func9, Tryd.ntmps9
    go_wp2
    go_ret
    exact ⟨by rw [hE.out] <;> rfl, HB.out⟩

theorem rcheckN_any (k s : Int) (q : Option Addr) (n c : Nat) (w : World) :
    Calls Tryd.prog 8 #[.agg #[.int .i64 k, .int .i64 s, .slice q n c]] w fun e w' => e = .returned (.bool (okN k s n)) ∧ Below w.heap.size w w' := by
  have HB := Lib.hid ((Below.refl w.heap.size w).alloc (Nat.le_refl _) (.cells #[.int .i64 k, .int .i64 s, .slice q n c] 24))
  by_cases h1 : 1 ≤ k
  · by_cases h2 : k ≤ 6
    · by_cases h3 : 0 ≤ s
      · by_cases h4 : s ≤ 255
        · have e : okN k s n = decide ((n : Int) ≤ 4075) := by simp [okN, h1, h2, h3, h4]
          have hE := Lib.hid e
          clear e
          go_enter Tryd.func8, Tryd.ntmps8
          go_wp2
          go_ret
          exact ⟨by rw [hE.out] <;> rfl, HB.out⟩
        · have hE := Lib.hid (okN_no (k := k) (s := s) (n := n) (by omega))
          have t4 : decide (s ≤ 255) = false := decide_eq_false h4
          clear h4
          go_enter Tryd.func8, Tryd.ntmps8
          go_wp2
          go_ret
          exact ⟨by rw [hE.out] <;> rfl, HB.out⟩
      · have hE := Lib.hid (okN_no (k := k) (s := s) (n := n) (by omega))
        have t4 : decide (0 ≤ s) = false := decide_eq_false h3
        clear h3
        go_enter Tryd.func8, Tryd.ntmps8
        go_wp2
        go_ret
        exact ⟨by rw [hE.out] <;> rfl, HB.out⟩
    · have hE := Lib.hid (okN_no (k := k) (s := s) (n := n) (by omega))
      have t4 : decide (k ≤ 6) = false := decide_eq_false h2
      clear h2
      go_enter Tryd.func8, Tryd.ntmps8
      go_wp2
      go_ret
      exact ⟨by rw [hE.out] <;> rfl, HB.out⟩
  · have hE := Lib.hid (okN_no (k := k) (s := s) (n := n) (by omega))
    have t4 : decide (1 ≤ k) = false := decide_eq_false h1
    clear h1
    go_enter Tryd.func8, Tryd.ntmps8
    go_wp2
    go_ret
    exact ⟨by rw [hE.out] <;> rfl, HB.out⟩

/-- Whether two notes are the same. -/
def sameN (k s : Int) (xs : List Int) (k' s' : Int) (ys : List Int) : Bool := (k == k') && (s == s') && ((strOfNums xs).toList == (strOfNums ys).toList)

theorem bytesEqual_any (p : Option Addr) (xs : List Int) (n c : Nat) (q : Option Addr) (ys : List Int) (m d : Nat) (w : World) (hp : BytesAt w p xs) (hq : BytesAt w q ys) (hn : xs.length = n) (hm : ys.length = m) :
    Calls Tryd.prog 23 #[.slice p n c, .slice q m d] w fun e w' => e = .returned (.bool ((strOfNums xs).toList == (strOfNums ys).toList)) ∧ w' = w := by
  have C1 := run_text hp c
  have C2 := run_text hq d
  rw [hn] at C1
  rw [hm] at C2
  clear hp hq hn hm
  obtain ⟨S, hS⟩ : ∃ S, strOfNums xs = S := ⟨_, rfl⟩
  obtain ⟨T, hT⟩ : ∃ T, strOfNums ys = T := ⟨_, rfl⟩
  rw [hS] at C1 ⊢
  rw [hT] at C2 ⊢
  clear hS hT
  go_enter Tryd.func23, Tryd.ntmps23
  go_wp2
  go_ret
  exact ⟨rfl, rfl⟩
end Go.Proofs.YtmeejbkcaghhgaaDoor
