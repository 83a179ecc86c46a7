/- The contract of strings.Cut at a separator of one byte. -/
import Derived.Test.YtpmdmkemlbpnjaaDoorNumber
import Derived.Test.YtpmdmkemlbpnjaaDoorShelf
import Derived.Lib.IndexBytes
namespace Go.Proofs.YtpmdmkemlbpnjaaDoor
open Go.RowKit

/-- What stands ahead of the first c, what behind it, and whether there is one. -/
def cutL (c : UInt8) : List UInt8 → List UInt8 × List UInt8 × Bool
  | [] => ([], [], false)
  | b :: l => if b = c then ([], l, true) else (b :: (cutL c l).1, (cutL c l).2.1, (cutL c l).2.2)

theorem cut_none (c : UInt8) : ∀ l : List UInt8, Lib.indexByte l c = -1 → cutL c l = (l, [], false)
  | [], _ => rfl
  | b :: l, h => by
    unfold Lib.indexByte at h
    have hg := Lib.indexByte_ge l c
    by_cases hb : b = c
    · subst hb; simp at h
    · rw [if_neg (by simpa using hb)] at h
      have h' : Lib.indexByte l c = -1 := by
        by_cases h1 : Lib.indexByte l c = -1
        · exact h1
        · rw [if_neg (by simpa using h1)] at h; omega
      unfold cutL
      rw [if_neg hb, cut_none c l h']
theorem cut_some (c : UInt8) : ∀ (l : List UInt8) (k : Nat), Lib.indexByte l c = k → k < l.length ∧ cutL c l = (l.take k, l.drop (k + 1), true)
  | [], k, h => by simp [Lib.indexByte] at h
  | b :: l, k, h => by
    unfold Lib.indexByte at h
    have hg := Lib.indexByte_ge l c
    by_cases hb : b = c
    · subst hb
      rw [if_pos (by simp)] at h
      obtain rfl : k = 0 := by omega
      unfold cutL
      rw [if_pos rfl]
      exact ⟨by simp, rfl⟩
    · rw [if_neg (by simpa using hb)] at h
      by_cases h1 : Lib.indexByte l c = -1
      · rw [if_pos (by simpa using h1)] at h; omega
      · rw [if_neg (by simpa using h1)] at h
        obtain ⟨j, rfl⟩ : ∃ j, k = j + 1 := ⟨k - 1, by omega⟩
        have ⟨h2, h3⟩ := cut_some c l j (by omega)
        unfold cutL
        rw [if_neg hb, h3]
        exact ⟨by simp; omega, rfl⟩

def CutPost (s : ByteArray) (c : UInt8) (e : Ending) : Prop :=
  ∃ s1 s2 : ByteArray, e = .returned (.tuple #[.string s1, .string s2, .bool (cutL c s.data.toList).2.2]) ∧ s1.data.toList = (cutL c s.data.toList).1 ∧ s2.data.toList = (cutL c s.data.toList).2.1

theorem cutPost_none {s : ByteArray} {c : UInt8} (h : Lib.indexByte s.data.toList c = -1) : CutPost s c (.returned (.tuple #[.string s, .string ⟨#[]⟩, .bool false])) := by
  have := cut_none c _ h
  exact ⟨s, ⟨#[]⟩, by rw [this], by rw [this], by rw [this]⟩
theorem cutPost_some {s : ByteArray} {c : UInt8} {k : Nat} (h : Lib.indexByte s.data.toList c = k) : CutPost s c (.returned (.tuple #[.string (s.extract 0 k), .string (s.extract (k + 1) s.size), .bool true])) := by
  have ⟨h1, h2⟩ := cut_some c _ _ h
  exact ⟨_, _, by rw [h2], by rw [h2, Lib.extract_data]; rfl, by rw [h2, Lib.extract_to_end]⟩

/-- Only draws of open orders are behind the world. -/
def Drew (w w' : World) : Prop := ∃ n, w' = w.drewN n

theorem cut_in (s : ByteArray) (c : UInt8) (w : World) (hs : s.size ≤ 9223372036854775807) :
    Calls Tryd.prog 29 #[.string s, .string ⟨#[c]⟩] w fun e w' => CutPost s c e ∧ Drew w w' := by
  have hi := Tryd.stringslite_Index_one s c w
  have hge := Lib.indexByte_ge s.data.toList c
  by_cases h : Lib.indexByte s.data.toList c = -1
  · have HP := Lib.hid (cutPost_none h)
    rw [h] at hi
    have HI := Lib.hid hi
    clear hi hge h
    go_enter Tryd.func29, Tryd.ntmps29
    go_wp2_with fail
    refine HI.out.mono ?_; rintro e w' ⟨rfl, rfl⟩
    go_wp2_with fail
    go_ret3
    exact ⟨HP.out, 0, rfl⟩
  · obtain ⟨k, hk⟩ : ∃ k : Nat, Lib.indexByte s.data.toList c = k := ⟨_, (Int.toNat_of_nonneg (by omega)).symm⟩
    have hkl := (cut_some c _ _ hk).1
    rw [data_len] at hkl
    have HP := Lib.hid (cutPost_some hk)
    rw [hk] at hi
    have HI := Lib.hid hi
    clear hi hge h hk
    go_enter Tryd.func29, Tryd.ntmps29
    go_wp2_with fail
    refine HI.out.mono ?_; rintro e w' ⟨rfl, rfl⟩
    go_wp2_with fail
    go_quiet (fail)
    go_wp2_with fail
    go_ret3
    exact ⟨HP.out, _, rfl⟩

theorem cut_any (s : ByteArray) (c : UInt8) (w : World) (hs : s.size ≤ 9223372036854775807) :
    Calls Tryd.prog 19 #[.string s, .string ⟨#[c]⟩] w fun e w' => CutPost s c e ∧ Drew w w' := by
  have HC := Lib.hid (cut_in s c w hs)
  go_enter Tryd.func19, Tryd.ntmps19
  go_wp2_with fail
  refine HC.out.mono ?_; rintro e w' ⟨⟨s1, s2, rfl, h1, h2⟩, n, rfl⟩
  have H1 := Lib.hid h1; have H2 := Lib.hid h2
  clear h1 h2
  go_wp2_with fail
  go_ret3
  exact ⟨⟨s1, s2, rfl, H1.out, H2.out⟩, _, rfl⟩
end Go.Proofs.YtpmdmkemlbpnjaaDoor
