/- attr: what is put is got, whole; without its origin it is less. -/
import Derived.Test.YtpeagakpmjnelaaDoorAP
namespace Go.Proofs.YtpeagakpmjnelaaDoor.Ax
open Go.RowKit
set_option maxRecDepth 100000

theorem tailA_len (a : At) (four : Bool) : 10 ≤ (tailA a four).length := by
  have h3 : (attrL 64 3 (putL a.next 4)).length = 7 := by
    unfold attrL
    rw [if_pos (by rw [putL_len]; omega)]
    simp [putL_len]
  have h2 : 3 ≤ (attrL 64 2 (segsL four a.path)).length := by
    unfold attrL
    split
    · simp
    · simp [putL_len]; omega
  unfold tailA
  rw [List.length_append, List.length_append]
  omega
theorem getA_put (a : At) (four : Bool) (hk : okA a four = true) (n0 : 0 ≤ a.next) (n1 : a.next ≤ 4294967295) : getA (putA a four) four = (a, 1) := by
  have hl := tailA_len a four
  obtain ⟨hp, _⟩ := okA_parts hk
  have hpl : (putA a four).length = (tailA a four).length + 4 := by rw [putA_tail, List.length_append]; simp [attrL]; omega
  obtain ⟨t, ht, hw⟩ := getS_tail a four a.origin 2 (.inr rfl) hk n0 n1 ((putA a four).length - 6)
  unfold getA
  rw [show (putA a four).length + 1 = ((putA a four).length - 6 + 6) + 1 by omega]
  obtain ⟨g, hg⟩ : ∃ g, (putA a four).length - 6 = g := ⟨_, rfl⟩
  rw [hg] at ht ⊢
  rw [putA_tail, getS_at four (g + 6) At.start 0 64 1 1 [a.origin] _ rfl (by simp) (by decide) (by decide +kernel) (by simp), read_origin four _ _ hp.o0 hp.o1, Option.bind_some, show setT 0 1 = 2 by decide +kernel]
  rw [show ({ At.start with origin := a.origin } : At) = ⟨a.origin, [], 0, -1, -1, []⟩ from rfl, ht]
  simp only [finA]
  rw [hw]; rfl
theorem getA_less (a : At) (four : Bool) (hk : okA a four = true) (n0 : 0 ≤ a.next) (n1 : a.next ≤ 4294967295) : getA ((putA a four).drop 4) four = (At.zero, 2) := by
  have hl := tailA_len a four
  rw [putA_drop]
  obtain ⟨t, ht, hw⟩ := getS_tail a four 0 0 (.inl rfl) hk n0 n1 ((tailA a four).length - 5)
  unfold getA
  rw [show (tailA a four).length + 1 = (tailA a four).length - 5 + 6 by omega]
  rw [show At.start = ⟨0, [], 0, -1, -1, []⟩ from rfl, ht]
  simp only [finA]
  rw [hw]; rfl
end Go.Proofs.YtpeagakpmjnelaaDoor.Ax
