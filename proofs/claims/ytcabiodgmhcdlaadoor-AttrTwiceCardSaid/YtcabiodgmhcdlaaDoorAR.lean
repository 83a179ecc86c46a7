/- AttrLess: the walk. -/
import Derived.Test.YtcabiodgmhcdlaaDoorAQ
import Derived.Test.YtcabiodgmhcdlaaDoorAM
namespace Go.Proofs.YtcabiodgmhcdlaaDoor
open Go.RowKit

theorem attrL_le (fl k : Int) (d : List Int) : (attrL fl k d).length ≤ d.length + 4 := by
  unfold attrL
  split
  · simp
  · simp [putL_len]; omega
theorem tailA_le (a : At) (four : Bool) (hk : okA a four = true) : (tailA a four).length ≤ 10000 := by
  obtain ⟨hp, _⟩ := okA_parts hk
  have h1 := attrL_le 64 2 (segsL four a.path)
  have h2 := attrL_le 64 3 (putL a.next 4)
  have h3 := attrL_le 128 4 (putL a.med 4)
  have h4 := attrL_le 64 5 (putL a.pref 4)
  have h5 := attrL_le 192 8 (numsL 4 a.comms)
  have hs := segsL_le hp.path
  have hc := hp.c0
  rw [putL_len] at h2 h3 h4
  rw [numsL_len] at h5
  have m1 : (medL a.med).length ≤ 8 := by
    unfold medL
    split
    · omega
    · simp
  have m2 : (prefL a.pref).length ≤ 8 := by
    unfold prefL
    split
    · omega
    · simp
  have m3 : (commsL a.comms).length ≤ 132 := by
    unfold commsL
    split
    · omega
    · simp
  unfold tailA
  simp only [List.length_append]
  omega
theorem putA_len (a : At) (four : Bool) (hk : okA a four = true) : 14 ≤ (putA a four).length ∧ (putA a four).length ≤ 10004 ∧ ((putA a four).drop 4).length = (putA a four).length - 4 := by
  have h := tailA_len a four
  have h2 := tailA_le a four hk
  have hpl : (putA a four).length = (tailA a four).length + 4 := by rw [putA_tail, List.length_append]; simp [attrL]; omega
  exact ⟨by omega, by omega, by rw [List.length_drop]⟩
theorem zero_box (w : World) : AtAt w At.zero ⟨none, 0, 0, none, 0, 0⟩ := zero_at w
theorem getZ (four : Bool) (p : Option Addr) (xs : List Int) (n cap : Nat) (w : World) (ht : Tab w) (hb : BytesAt w p xs) (hn : xs.length = n) (hl : n ≤ 1000000) (hg : getA xs four = (At.zero, 2)) :
    Calls Tryd.prog 11 #[.slice p n cap, .bool four] w fun e w' => ∃ (pp cp : Option Addr) (pc cc : Nat), e = .returned (.tuple #[.agg #[.int .i64 0, .slice pp 0 pc, .int .u32 0, .int .i64 0, .int .i64 0, .slice cp 0 cc], .int .i64 2]) ∧ AtAt w' At.zero ⟨pp, 0, pc, cp, 0, cc⟩ ∧ Below w.heap.size w w' := by
  have h := getA_any four p xs n cap w ht hb hn hl
  rw [hg] at h
  refine h.mono ?_; rintro e w' ⟨⟨pp, pn, pc, cp, cn, cc⟩, rfl, ha, hb⟩
  have h1 : 0 = pn := ha.pn
  have h2 : 0 = cn := ha.cn
  subst h1 h2
  exact ⟨pp, cp, pc, cc, rfl, ha, hb⟩
theorem sameZ (pp cp qp dp : Option Addr) (pc cc qc dc : Nat) (w : World) (h1 : AtAt w At.zero ⟨pp, 0, pc, cp, 0, cc⟩) (h2 : AtAt w At.zero ⟨qp, 0, qc, dp, 0, dc⟩) :
    Calls Tryd.prog 13 #[.agg #[.int .i64 0, .slice pp 0 pc, .int .u32 0, .int .i64 0, .int .i64 0, .slice cp 0 cc], .agg #[.int .i64 0, .slice qp 0 qc, .int .u32 0, .int .i64 0, .int .i64 0, .slice dp 0 dc]] w fun e w' => e = .returned (.bool true) ∧ Below w.heap.size w w' := by
  have h := rsame_yes At.zero _ _ w h1 h2
  rw [show (atL At.zero ⟨pp, 0, pc, cp, 0, cc⟩).toArray = #[.int .i64 0, .slice pp 0 pc, .int .u32 0, .int .i64 0, .int .i64 0, .slice cp 0 cc] from rfl, show (atL At.zero ⟨qp, 0, qc, dp, 0, dc⟩).toArray = #[.int .i64 0, .slice qp 0 qc, .int .u32 0, .int .i64 0, .int .i64 0, .slice dp 0 dc] from rfl] at h
  exact h
end Go.Proofs.YtcabiodgmhcdlaaDoor
