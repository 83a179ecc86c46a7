/- nlri: the order, the answer's. -/
import Derived.Test.YtgmcjejgginpjaaNl7
import Derived.Test.YtgmcjejgginpjaaRefD02
namespace Go.Proofs.Ytgmcjejgginpjaa
open Go.RowKit

def cmpN (x y : Nl) : Int := if cmpP x.addr x.len y.addr y.len ≠ 0 then cmpP x.addr x.len y.addr y.len else if x.id < y.id then -1 else if y.id < x.id then 1 else 0
set_option maxHeartbeats 2000000 in
theorem rcompareNl_any (i a n j b m : Int) (w : World) :
    Calls Try.prog 19 #[.agg #[.int .i64 i, .int .u32 a, .int .i64 n], .agg #[.int .i64 j, .int .u32 b, .int .i64 m]] w fun e w' => e = .returned (.int .i64 (cmpN ⟨i, a, n⟩ ⟨j, b, m⟩)) ∧ Below w.heap.size w w' := by
  obtain ⟨V, hV⟩ : ∃ V, (w.alloc (.cells #[.int .i64 i, .int .u32 a, .int .i64 n] 41)).alloc (.cells #[.int .i64 j, .int .u32 b, .int .i64 m] 41) = V := ⟨_, rfl⟩
  have hbV : Below w.heap.size w V := by rw [← hV]; exact two_below _ _ _
  have hK1 : Blk V w.heap.size 41 [.int .i64 i, .int .u32 a, .int .i64 n] := by rw [← hV]; exact (Blk.new w 41 [.int .i64 i, .int .u32 a, .int .i64 n]).alloc _
  have hK2 : Blk V (w.heap.size + 1) 41 [.int .i64 j, .int .u32 b, .int .i64 m] := by
    rw [← hV, ← sz_alloc w (.cells #[.int .i64 i, .int .u32 a, .int .i64 n] 41)]
    exact Blk.new _ 41 [.int .i64 j, .int .u32 b, .int .i64 m]
  have HC := Lib.hid (rcompare_any a n b m V)
  obtain ⟨C, hC⟩ : ∃ C, cmpP a n b m = C := ⟨_, rfl⟩
  have hE : cmpN ⟨i, a, n⟩ ⟨j, b, m⟩ = if C ≠ 0 then C else if i < j then -1 else if j < i then 1 else 0 := by rw [← hC]; rfl
  rw [hC] at HC
  obtain ⟨E, hE2⟩ : ∃ E, cmpN ⟨i, a, n⟩ ⟨j, b, m⟩ = E := ⟨_, rfl⟩
  rw [hE2] at hE ⊢
  have HE := Lib.hid hE
  have HV := Lib.hid hV
  have HB := Lib.hid hbV
  have K1 := Lib.hid hK1
  have K2 := Lib.hid hK2
  have c1 := hK1.cell 1 (by simp)
  have c2 := hK1.cell 2 (by simp)
  have d1 := hK2.cell 1 (by simp)
  have d2 := hK2.cell 2 (by simp)
  simp only [List.getD_cons_zero, List.getD_cons_succ] at c1 c2 d1 d2
  rw [← hV] at c1 c2 d1 d2
  clear hV hbV hK1 hK2 hE hE2 hC
  go_enter Try.func19, Try.ntmps19
  go_wp2_with fail
  rw [HV.out]
  refine HC.out.mono ?_; rintro e w2 ⟨rfl, hb2⟩
  have c0 := (K1.out.next hb2).cell 0 (by simp)
  have d0 := (K2.out.next hb2).cell 0 (by simp)
  simp only [List.getD_cons_zero] at c0 d0
  have HB2 := Lib.hid (HB.out.trans (hb2.mono HB.out.size))
  clear hb2 c1 c2 d1 d2
  by_cases h0 : C = 0
  · subst h0
    by_cases h1 : i < j
    · have t1 : decide (i < j) = true := by simpa using h1
      have HEE := Lib.hid (show E = -1 by rw [HE.out, if_neg (by simp), if_pos h1])
      go_wp2_with fail
      go_ret
      exact ⟨by rw [HEE.out] <;> rfl, HB2.out⟩
    · have t1 : decide (i < j) = false := by simpa using h1
      by_cases h2 : j < i
      · have t2 : decide (j < i) = true := by simpa using h2
        have HEE := Lib.hid (show E = 1 by rw [HE.out, if_neg (by simp), if_neg h1, if_pos h2])
        go_wp2_with fail
        go_ret
        exact ⟨by rw [HEE.out] <;> rfl, HB2.out⟩
      · have t2 : decide (j < i) = false := by simpa using h2
        have HEE := Lib.hid (show E = 0 by rw [HE.out, if_neg (by simp), if_neg h1, if_neg h2])
        go_wp2_with fail
        go_ret
        exact ⟨by rw [HEE.out] <;> rfl, HB2.out⟩
  · have t0 : (C != 0) = true := by simpa using h0
    have HEE := Lib.hid (show E = C by rw [HE.out, if_pos h0])
    go_wp2_with fail
    go_ret
    exact ⟨by rw [HEE.out] <;> rfl, HB2.out⟩
end Go.Proofs.Ytgmcjejgginpjaa
