/- nlri: Size. -/
import Derived.Test.YtgmcjejgginpjaaNlA
namespace Go.Proofs.Ytgmcjejgginpjaa
open Go.RowKit

def sizeN (x : Nl) (paths : Bool) : Nat := if okNls [x] paths then (nlL paths x).length else 0
set_option maxHeartbeats 2000000 in
theorem sizeNl_any (i a n : Int) (paths : Bool) (w : World) (had : InAddr ⟨i, a, n⟩) :
    Calls Try.prog 20 #[.agg #[.int .i64 i, .int .u32 a, .int .i64 n], .bool paths] w fun e w' => e = .returned (.int .i64 (sizeN ⟨i, a, n⟩ paths)) ∧ Below w.heap.size w w' := by
  obtain ⟨V, hV⟩ : ∃ V, (w.alloc (.cells #[.int .i64 i, .int .u32 a, .int .i64 n] 41)).alloc (.cells #[.int .i64 i, .int .u32 a, .int .i64 n] 41) = V := ⟨_, rfl⟩
  have hbV : Below w.heap.size w V := by rw [← hV]; exact two_below _ _ _
  have hK2 : Blk V (w.heap.size + 1) 41 [.int .i64 i, .int .u32 a, .int .i64 n] := by
    rw [← hV, ← sz_alloc w (.cells #[.int .i64 i, .int .u32 a, .int .i64 n] 41)]
    exact Blk.new _ 41 [.int .i64 i, .int .u32 a, .int .i64 n]
  have hx : NlsAt V (some ⟨w.heap.size + 1, 0, none⟩) [⟨i, a, n⟩] := ⟨fun k hk => by
    have : k = 0 := by simpa using hk
    subst this; exact had, .inr ⟨w.heap.size + 1, 0, rfl, fun k hk => by
    have : k = 0 := by simpa using hk
    subst this
    exact ⟨hK2.cell 0 (by simp), hK2.cell 1 (by simp), hK2.cell 2 (by simp)⟩⟩⟩
  have HV := Lib.hid hV
  have HB := Lib.hid hbV
  rcases hk : okNls [⟨i, a, n⟩] paths with _ | _
  · have HP := Lib.hid (putNl_no _ [⟨i, a, n⟩] 1 1 paths V hx rfl (by unfold maxLen; omega) hk)
    rw [show sizeN ⟨i, a, n⟩ paths = 0 by unfold sizeN; rw [hk]; rfl]
    clear hV hbV hK2 hx hk had
    go_enter Try.func20, Try.ntmps20
    go_wp2_with fail
    rw [HV.out]
    refine HP.out.mono ?_; rintro e w2 ⟨rfl, hb2⟩
    have HB2 := Lib.hid (HB.out.trans (hb2.mono HB.out.size))
    clear hb2
    go_wp2_with fail
    go_ret
    exact ⟨rfl, HB2.out⟩
  · have HP := Lib.hid (putNl_ok _ [⟨i, a, n⟩] 1 1 paths V hx rfl hk)
    have hl : (nlsL paths [⟨i, a, n⟩]).length = sizeN ⟨i, a, n⟩ paths := by unfold sizeN; rw [hk]; simp [nlsL]
    obtain ⟨S, hS⟩ : ∃ S, sizeN ⟨i, a, n⟩ paths = S := ⟨_, rfl⟩
    rw [hl, hS] at HP
    rw [hS]
    clear hV hbV hK2 hx hk had hl hS
    go_enter Try.func20, Try.ntmps20
    go_wp2_with fail
    rw [HV.out]
    refine HP.out.mono ?_; rintro e w2 ⟨q, cap, rfl, _, hb2⟩
    have HB2 := Lib.hid (HB.out.trans (hb2.mono HB.out.size))
    clear hb2
    go_wp2_with fail
    go_ret
    exact ⟨rfl, HB2.out⟩
end Go.Proofs.Ytgmcjejgginpjaa
