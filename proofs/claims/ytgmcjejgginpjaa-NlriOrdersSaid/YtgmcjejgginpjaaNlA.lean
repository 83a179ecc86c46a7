/- nlri: its own order, whole: as the answer's. -/
import Derived.Test.YtgmcjejgginpjaaNl9
namespace Go.Proofs.Ytgmcjejgginpjaa
open Go.RowKit

theorem cmpN_or (i a n j b m : Int) : cmpN ⟨i, a, n⟩ ⟨j, b, m⟩ = if cmpP a n b m ≠ 0 then cmpP a n b m else cmpI i j := rfl
def TwoN (go : Nat) (i a n j b m : Int) (w : World) : Prop :=
  w.cell? ⟨go, 0, none⟩ = some (.int .i64 i) ∧ w.cell? ⟨go, 1, none⟩ = some (.int .u32 a) ∧ w.cell? ⟨go, 2, none⟩ = some (.int .i64 n) ∧ w.cell? ⟨go + 1, 0, none⟩ = some (.int .i64 j) ∧ w.cell? ⟨go + 1, 1, none⟩ = some (.int .u32 b) ∧ w.cell? ⟨go + 1, 2, none⟩ = some (.int .i64 m)
theorem TwoN.below {go : Nat} {i a n j b m : Int} {w w' : World} (h : TwoN go i a n j b m w) (hb : Below w.heap.size w w') : TwoN go i a n j b m w' :=
  ⟨kept hb h.1, kept hb h.2.1, kept hb h.2.2.1, kept hb h.2.2.2.1, kept hb h.2.2.2.2.1, kept hb h.2.2.2.2.2⟩
set_option maxHeartbeats 2000000 in
theorem compareNl_any (i a n j b m : Int) (w : World) :
    Calls Try.prog 18 #[.agg #[.int .i64 i, .int .u32 a, .int .i64 n], .agg #[.int .i64 j, .int .u32 b, .int .i64 m]] w fun e w' => e = .returned (.int .i64 (cmpN ⟨i, a, n⟩ ⟨j, b, m⟩)) ∧ Below w.heap.size w w' := by
  obtain ⟨V, hV⟩ : ∃ V, (w.alloc (.cells #[.int .i64 i, .int .u32 a, .int .i64 n] 41)).alloc (.cells #[.int .i64 j, .int .u32 b, .int .i64 m] 41) = V := ⟨_, rfl⟩
  have hbV : Below w.heap.size w V := by rw [← hV]; exact two_below _ _ _
  have hK1 : Blk V w.heap.size 41 [.int .i64 i, .int .u32 a, .int .i64 n] := by rw [← hV]; exact (Blk.new w 41 [.int .i64 i, .int .u32 a, .int .i64 n]).alloc _
  have hK2 : Blk V (w.heap.size + 1) 41 [.int .i64 j, .int .u32 b, .int .i64 m] := by
    rw [← hV, ← sz_alloc w (.cells #[.int .i64 i, .int .u32 a, .int .i64 n] 41)]
    exact Blk.new _ 41 [.int .i64 j, .int .u32 b, .int .i64 m]
  have hT : TwoN w.heap.size i a n j b m V := ⟨hK1.cell 0 (by simp), hK1.cell 1 (by simp), hK1.cell 2 (by simp), hK2.cell 0 (by simp), hK2.cell 1 (by simp), hK2.cell 2 (by simp)⟩
  have hbd : Below V.heap.size V V.drew := (Below.refl _ _).drew
  have HC := Lib.hid (compare_any a n b m V.drew)
  have HI := fun u => Lib.hid (cmpI_any i j u)
  have hN := cmpN_or i a n j b m
  obtain ⟨N, hN2⟩ : ∃ N, cmpN ⟨i, a, n⟩ ⟨j, b, m⟩ = N := ⟨_, rfl⟩
  obtain ⟨C, hC⟩ : ∃ C, cmpP a n b m = C := ⟨_, rfl⟩
  obtain ⟨D, hD⟩ : ∃ D, cmpI i j = D := ⟨_, rfl⟩
  rw [hC] at HC
  rw [hN2, hC, hD] at hN
  simp only [hD] at HI
  rw [hN2]
  have HN := Lib.hid hN
  have HV := Lib.hid hV
  have HB := Lib.hid hbV
  have HT := Lib.hid (hT.below hbd)
  obtain ⟨c0, c1, c2, d0, d1, d2⟩ := hT.below hbd
  clear hV hbV hK1 hK2 hN hN2 hC hD hT hbd
  go_enter Try.func18, Try.ntmps18
  go_wp2_with fail
  rw [HV.out]
  have hS := And.intro c0 (And.intro c1 (And.intro c2 (And.intro d0 (And.intro d1 d2))))
  clear c0 c1 c2 d0 d1 d2
  go_region_held_law (fun w' => w'.cell? ⟨w.heap.size, 0, none⟩ = some (.int .i64 i) ∧ w'.cell? ⟨w.heap.size, 1, none⟩ = some (.int .u32 a) ∧ w'.cell? ⟨w.heap.size, 2, none⟩ = some (.int .i64 n) ∧ w'.cell? ⟨w.heap.size + 1, 0, none⟩ = some (.int .i64 j) ∧ w'.cell? ⟨w.heap.size + 1, 1, none⟩ = some (.int .u32 b) ∧ w'.cell? ⟨w.heap.size + 1, 2, none⟩ = some (.int .i64 m)) (first | with_reducible assumption | exact TwoN.below (by with_reducible assumption) (newB _ _)) (first
    | (go_at_call 35; (with_reducible refine HC.out.mono ?_); rintro e w2 ⟨rfl, hb2⟩; have hS2 := HT.out.below hb2; have HB2 := Lib.hid (HB.out.drew.trans (hb2.mono HB.out.size)); have hO2 := (or2_any C D w2.heap.size (w2.alloc (.cells #[.int .i64 C, .int .i64 D] 3)) ((Blk.new w2 3 [.int .i64 C, .int .i64 D]).cell 0 (by simp)) ((Blk.new w2 3 [.int .i64 C, .int .i64 D]).cell 1 (by simp))); rw [← HN.out] at hO2; have HO2 := Lib.hid hO2; clear hO2; have hS3 := hS2.below (newB w2 (.cells #[.int .i64 C, .int .i64 D] 3)); unfold TwoN at hS2 hS3; clear hb2)
    | (go_at_call 36; (with_reducible refine (HI _).out.mono ?_); rintro e w' ⟨rfl, rfl⟩)
    | (go_at_call 34; (with_reducible refine HO2.out.mono ?_); rintro e w' ⟨rfl, rfl⟩))
  all_goals
    go_wp2_with fail
    go_ret
    exact ⟨rfl, HB2.out.alloc HB2.out.size _⟩
end Go.Proofs.Ytgmcjejgginpjaa
