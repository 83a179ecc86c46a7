/- load: copies of options without lists; Taken; Project. -/
import Derived.Test.YteeihjdkenlebaaE7
namespace Go.Proofs.Yteeihjdkenlebaa
open Go.RowKit Go.Maps
set_option linter.unusedVariables false
set_option linter.unusedSimpArgs false
set_option maxRecDepth 100000

theorem seg_eq_nil (w : World) : (binOp .eql 44 (.slice none 0 0) (.slice none 0 0)).run Try.prog w = .ok (.bool true) w := by kernel_rfl
theorem ints_eq_nil (w : World) : (binOp .eql 45 (.slice none 0 0) (.slice none 0 0)).run Try.prog w = .ok (.bool true) w := by kernel_rfl
theorem clone_nil1 (w : World) : Calls Try.prog 64 #[.slice none 0 0] w fun e w' => e = .returned (.slice none 0 0) ∧ w = w' := by
  have hq := seg_eq_nil w
  go_enter Try.func64, Try.ntmps64
  go_wp2_with fail
  go_ret
  exact ⟨rfl, rfl⟩
theorem clone_nil2 (w : World) : Calls Try.prog 65 #[.slice none 0 0] w fun e w' => e = .returned (.slice none 0 0) ∧ w = w' := by
  have hq := ints_eq_nil w
  go_enter Try.func65, Try.ntmps65
  go_wp2_with fail
  go_ret
  exact ⟨rfl, rfl⟩
set_option maxHeartbeats 4000000 in
theorem ownattrs_nil (w : World) (og nx md pf : Int) :
    Calls Try.prog 52 #[.agg #[.int .i64 og, .slice none 0 0, .int .u32 nx, .int .i64 md, .int .i64 pf, .slice none 0 0]] w fun e w' => e = .returned (.agg #[.int .i64 og, .slice none 0 0, .int .u32 nx, .int .i64 md, .int .i64 pf, .slice none 0 0]) ∧ w' = (w.alloc (.cells #[.int .i64 og, .slice none 0 0, .int .u32 nx, .int .i64 md, .int .i64 pf, .slice none 0 0] 47)).alloc (.cells #[.int .i64 og, .slice none 0 0, .int .u32 nx, .int .i64 md, .int .i64 pf, .slice none 0 0] 47) := by
  have HB := Lib.hid (fun o1 o2 => show Below w.heap.size w ((w.alloc o1).alloc o2) from (newB w o1).trans ((newB (w.alloc o1) o2).mono (newB w o1).size))
  go_enter Try.func52, Try.ntmps52
  go_wp2_with (first | (go_at_call 64; refine (clone_nil1 _).mono ?_; rintro e w' ⟨rfl, rfl⟩) | (go_at_call 65; refine (clone_nil2 _).mono ?_; rintro e w' ⟨rfl, rfl⟩))
  go_loopw [11] (fun i wr => i = .int .i64 0 ∧ wr = (w.alloc (.cells #[.int .i64 og, .slice none 0 0, .int .u32 nx, .int .i64 md, .int .i64 pf, .slice none 0 0] 47)).alloc (.cells #[.int .i64 0, .slice none 0 0, .int .u32 0, .int .i64 0, .int .i64 0, .slice none 0 0] 47)) (fun _ _ => 0)
  case atStart => exact ⟨rfl, rfl⟩
  case round =>
    obtain ⟨rfl, rfl⟩ := hrel
    go_wp2_with (go_at_call 65; refine (clone_nil2 _).mono ?_; rintro e w' ⟨rfl, rfl⟩)
    ((try simp only [Exit.inBlock, Exit.then]); refine bodyPost_ret (v := .agg #[.int .i64 og, .slice none 0 0, .int .u32 nx, .int .i64 md, .int .i64 pf, .slice none 0 0]) (by simp [results, Try.results52, go_sem]) rfl ⟨rfl, rfl⟩)
set_option maxHeartbeats 4000000 in
theorem ownroute_nil (w : World) (r a n i og nx md pf : Int) :
    Calls Try.prog 47 #[.agg #[.int .i64 r, .int .u32 a, .int .i64 n, .int .i64 i, .int .i64 og, .slice none 0 0, .int .u32 nx, .int .i64 md, .int .i64 pf, .slice none 0 0]] w fun e w' => e = .returned (.agg #[.int .i64 r, .int .u32 a, .int .i64 n, .int .i64 i, .int .i64 og, .slice none 0 0, .int .u32 nx, .int .i64 md, .int .i64 pf, .slice none 0 0]) ∧ w' = ((((w.alloc (.cells #[.int .i64 r, .int .u32 a, .int .i64 n, .int .i64 i, .int .i64 og, .slice none 0 0, .int .u32 nx, .int .i64 md, .int .i64 pf, .slice none 0 0] 49)).alloc (.cells #[.int .i64 r, .int .u32 a, .int .i64 n, .int .i64 i, .int .i64 og, .slice none 0 0, .int .u32 nx, .int .i64 md, .int .i64 pf, .slice none 0 0] 49)).alloc (.cells #[.int .i64 og, .slice none 0 0, .int .u32 nx, .int .i64 md, .int .i64 pf, .slice none 0 0] 47)).alloc (.cells #[.int .i64 og, .slice none 0 0, .int .u32 nx, .int .i64 md, .int .i64 pf, .slice none 0 0] 47)) := by
  have HC := Lib.hid (fun u => ownattrs_nil u og nx md pf)
  go_enter Try.func47, Try.ntmps47
  go_wp2_with (go_at_call 52; refine (HC.out _).mono ?_; rintro e w' ⟨rfl, rfl⟩)
  ((try simp only [Exit.inBlock, Exit.then]); refine bodyPost_ret (v := .agg #[.int .i64 r, .int .u32 a, .int .i64 n, .int .i64 i, .int .i64 og, .slice none 0 0, .int .u32 nx, .int .i64 md, .int .i64 pf, .slice none 0 0]) (by simp [results, Try.results47, go_sem]) rfl ⟨rfl, rfl⟩)
set_option maxHeartbeats 4000000 in
theorem ownoption_nil (w : World) (r a n i og nx md pf f : Int) :
    Calls Try.prog 40 #[.agg #[.int .i64 r, .int .u32 a, .int .i64 n, .int .i64 i, .int .i64 og, .slice none 0 0, .int .u32 nx, .int .i64 md, .int .i64 pf, .slice none 0 0, .int .i64 f]] w fun e w' => e = .returned (.agg #[.int .i64 r, .int .u32 a, .int .i64 n, .int .i64 i, .int .i64 og, .slice none 0 0, .int .u32 nx, .int .i64 md, .int .i64 pf, .slice none 0 0, .int .i64 f]) ∧ w' = ((((((w.alloc (.cells #[.int .i64 r, .int .u32 a, .int .i64 n, .int .i64 i, .int .i64 og, .slice none 0 0, .int .u32 nx, .int .i64 md, .int .i64 pf, .slice none 0 0, .int .i64 f] 51)).alloc (.cells #[.int .i64 r, .int .u32 a, .int .i64 n, .int .i64 i, .int .i64 og, .slice none 0 0, .int .u32 nx, .int .i64 md, .int .i64 pf, .slice none 0 0, .int .i64 f] 51)).alloc (.cells #[.int .i64 r, .int .u32 a, .int .i64 n, .int .i64 i, .int .i64 og, .slice none 0 0, .int .u32 nx, .int .i64 md, .int .i64 pf, .slice none 0 0] 49)).alloc (.cells #[.int .i64 r, .int .u32 a, .int .i64 n, .int .i64 i, .int .i64 og, .slice none 0 0, .int .u32 nx, .int .i64 md, .int .i64 pf, .slice none 0 0] 49)).alloc (.cells #[.int .i64 og, .slice none 0 0, .int .u32 nx, .int .i64 md, .int .i64 pf, .slice none 0 0] 47)).alloc (.cells #[.int .i64 og, .slice none 0 0, .int .u32 nx, .int .i64 md, .int .i64 pf, .slice none 0 0] 47)) := by
  have HC := Lib.hid (fun u => ownroute_nil u r a n i og nx md pf)
  go_enter Try.func40, Try.ntmps40
  go_wp2_with (go_at_call 47; refine (HC.out _).mono ?_; rintro e w' ⟨rfl, rfl⟩)
  ((try simp only [Exit.inBlock, Exit.then]); refine bodyPost_ret (v := .agg #[.int .i64 r, .int .u32 a, .int .i64 n, .int .i64 i, .int .i64 og, .slice none 0 0, .int .u32 nx, .int .i64 md, .int .i64 pf, .slice none 0 0, .int .i64 f]) (by simp [results, Try.results40, go_sem]) rfl ⟨rfl, rfl⟩)
set_option maxHeartbeats 4000000 in
theorem ldTaken_nil (w : World) (x : Wt) (hd : OvsAt w x.d x.D) (hn : x.D.length = x.dn) (hm : x.dn ≤ maxLen) (r a n i og nx md pf f : Int) (hx : takenV x = ⟨r, a, n, i, og, none, 0, 0, nx, md, pf, none, 0, 0, f⟩) :
    Calls Try.prog 24 #[wtV x] w fun e w' => e = .returned (.agg #[.int .i64 r, .int .u32 a, .int .i64 n, .int .i64 i, .int .i64 og, .slice none 0 0, .int .u32 nx, .int .i64 md, .int .i64 pf, .slice none 0 0, .int .i64 f]) ∧ Below w.heap.size w w' := by
  have HC := Lib.hid (fun u h => ldtaken_any u x h hn hm)
  rw [hx] at HC
  have HD := Lib.hid (fun o1 o2 => hd.below (two_below w o1 o2))
  have HO := Lib.hid (fun u => ownoption_nil u r a n i og nx md pf f)
  clear hd hn hm hx
  obtain ⟨xa, xn, xc, ⟨fr, fa, fn, fi, fog, fp1, fn1, fc1, fnx, fmd, fpf, fp2, fn2, fc2, ff⟩, d, dn, dc, at_, D⟩ := x
  go_enter Try.func24, Try.ntmps24
  go_wp2_with (first | (go_at_call 38; refine (HC.out _ (HD.out _ _)).mono ?_; rintro e w' ⟨rfl, rfl⟩; simp only [wtC, ovC]) | (go_at_call 40; refine (HO.out _).mono ?_; rintro e w' ⟨rfl, rfl⟩))
  ((try simp only [Exit.inBlock, Exit.then]); refine bodyPost_ret (v := .agg #[.int .i64 r, .int .u32 a, .int .i64 n, .int .i64 i, .int .i64 og, .slice none 0 0, .int .u32 nx, .int .i64 md, .int .i64 pf, .slice none 0 0, .int .i64 f]) (by simp [results, Try.results24, go_sem]) rfl ⟨rfl, ?_⟩)
  repeat (first | exact Below.refl _ _ | (refine Below.alloc ?_ (by simp <;> omega) _))
end Go.Proofs.Yteeihjdkenlebaa
