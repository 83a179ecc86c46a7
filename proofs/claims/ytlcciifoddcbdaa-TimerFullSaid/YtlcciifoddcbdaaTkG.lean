/- timer: Next and Due of nil ones. -/
import Derived.Test.YtlcciifoddcbdaaTk8
import Derived.Laws.IdiomRangeMap
namespace Go.Proofs.Ytlcciifoddcbdaa
open Go.RowKit Go.Maps

theorem tnext_nil (w : World) :
    Calls Try.prog 18 #[.pointer none] w fun e w' => e = .returned (.tuple #[.int .i64 0, .bool false]) ∧ Below w.heap.size w w' := by
  have hrg := run_range_nilMap (P := Try.prog) w 49 31 3 Try.underlying49
  have hnx : ∀ ty, (Instr.next (.pointer (some ⟨w.heap.size, 0, none⟩)) false ty).run Try.prog (w.alloc (.mapIter none 0 #[] 0)) = _ := fun ty => run_next_nilMap w ty 0 0 #[]
  have P := Lib.hid (tall_nil w)
  go_enter Try.func18, Try.ntmps18
  go_wp2_with (go_at_call 21; refine P.out.mono ?_; rintro e w' ⟨rfl, rfl⟩)
  refine wp_loop_rounds 1 ?_
  rw [rounds_succ]
  go_wp2_with fail
  exact bodyPost_ret (v := .tuple #[.int .i64 0, .bool false]) (by simp [results, Try.results18, go_sem]) rfl ⟨rfl, newB _ _⟩
theorem tdue_nil (w : World) (now : Int) :
    Calls Try.prog 14 #[.pointer none, .int .i64 now] w fun e w' => e = .returned (.slice none 0 0) ∧ Below w.heap.size w w' := by
  have hrg := run_range_nilMap (P := Try.prog) w 49 31 3 Try.underlying49
  have hnx : ∀ ty, (Instr.next (.pointer (some ⟨w.heap.size, 0, none⟩)) false ty).run Try.prog (w.alloc (.mapIter none 0 #[] 0)) = _ := fun ty => run_next_nilMap w ty 0 0 #[]
  have P := Lib.hid (tall_nil w)
  have Q := Lib.hid (fun (fv : Value) (u : World) => sort_1 none 0 0 fv u (by omega))
  go_enter Try.func14, Try.ntmps14
  go_wp2_with (go_at_call 21; refine P.out.mono ?_; rintro e w' ⟨rfl, rfl⟩)
  refine wp_loop_rounds 1 ?_
  rw [rounds_succ]
  go_wp2_with (go_at_call 24; refine (Q.out _ _).mono ?_; rintro e w' ⟨rfl, rfl⟩)
  refine wp_loop_rounds 1 ?_
  rw [rounds_succ]
  go_wp2_with fail
  exact bodyPost_ret (v := .slice none 0 0) (by simp [results, Try.results14, go_sem]) rfl ⟨rfl, newB _ _⟩
end Go.Proofs.Ytlcciifoddcbdaa
