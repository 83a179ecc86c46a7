/- timer: nil ones. -/
import Derived.Test.YtlcciifoddcbdaaTk6
namespace Go.Proofs.Ytlcciifoddcbdaa
open Go.RowKit Go.Maps

theorem tat_nil (w : World) (p k : Int) (hok : okT ⟨p, k⟩) :
    Calls Try.prog 16 #[.pointer none, .agg #[.int .i64 p, .int .i64 k]] w fun e w' => e = .returned (.tuple #[.int .i64 0, .bool false]) ∧ Below w.heap.size w w' := by
  have hA := (newB w (.cells #[.int .i64 p, .int .i64 k] 31)).drew
  have HA := Lib.hid hA
  obtain ⟨V, hV⟩ : ∃ V, w.alloc (.cells #[.int .i64 p, .int .i64 k] 31) = V := ⟨_, rfl⟩
  have hX : Blk V w.heap.size 31 [.int .i64 p, .int .i64 k] := hV ▸ Blk.new w 31 [.int .i64 p, .int .i64 k]
  rw [hV] at HA
  have hr : (Instr.lookup 49 (.map none) (tkV ⟨p, k⟩) true).run Try.prog V.drew = .ok (.tuple #[.int .i64 0, .bool false]) V.drew := Maps.look_nil true tk_keyed Try.underlying49 (zero_int _) (keyT_mk _ hok)
  unfold tkV at hr
  have HV := Lib.hid hV
  have hS : V.drew.cell? ⟨w.heap.size, 0, none⟩ = some (.int .i64 p) ∧ V.drew.cell? ⟨w.heap.size, 1, none⟩ = some (.int .i64 k) ∧ (Instr.lookup 49 (.map none) (.agg #[.int .i64 p, .int .i64 k]) true).run Try.prog V.drew = .ok (.tuple #[.int .i64 0, .bool false]) V.drew := ⟨hX.cell 0 (by simp), hX.cell 1 (by simp), hr⟩
  have P := Lib.hid (tall_nil V.drew)
  clear hA hX hr hV
  go_enter Try.func16, Try.ntmps16
  go_wp2_with fail
  rw [HV.out]
  go_region_held_law (fun w' => w'.cell? ⟨w.heap.size, 0, none⟩ = some (.int .i64 p) ∧ w'.cell? ⟨w.heap.size, 1, none⟩ = some (.int .i64 k) ∧ (Instr.lookup 49 (.map none) (.agg #[.int .i64 p, .int .i64 k]) true).run Try.prog w' = .ok (.tuple #[.int .i64 0, .bool false]) w') (with_reducible assumption) (first
    | (go_at_call 21; refine P.out.mono ?_; rintro e w' ⟨rfl, rfl⟩))
  go_wp2_with fail
  exact bodyPost_ret (v := .tuple #[.int .i64 0, .bool false]) (by simp [results, Try.results16, go_sem]) rfl ⟨rfl, HA.out⟩

theorem tstop_nil (w : World) (p k : Int) (hok : okT ⟨p, k⟩) :
    Calls Try.prog 11 #[.pointer none, .agg #[.int .i64 p, .int .i64 k]] w fun e w' => e = .returned (.bool false) ∧ Below w.heap.size w w' := by
  have hA := (newB w (.cells #[.int .i64 p, .int .i64 k] 31)).drew
  have HA := Lib.hid hA.drew
  obtain ⟨V, hV⟩ : ∃ V, w.alloc (.cells #[.int .i64 p, .int .i64 k] 31) = V := ⟨_, rfl⟩
  have hX : Blk V w.heap.size 31 [.int .i64 p, .int .i64 k] := hV ▸ Blk.new w 31 [.int .i64 p, .int .i64 k]
  rw [hV] at HA
  have hr : (Instr.lookup 49 (.map none) (tkV ⟨p, k⟩) true).run Try.prog V.drew = .ok (.tuple #[.int .i64 0, .bool false]) V.drew := Maps.look_nil true tk_keyed Try.underlying49 (zero_int _) (keyT_mk _ hok)
  unfold tkV at hr
  have HV := Lib.hid hV
  have hS : V.drew.cell? ⟨w.heap.size, 0, none⟩ = some (.int .i64 p) ∧ V.drew.cell? ⟨w.heap.size, 1, none⟩ = some (.int .i64 k) ∧ (Instr.lookup 49 (.map none) (.agg #[.int .i64 p, .int .i64 k]) true).run Try.prog V.drew = .ok (.tuple #[.int .i64 0, .bool false]) V.drew := ⟨hX.cell 0 (by simp), hX.cell 1 (by simp), hr⟩
  have P := Lib.hid (tall_nil V.drew)
  have P2 := Lib.hid (tall_nil V.drew.drew)
  have hS2 : V.drew.drew.cell? ⟨w.heap.size, 0, none⟩ = some (.int .i64 p) ∧ V.drew.drew.cell? ⟨w.heap.size, 1, none⟩ = some (.int .i64 k) := ⟨hS.1, hS.2.1⟩
  have HOK := Lib.hid hok
  clear hA hX hr hV hok
  go_enter Try.func11, Try.ntmps11
  go_wp2_with fail
  rw [HV.out]
  go_region_held_law (fun w' => w'.cell? ⟨w.heap.size, 0, none⟩ = some (.int .i64 p) ∧ w'.cell? ⟨w.heap.size, 1, none⟩ = some (.int .i64 k) ∧ (Instr.lookup 49 (.map none) (.agg #[.int .i64 p, .int .i64 k]) true).run Try.prog w' = .ok (.tuple #[.int .i64 0, .bool false]) w') (with_reducible assumption) (first
    | (go_at_call 21; refine P.out.mono ?_; rintro e w' ⟨rfl, rfl⟩))
  go_wp2_with fail
  go_region_held_law (fun w' => w'.cell? ⟨w.heap.size, 0, none⟩ = some (.int .i64 p) ∧ w'.cell? ⟨w.heap.size, 1, none⟩ = some (.int .i64 k)) (with_reducible assumption) (first
    | (go_at_call 21; refine P2.out.mono ?_; rintro e w' ⟨rfl, rfl⟩)
    | (refine step_delNil rfl _ _ rfl ⟨p, k⟩ HOK.out rfl rfl ?_))
  all_goals
    go_wp2_with fail
    exact bodyPost_ret (v := .bool false) (by simp [results, Try.results11, go_sem]) rfl ⟨rfl, HA.out⟩
end Go.Proofs.Ytlcciifoddcbdaa
