/- hop: of a nil map nothing comes. -/
import Derived.Test.YtlkpalaakncicaaW9
import Derived.Laws.IdiomRangeMap
namespace Go.Proofs.Ytlkpalaakncicaa
open Go.RowKit Go.Maps
set_option linter.unusedVariables false
set_option linter.unusedSimpArgs false

theorem ifVals1_nil (l Bm : Nat) (W : World) (hm : W.cell? ⟨Bm, 0, none⟩ = some (.map none)) :
    Calls Try.prog 62 #[.func (.yield l) #[] #[], .pointer (some ⟨Bm, 0, none⟩)] W fun e W' => (∃ v, e = .returned v) ∧ W' = W.alloc (.mapIter none 0 #[] 0) := by
  have hrg := run_range_nilMap (P := Try.prog) W 74 3 34 Try.underlying74
  have hnx : ∀ ty, (Instr.next (.pointer (some ⟨W.heap.size, 0, none⟩)) false ty).run Try.prog (W.alloc (.mapIter none 0 #[] 0)) = _ := fun ty => run_next_nilMap W ty 0 0 #[]
  go_enter Try.func62, Try.ntmps62
  go_wp2_with fail
  refine wp_loop_rounds 1 ?_
  rw [rounds_succ]
  go_wp2_with fail
  go_end0
  exact ⟨⟨_, rfl⟩, rfl⟩
theorem ifVals_nil_gives (n : Nat) (Bm : Nat) (w : World) (hBm : Bm < w.heap.size) (hm : w.cell? ⟨Bm, 0, none⟩ = some (.map none)) :
    SeqGives Fence.wide n Try.prog 62 #[.pointer (some ⟨Bm, 0, none⟩)] (fun x : Ifc => ifV x) (fun ss => ss = []) 0 w := fun l J W hW hJ hY h0 => by
  refine (callsIn_wide.2 (ifVals1_nil l Bm W ((hW.cell (p := ⟨Bm, 0, none⟩) hBm).trans hm))).mono ?_
  rintro e W' ⟨hv, rfl⟩
  exact ⟨hv, [], rfl, hJ [] W _ none h0 (World.grownBy_alloc W _ none) (fun r e => by cases e)⟩
theorem collect_nil (Bm : Nat) (w : World) (hBm : Bm < w.heap.size) (hm : w.cell? ⟨Bm, 0, none⟩ = some (.map none)) :
    Calls Try.prog 60 #[.func (.func 62) #[] #[.pointer (some ⟨Bm, 0, none⟩)]] w fun e w' => e = .returned (.slice none 0 0) ∧ Below w.heap.size w w' := by
  have eg : ∀ args w, (callFunc 62 args).run Try.prog w = .ok (.enter 62 args) w := enters_of Try.func62 (by kernel_rfl) rfl
  refine (callsIn_wide.1 (collectN Fence.wide 6 trivial trivial rfl (by omega) _ _ trivial eg (fun ss => ss = []) 0 (Nat.zero_le _) w (ifVals_nil_gives _ Bm w hBm hm))).mono ?_
  rintro e w' ⟨v, ss, rfl, rfl, _, hn, hb⟩
  exact ⟨by rw [hn.2 rfl], hb⟩
theorem collect_vals (Bm b nn : Nat) (D0 : DataW Unit) (ls : List Ifc) (hD : MapIs D0 ls) (hA : Apart ls) (w : World) (hBm : Bm < w.heap.size) (hn : nn ≤ 1099511627776)
    (hm : w.cell? ⟨Bm, 0, none⟩ = some (.map (some b))) (hown : w.ownsMap Try.prog 3 ifElem b nn D0) :
    Calls Try.prog 60 #[.func (.func 62) #[] #[.pointer (some ⟨Bm, 0, none⟩)]] w fun e w' => ∃ (v : Value) (ss : List Ifc), e = .returned v ∧ Once ls ss ∧ w'.ownsRow w.heap.size 34 5 v ss.length (icells ss) ∧ (v = .slice none 0 0 ↔ ss = []) ∧ Below w.heap.size w w' := by
  have eg : ∀ args w, (callFunc 62 args).run Try.prog w = .ok (.enter 62 args) w := enters_of Try.func62 (by kernel_rfl) rfl
  exact callsIn_wide.1 (collectN Fence.wide 6 trivial trivial rfl (by omega) _ _ trivial eg (fun ss => Once ls ss) (Maps.size D0) (Nat.le_trans hown.size_le hn) w
    (ifVals_gives Fence.wide _ trivial rfl (by omega) Bm b nn D0 ls hD hA w hBm hm hown))
end Go.Proofs.Ytlkpalaakncicaa
