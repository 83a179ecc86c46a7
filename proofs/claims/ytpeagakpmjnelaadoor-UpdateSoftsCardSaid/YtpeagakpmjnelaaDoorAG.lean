/- ref05: Check. -/
import Derived.Test.YtpeagakpmjnelaaDoorAF
import Derived.Deep.QuietTactic
import Derived.BigQuiet
namespace Go.Proofs.YtpeagakpmjnelaaDoor.Ax
open Go.RowKit
set_option maxRecDepth 100000

theorem fitsF_any (x : Int) (four : Bool) (w : World) :
    Calls Tryd.prog 46 #[.int .i64 x, .int .i64 (if four then 4 else 2)] w fun e w' => e = .returned (.bool (!oddB 0 (mostA four) x)) ∧ w = w' := by
  rw [← fits_odd]
  cases four
  · exact rfits_any x 2 w (by omega)
  · exact rfits_any x 4 w (by omega)
theorem fits4_any (x : Int) (w : World) :
    Calls Tryd.prog 46 #[.int .i64 x, .int .i64 4] w fun e w' => e = .returned (.bool (!oddB 0 4294967295 x)) ∧ w = w' := fitsF_any x true w
theorem ints_cell {w : World} {p : Option Addr} {xs : List Int} {n k : Nat} (h : IntsAt w p xs) (hn : xs.length = n) (hk : k < n) : ∃ b off, p = some ⟨b, off, none⟩ ∧ w.cell? ⟨b, off + k, none⟩ = some (.int .i64 (xs.getD k 0)) := by
  rcases h with h | ⟨b, off, hp, hc⟩
  · rw [h] at hn; simp at hn; omega
  · exact ⟨b, off, hp, hc k (by omega)⟩
set_option maxHeartbeats 2000000 in
set_option maxRecDepth 100000 in
theorem rcheck_head (a : At) (l : Loc) (four : Bool) (w : World) (ha : AtAt w a l) (h : a.origin < 0 ∨ 2 < a.origin ∨ a.next = 0 ∨ a.med < -1 ∨ 4294967295 < a.med ∨ a.pref < -1 ∨ 4294967295 < a.pref ∨ 8 < a.path.length ∨ 32 < a.comms.length) :
    Calls Tryd.prog 22 #[.agg (atL a l).toArray, .bool four] w fun e w' => e = .returned (.bool false) ∧ Below w.heap.size w w' := by
  have HB := Lib.hid (new_below w (.cells (atL a l).toArray 27))
  obtain ⟨origin, path, next, med, pref, comms⟩ := a
  obtain ⟨pp, pn, pc, cp, cn, cc⟩ := l
  have hn : path.length = pn := ha.pn
  have hc : comms.length = cn := ha.cn
  simp only [atL, hn, hc] at *
  have hx : origin < 0 ∨ ¬origin < 0 ∧ (2 < origin ∨ ¬2 < origin ∧ (next = 0 ∨ ¬next = 0 ∧ (med < -1 ∨ ¬med < -1 ∧ (4294967295 < med ∨ ¬4294967295 < med ∧ (pref < -1 ∨ ¬pref < -1 ∧ (4294967295 < pref ∨ ¬4294967295 < pref ∧ (8 < pn ∨ ¬8 < pn ∧ 32 < cn))))))) := by omega
  clear h ha hn hc
  rcases hx with h0 | ⟨h0, h1 | ⟨h1, h2 | ⟨h2, h3 | ⟨h3, h4 | ⟨h4, h5 | ⟨h5, h6 | ⟨h6, h7 | ⟨h7, h8⟩⟩⟩⟩⟩⟩⟩⟩
  all_goals
    (try subst h2)
    go_enter Tryd.func22, Tryd.ntmps22
    go_wp2
    go_ret
    exact ⟨rfl, HB.out⟩
end Go.Proofs.YtpeagakpmjnelaaDoor.Ax
