/- QueueNobody: the walk. -/
import Derived.Test.YtbgofccnhehodaaQ6
namespace Go.Proofs.Ytbgofccnhehodaa
open Go.RowKit
theorem nobody_walk (w : World) (n : Int) (_ : (Lit.int .i64 n).wf = true) (q : Option Addr) (xs : List Int) (c : Nat) (hb : BytesAt w q xs) (hc : xs.length ≤ c) (hm : c ≤ maxLen) :
    Calls Try.prog 5 #[.int .i64 n, .slice q xs.length c] w fun e w' => e = .returned (.bool true) ∧ Below w.heap.size w w' := by
  generalize xs.length = m at *
  clear hb
  have HL := Lib.hid (qlives_any w)
  go_enter Try.func5, Try.ntmps5
  go_wp2_with (first
    | (go_at_call 9; refine HL.out.mono ?_; rintro e w1 ⟨rfl, hb⟩; have HB := Lib.hid hb; clear hb)
    | (go_at_call 10; refine (qput_nil _ _ _ _).mono ?_; rintro e w' ⟨rfl, rfl⟩)
    | (go_at_call 12; refine (qtake_nil _ _).mono ?_; rintro e w' ⟨rfl, rfl⟩)
    | (go_at_call 15; refine (qlen_nil _).mono ?_; rintro e w' ⟨rfl, rfl⟩)
    | (go_at_call 16; refine (qroom_nil _).mono ?_; rintro e w' ⟨rfl, rfl⟩)
    | (go_at_call 14; refine (qclear_nil _).mono ?_; rintro e w' ⟨rfl, rfl⟩)
    | (go_at_call 17; refine (qall_nil _).mono ?_; rintro e w' ⟨rfl, rfl⟩))
  go_ret
  exact ⟨rfl, HB.out⟩
end Go.Proofs.Ytbgofccnhehodaa
