/- hop: the answer's Iface and Find. -/
import Derived.Test.YtfibkccgpkeenaaWM
namespace Go.Proofs.Ytfibkccgpkeenaa
open Go.RowKit
set_option linter.unusedVariables false
set_option linter.unusedSimpArgs false
set_option maxRecDepth 100000

theorem byId_step (l : List Ifc) (id : Int) (k : Nat) (hk : k < l.length) : byId (l.drop k) id = if (l.getD k Ifc.zero).id = id then some (l.getD k Ifc.zero) else byId (l.drop (k + 1)) id := by
  unfold byId
  rw [List.drop_eq_getElem_cons hk, List.find?_cons, show l.getD k Ifc.zero = l[k] by simp [List.getD, hk]]
  by_cases h : l[k].id = id
  · rw [if_pos h, show decide (l[k].id = id) = true from decide_eq_true h]
  · rw [if_neg h, show decide (l[k].id = id) = false from decide_eq_false h]
set_option maxHeartbeats 8000000 in
theorem rifaceI_any (p : Option Addr) (l : List Ifc) (n c : Nat) (id : Int) (w : World) (hl : IfsAt w p l) (hn : l.length = n) (hm : n ≤ maxLen) :
    Calls Try.prog 14 #[.slice p n c, .int .i64 id] w fun e w' => e = .returned (.tuple #[ifV ((byId l id).getD Ifc.zero), .bool (byId l id).isSome]) ∧ Below w.heap.size w w' := by
  unfold maxLen at hm
  have HL := Lib.hid hl
  have HN := Lib.hid hn
  obtain ⟨b0, hb0⟩ : ∃ x, byId l id = x := ⟨_, rfl⟩
  have HB0 := Lib.hid hb0
  rw [hb0]
  clear hl hn hb0
  go_enter Try.func14, Try.ntmps14
  go_wp2_with fail
  go_loopw [6] (fun v wr => ∃ k : Nat, k ≤ n ∧ v = .int .i64 k ∧ b0 = byId (l.drop k) id ∧ Below w.heap.size w wr ∧ Blk wr w.heap.size 34 [.int .i64 0, .int .i64 0, .int .u32 0, .int .i64 0, .int .i64 0]) (fun v _ => n - (intOf v).toNat)
  case atStart => exact ⟨0, Nat.zero_le _, rfl, by rw [List.drop_zero]; exact HB0.out.symm, newB _ _, Blk.new w 34 [.int .i64 0, .int .i64 0, .int .u32 0, .int .i64 0, .int .i64 0]⟩
  case round =>
    obtain ⟨k, hk, rfl, hbk, hB, hZ⟩ := hrel
    have HB := Lib.hid hB
    have HZ := Lib.hid hZ
    obtain ⟨z0, z1, z2, z3, z4⟩ := if_boxes hZ
    have zf0 := hZ.f 0
    have zf1 := hZ.f 1
    have zf2 := hZ.f 2
    have zf3 := hZ.f 3
    have zf4 := hZ.f 4
    clear hZ
    by_cases hlt : k < n
    · obtain ⟨b, off, rfl, c0, c1, c2, c3, c4⟩ := if_cell (HL.out.below HB.out) HN.out hlt
      rw [byId_step l id k (by rw [HN.out]; exact hlt)] at hbk
      obtain ⟨x, hx⟩ : ∃ x, l.getD k Ifc.zero = x := ⟨_, rfl⟩
      rw [hx] at c0 c1 c2 c3 c4 hbk
      obtain ⟨xi, xr, xa, xn, xc⟩ := x
      simp only at c0 c1 c2 c3 c4
      have hltI : (k : Int) < (n : Int) := by omega
      by_cases e : xi = id
      · rw [if_pos e] at hbk
        have t1 : decide (xi = id) = true := decide_eq_true e
        have t1b : (xi == id) = true := by simpa using e
        have HBK := Lib.hid hbk
        clear hbk hx e hB
        go_wp2_with fail
        have hq := Blk.five HZ.out (.int .i64 xi) (.int .i64 xr) (.int .u32 xa) (.int .i64 xn) (.int .i64 xc)
        obtain ⟨y0, y1, y2, y3, y4⟩ := if_boxes hq
        exact bodyPost_ret (v := .tuple #[.agg #[.int .i64 xi, .int .i64 xr, .int .u32 xa, .int .i64 xn, .int .i64 xc], .bool true]) (by simp [results, Try.results14, go_sem, y0, y1, y2, y3, y4]) rfl ⟨by rw [HBK.out]; rfl, below_five HB.out (Nat.le_refl _) _ _ _ _ _⟩
      · rw [if_neg e] at hbk
        have t1 : decide (xi = id) = false := decide_eq_false e
        have t1b : (xi == id) = false := by simpa using e
        have HBK := Lib.hid hbk
        clear hbk hx e hB
        go_wp2_with fail
        go_roundw
        case rel => exact ⟨k + 1, by omega, by go_num, HBK.out, HB.out, HZ.out⟩
        case measure => simp [intOf]; omega
    · obtain rfl : k = n := by omega
      rw [List.drop_eq_nil_of_le (by rw [HN.out]; omega)] at hbk
      have HBK := Lib.hid (show b0 = none from hbk)
      clear hbk
      go_wp2_with fail
      have hq := Blk.five HZ.out (.int .i64 0) (.int .i64 0) (.int .u32 0) (.int .i64 0) (.int .i64 0)
      obtain ⟨y0, y1, y2, y3, y4⟩ := if_boxes hq
      exact bodyPost_ret (v := .tuple #[.agg #[.int .i64 0, .int .i64 0, .int .u32 0, .int .i64 0, .int .i64 0], .bool false]) (by simp [results, Try.results14, go_sem, y0, y1, y2, y3, y4]) rfl ⟨by rw [HBK.out]; rfl, below_five HB.out (Nat.le_refl _) _ _ _ _ _⟩
end Go.Proofs.Ytfibkccgpkeenaa
