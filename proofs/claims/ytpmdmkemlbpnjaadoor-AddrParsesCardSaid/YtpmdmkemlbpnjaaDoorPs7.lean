/- AddrParses: the walk. -/
import Derived.Test.YtpmdmkemlbpnjaaDoorPs6
import Derived.Test.YtpmdmkemlbpnjaaDoorLives02
namespace Go.Proofs.YtpmdmkemlbpnjaaDoor
open Go.RowKit

set_option maxRecDepth 100000 in
set_option maxHeartbeats 4000000 in
theorem parses_go (s : ByteArray) (w : World) (ht : Tab w) (hs : s.size ≤ 1000) (pa pn pe av ae : Int) (po ao : Bool) (hp : (pe = 0 ∧ po = true) ∨ (pe = 20 ∧ po = false)) (ha : (ae = 0 ∧ ao = true) ∨ (ae = 20 ∧ ao = false ∧ av = 0))
    (h1 : ∀ W, Calls Tryd.prog 5 #[.string s] W fun e w' => e = .returned (.tuple #[.agg #[.int .u32 pa, .int .i64 pn], .int .i64 pe]) ∧ Below W.heap.size W w')
    (h2 : ∀ W, Calls Tryd.prog 6 #[.string s] W fun e w' => e = .returned (.tuple #[.agg #[.int .u32 pa, .int .i64 pn], .bool po]) ∧ Below W.heap.size W w')
    (h3 : ∀ W, Calls Tryd.prog 7 #[.string s] W fun e w' => e = .returned (.tuple #[.int .u32 av, .int .i64 ae]) ∧ Below W.heap.size W w')
    (h4 : ∀ W, Calls Tryd.prog 8 #[.string s] W fun e w' => e = .returned (.tuple #[.int .u32 av, .bool ao]) ∧ Below W.heap.size W w') :
    Calls Tryd.prog 3 #[.string s] w fun e w' => e = .returned (.bool true) ∧ Below w.heap.size w w' := by
  have t0 : decide ((1000 : Int) < (s.size : Int)) = false := by simp; omega
  have hq : ∀ w, (binOp .eql 25 (.agg #[.int .u32 pa, .int .i64 pn]) (.agg #[.int .u32 pa, .int .i64 pn])).run Tryd.prog w = .ok (.bool true) w := fun w => by rw [pfx_eql]; simp
  have hg := pfx_eqGuard
  have H1 := Lib.hid h1
  have H2 := Lib.hid h2
  have H3 := Lib.hid h3
  have H4 := Lib.hid h4
  have HT := Lib.hid ht
  clear h1 h2 h3 h4 ht hs
  rcases hp with ⟨rfl, rfl⟩ | ⟨rfl, rfl⟩ <;> rcases ha with ⟨rfl, rfl⟩ | ⟨rfl, rfl, rfl⟩
  all_goals
    go_enter Tryd.func3, Tryd.ntmps3
    go_wp2_with fail
    refine (H1.out _).mono ?_; rintro e w1 ⟨rfl, hb1⟩
    have hb2 := hb1.alloc hb1.size (.cells #[.int .u32 pa, .int .i64 pn] 25)
    have X1 := Lib.hid (Box.new w1 (.int .u32 pa) (.int .i64 pn))
    have B1 := Lib.hid hb2
    clear hb1 hb2
    go_wp2_with fail
    refine (H2.out _).mono ?_; rintro e w2 ⟨rfl, hb1⟩
    have hb2 := (B1.out.trans (hb1.mono B1.out.size))
    have hb3 := hb2.alloc hb2.size (.cells #[.int .u32 pa, .int .i64 pn] 25)
    have X2 := Lib.hid ((X1.out.below hb1).alloc (.cells #[.int .u32 pa, .int .i64 pn] 25))
    have Y2 := Lib.hid (Box.new w2 (.int .u32 pa) (.int .i64 pn))
    have B2 := Lib.hid hb3
    clear hb1 hb2 hb3
    go_wp2_with fail
    refine (H3.out _).mono ?_; rintro e w3 ⟨rfl, hb1⟩
    have X3 := Lib.hid (X2.out.below hb1)
    have Y3 := Lib.hid (Y2.out.below hb1)
    have B3 := Lib.hid (B2.out.trans (hb1.mono B2.out.size))
    clear hb1
    go_wp2_with fail
    refine (H4.out _).mono ?_; rintro e w4 ⟨rfl, hb1⟩
    have X4 := Lib.hid (X3.out.below hb1)
    have Y4 := Lib.hid (Y3.out.below hb1)
    have B4 := Lib.hid (B3.out.trans (hb1.mono B3.out.size))
    have HL := Lib.hid (lives_any w4 (HT.out.below B4.out))
    clear hb1
    go_wp2_with fail
    refine HL.out.mono ?_; rintro e w5 ⟨rfl, hb1⟩
    have X5 := X4.out.below hb1
    have Y5 := Y4.out.below hb1
    have B5 := Lib.hid (B4.out.trans (hb1.mono B4.out.size))
    have x0 := X5.c0
    have x1 := X5.c1
    have y0 := Y5.c0
    have y1 := Y5.c1
    clear hb1 X5 Y5
    go_wp2_with fail
    go_ret
    exact ⟨ret_bool (by simp), B5.out⟩
theorem parses_walk (w : World) (ht : Tab w) (s : ByteArray) (_ : s.size ≤ maxLen) :
    Calls Tryd.prog 3 #[.string s] w fun e w' => e = .returned (.bool true) ∧ Below w.heap.size w w' := by
  by_cases h : 1000 < s.size
  · have t0 : decide ((1000 : Int) < (s.size : Int)) = true := by simp; omega
    have HL := Lib.hid (lives_any w ht)
    go_enter Tryd.func3, Tryd.ntmps3
    go_wp2_with fail
    refine HL.out.mono ?_; rintro e w1 ⟨rfl, hb⟩
    have HB := Lib.hid hb
    clear hb
    go_wp2_with fail
    go_ret
    exact ⟨rfl, HB.out⟩
  · have hs : s.size ≤ 1000 := by omega
    refine parses_go s w ht hs ((parseL s.data.toList).getD (0, 0)).1 ((parseL s.data.toList).getD (0, 0)).2 (if (parseL s.data.toList).isSome then 0 else 20) (match addrL s.data.toList with | none => 0 | some l => getV l) (match addrL s.data.toList with | none => 20 | some _ => 0) (parseL s.data.toList).isSome (addrL s.data.toList).isSome ?_ ?_ (fun W => parse_any s W (by omega)) (fun W => rparse_any s W hs) (fun W => address_any s W (by omega)) (fun W => raddress_any s W hs)
    · cases parseL s.data.toList
      · exact .inr ⟨rfl, rfl⟩
      · exact .inl ⟨rfl, rfl⟩
    · cases addrL s.data.toList
      · exact .inr ⟨rfl, rfl, rfl⟩
      · exact .inl ⟨rfl, rfl⟩
end Go.Proofs.YtpmdmkemlbpnjaaDoor
