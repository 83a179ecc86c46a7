/- trie: TrieNobody's walk. -/
import Derived.Test.YtpamkckhhffgdaaTW
namespace Go.Proofs.Ytpamkckhhffgdaa
open Go.RowKit
set_option linter.unusedVariables false
set_option linter.unusedSimpArgs false

set_option maxRecDepth 100000 in
set_option maxHeartbeats 8000000 in
theorem nobody_walk (w : World) (pa pn : Int) (p0 : 0 ≤ pa) (p1 : pa ≤ 4294967295) (a : Int) (a0 : 0 ≤ a) (a1 : a ≤ 4294967295) :
    Calls Try.prog 6 #[.agg #[.int .u32 pa, .int .i64 pn], .int .u32 a] w fun e w' => e = .returned (.bool true) ∧ Below w.heap.size w w' := by
  have p1 : pa < 4294967296 := by omega
  have a1 : a < 4294967296 := by omega
  have HA := Lib.hid (newB w (.cells #[.int .u32 pa, .int .i64 pn] 32))
  have hX := Blk.new w 32 [.int .u32 pa, .int .i64 pn]
  obtain ⟨V, hV⟩ : ∃ V, w.alloc (.cells #[.int .u32 pa, .int .i64 pn] 32) = V := ⟨_, rfl⟩
  obtain ⟨P, hP⟩ : ∃ P, w.heap.size = P := ⟨_, rfl⟩
  have hX : Blk V P 32 [.int .u32 pa, .int .i64 pn] := hP ▸ hV ▸ hX
  rw [hV] at HA
  have HX := Lib.hid hX
  have q0 : V.cell? ⟨P, 0, none⟩ = some (.int .u32 pa) := hX.cell 0 (by simp)
  have q1 : V.cell? ⟨P, 1, none⟩ = some (.int .i64 pn) := hX.cell 1 (by simp)
  have HV := Lib.hid hV
  have HP := Lib.hid hP
  clear hX hV hP
  go_enter Try.func6, Try.ntmps6
  go_wp2_with fail
  rw [HV.out, HP.out]
  refine (get_nil V pa pn p0 p1).mono ?_
  rintro e w1 ⟨rfl, hb⟩
  have HB1 := Lib.hid (HA.out.trans (hb.mono HA.out.size))
  have HX1 := Lib.hid (HX.out.next hb)
  clear hb q0 q1
  go_wp2_with fail
  refine (longest_nil w1 a a0 a1).mono ?_
  rintro e w2 ⟨rfl, hb⟩
  have hb2 : Below w1.heap.size w1 (w2.alloc (.cells #[.int .u32 0, .int .i64 0] 32)) := hb.alloc hb.size _
  have HB2 := Lib.hid (HB1.out.trans (hb2.mono HB1.out.size))
  have HX2 := Lib.hid (HX1.out.next hb2)
  have hQ := Blk.new w2 32 [.int .u32 0, .int .i64 0]
  obtain ⟨V2, hV2⟩ : ∃ V, w2.alloc (.cells #[.int .u32 0, .int .i64 0] 32) = V := ⟨_, rfl⟩
  obtain ⟨Q, hQQ⟩ : ∃ Q, w2.heap.size = Q := ⟨_, rfl⟩
  rw [hV2, hQQ] at hQ
  rw [hV2] at HB2 HX2
  have HQ := Lib.hid hQ
  have HV2 := Lib.hid hV2
  have HQQ := Lib.hid hQQ
  clear hb hb2 hQ hV2 hQQ
  go_wp2_with fail
  rw [HV2.out, HQQ.out]
  refine (lives_any V2).mono ?_
  rintro e w3 ⟨rfl, hb⟩
  have HB3 := Lib.hid (HB2.out.trans (hb.mono HB2.out.size))
  have HX3 := Lib.hid (HX2.out.next hb)
  have HQ3 := Lib.hid (HQ.out.next hb)
  have x0 : w3.cell? ⟨P, 0, none⟩ = some (.int .u32 pa) := HX3.out.cell 0 (by simp)
  have x1 : w3.cell? ⟨P, 1, none⟩ = some (.int .i64 pn) := HX3.out.cell 1 (by simp)
  clear hb
  go_wp2_with fail
  refine (set_nil w3 pa pn 1).mono ?_
  rintro e w4 ⟨rfl, hb⟩
  have HB4 := Lib.hid (HB3.out.trans (hb.mono HB3.out.size))
  have HX4 := Lib.hid (HX3.out.next hb)
  have HQ4 := Lib.hid (HQ3.out.next hb)
  have x0 : w4.cell? ⟨P, 0, none⟩ = some (.int .u32 pa) := HX4.out.cell 0 (by simp)
  have x1 : w4.cell? ⟨P, 1, none⟩ = some (.int .i64 pn) := HX4.out.cell 1 (by simp)
  have y0 : w4.cell? ⟨Q, 0, none⟩ = some (.int .u32 0) := HQ4.out.cell 0 (by simp)
  have y1 : w4.cell? ⟨Q, 1, none⟩ = some (.int .i64 0) := HQ4.out.cell 1 (by simp)
  have hE := fun (U : World) => pfx_eql 0 0 0 0 U
  rw [show ((0 : Int) == 0 && (0 : Int) == 0) = true from by decide] at hE
  have hEG := fun (op : BinOp) (x y : Operand) (xs ys : Array Value) (U : World) => pfx_eqGuard op x y xs ys U
  clear hb
  go_wp2_with fail
  refine (delete_nil w4 pa pn p0 p1).mono ?_
  rintro e w5 ⟨rfl, hb⟩
  have HB5 := Lib.hid (HB4.out.trans (hb.mono HB4.out.size))
  have HX5 := Lib.hid (HX4.out.next hb)
  clear hb x0 x1 y0 y1 hE hEG
  go_wp2_with fail
  refine (prefixes_nil w5).mono ?_
  rintro e w6 ⟨rfl, hb⟩
  have HB6 := Lib.hid (HB5.out.trans (hb.mono HB5.out.size))
  have HX6 := Lib.hid (HX5.out.next hb)
  have x0 : w6.cell? ⟨P, 0, none⟩ = some (.int .u32 pa) := HX6.out.cell 0 (by simp)
  have x1 : w6.cell? ⟨P, 1, none⟩ = some (.int .i64 pn) := HX6.out.cell 1 (by simp)
  clear hb
  go_wp2_with fail
  refine (within_nil w6 pa pn p0 p1).mono ?_
  rintro e w7 ⟨rfl, hb⟩
  have HB7 := Lib.hid (HB6.out.trans (hb.mono HB6.out.size))
  clear hb x0 x1
  go_wp2_with fail
  refine (len_nil w7).mono ?_
  rintro e w8 ⟨rfl, rfl⟩
  go_wp2_with fail
  go_ret
  exact ⟨rfl, HB7.out⟩
end Go.Proofs.Ytpamkckhhffgdaa
