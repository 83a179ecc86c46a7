/- attr: Check. -/
import Derived.Test.YtpeagakpmjnelaaDoorA1
namespace Go.Proofs.YtpeagakpmjnelaaDoor.Ax
open Go.RowKit
set_option maxRecDepth 100000

/-- Attributes that came by value lie in a variable. -/
structure BoxSt (w0 w : World) (gb : Nat) (a : At) (l : Loc) : Prop where
  kb : Blk w gb 27 (atL a l)
  ad : AtAt w a l
  bel : Below w0.heap.size w0 w
theorem BoxSt.next {w0 w w' : World} {gb : Nat} {a : At} {l : Loc} (h : BoxSt w0 w gb a l) (hb : Below w.heap.size w w') : BoxSt w0 w' gb a l :=
  ⟨h.kb.next hb, h.ad.below hb, h.bel.trans (hb.mono h.bel.size)⟩
theorem BoxSt.new {w : World} {a : At} {l : Loc} (h : AtAt w a l) : BoxSt w (w.alloc (.cells (atL a l).toArray 27)) w.heap.size a l :=
  ⟨Blk.new w 27 (atL a l), h.below (new_below _ _), new_below _ _⟩
def errA (a : At) (four : Bool) : Int := if okA a four then 0 else 50

set_option maxHeartbeats 1000000 in
theorem checkA_0 (origin next med pref : Int) (path : List Seg) (comms : List Int) (pp cp : Option Addr) (pn pc cn cc : Nat) (four : Bool) (w : World) (ha : AtAt w ⟨origin, path, next, med, pref, comms⟩ ⟨pp, pn, pc, cp, cn, cc⟩)  (h0 : oddB 0 2 origin = true) :
    Calls Tryd.prog 70 #[.agg #[.int .i64 origin, .slice pp pn pc, .int .u32 next, .int .i64 med, .int .i64 pref, .slice cp cn cc], .bool four] w fun e w' => e = .returned (.int .i64 50) ∧ Below w.heap.size w w' := by
  have S0 := BoxSt.new ha
  have HL := Lib.hid (show pn ≤ maxLen ∧ cn ≤ maxLen ∧ path.length = pn ∧ comms.length = cn from ⟨Nat.le_trans ha.pc ha.pm, Nat.le_trans ha.cc ha.cm, ha.pn, ha.cn⟩)
  obtain ⟨W, hW⟩ : ∃ W, w.alloc (.cells #[.int .i64 origin, .slice pp pn pc, .int .u32 next, .int .i64 med, .int .i64 pref, .slice cp cn cc] 27) = W := ⟨_, rfl⟩
  rw [show (atL ⟨origin, path, next, med, pref, comms⟩ ⟨pp, pn, pc, cp, cn, cc⟩).toArray = #[.int .i64 origin, .slice pp pn pc, .int .u32 next, .int .i64 med, .int .i64 pref, .slice cp cn cc] from rfl, hW] at S0
  have HS0 := Lib.hid S0
  have HW := Lib.hid hW
  clear ha S0 hW
  go_enter Tryd.func70, Tryd.ntmps70
  go_wp2_with fail
  rw [HW.out]
  refine (beyond_any (-1) 4294967295 W).mono ?_; rintro e w1 ⟨rfl, ho, hb⟩
  have HO1 := Lib.hid ho
  have S1 := Lib.hid (HS0.out.next hb)
  unfold oddF
  clear ho hb HS0
  have c0 := S1.out.kb.cell 0 (by simp [atL])
  have c1 := S1.out.kb.cell 1 (by simp [atL])
  have c2 := S1.out.kb.cell 2 (by simp [atL])
  have c3 := S1.out.kb.cell 3 (by simp [atL])
  have c4 := S1.out.kb.cell 4 (by simp [atL])
  have c5 := S1.out.kb.cell 5 (by simp [atL])
  simp only [atL, List.getD_cons_zero, List.getD_cons_succ] at c0 c1 c2 c3 c4 c5
  go_wp2_with fail
  refine (origin_any origin w1).mono ?_; rintro e w2 ⟨rfl, hb⟩
  rw [h0]
  have HO2 := Lib.hid (HO1.out.below hb)
  have S2 := Lib.hid (S1.out.next hb)
  clear hb c0 c1 c2 c3 c4 c5 HO1 S1
  have c0 := S2.out.kb.cell 0 (by simp [atL])
  have c1 := S2.out.kb.cell 1 (by simp [atL])
  have c2 := S2.out.kb.cell 2 (by simp [atL])
  have c3 := S2.out.kb.cell 3 (by simp [atL])
  have c4 := S2.out.kb.cell 4 (by simp [atL])
  have c5 := S2.out.kb.cell 5 (by simp [atL])
  simp only [atL, List.getD_cons_zero, List.getD_cons_succ] at c0 c1 c2 c3 c4 c5
  go_wp2_with fail
  go_ret
  exact ⟨rfl, S2.out.bel⟩

set_option maxHeartbeats 1000000 in
theorem checkA_1 (origin next med pref : Int) (path : List Seg) (comms : List Int) (pp cp : Option Addr) (pn pc cn cc : Nat) (four : Bool) (w : World) (ha : AtAt w ⟨origin, path, next, med, pref, comms⟩ ⟨pp, pn, pc, cp, cn, cc⟩) (h0 : oddB 0 2 origin = false) (h1 : okPath path four = false) :
    Calls Tryd.prog 70 #[.agg #[.int .i64 origin, .slice pp pn pc, .int .u32 next, .int .i64 med, .int .i64 pref, .slice cp cn cc], .bool four] w fun e w' => e = .returned (.int .i64 50) ∧ Below w.heap.size w w' := by
  have S0 := BoxSt.new ha
  have HL := Lib.hid (show pn ≤ maxLen ∧ cn ≤ maxLen ∧ path.length = pn ∧ comms.length = cn from ⟨Nat.le_trans ha.pc ha.pm, Nat.le_trans ha.cc ha.cm, ha.pn, ha.cn⟩)
  obtain ⟨W, hW⟩ : ∃ W, w.alloc (.cells #[.int .i64 origin, .slice pp pn pc, .int .u32 next, .int .i64 med, .int .i64 pref, .slice cp cn cc] 27) = W := ⟨_, rfl⟩
  rw [show (atL ⟨origin, path, next, med, pref, comms⟩ ⟨pp, pn, pc, cp, cn, cc⟩).toArray = #[.int .i64 origin, .slice pp pn pc, .int .u32 next, .int .i64 med, .int .i64 pref, .slice cp cn cc] from rfl, hW] at S0
  have HS0 := Lib.hid S0
  have HW := Lib.hid hW
  clear ha S0 hW
  go_enter Tryd.func70, Tryd.ntmps70
  go_wp2_with fail
  rw [HW.out]
  refine (beyond_any (-1) 4294967295 W).mono ?_; rintro e w1 ⟨rfl, ho, hb⟩
  have HO1 := Lib.hid ho
  have S1 := Lib.hid (HS0.out.next hb)
  unfold oddF
  clear ho hb HS0
  have c0 := S1.out.kb.cell 0 (by simp [atL])
  have c1 := S1.out.kb.cell 1 (by simp [atL])
  have c2 := S1.out.kb.cell 2 (by simp [atL])
  have c3 := S1.out.kb.cell 3 (by simp [atL])
  have c4 := S1.out.kb.cell 4 (by simp [atL])
  have c5 := S1.out.kb.cell 5 (by simp [atL])
  simp only [atL, List.getD_cons_zero, List.getD_cons_succ] at c0 c1 c2 c3 c4 c5
  go_wp2_with fail
  refine (origin_any origin w1).mono ?_; rintro e w2 ⟨rfl, hb⟩
  rw [h0]
  have HO2 := Lib.hid (HO1.out.below hb)
  have S2 := Lib.hid (S1.out.next hb)
  clear hb c0 c1 c2 c3 c4 c5 HO1 S1
  have c0 := S2.out.kb.cell 0 (by simp [atL])
  have c1 := S2.out.kb.cell 1 (by simp [atL])
  have c2 := S2.out.kb.cell 2 (by simp [atL])
  have c3 := S2.out.kb.cell 3 (by simp [atL])
  have c4 := S2.out.kb.cell 4 (by simp [atL])
  have c5 := S2.out.kb.cell 5 (by simp [atL])
  simp only [atL, List.getD_cons_zero, List.getD_cons_succ] at c0 c1 c2 c3 c4 c5
  go_wp2_with fail
  refine (path_any pp path pn pc four w2 (S2.out.ad.path) HL.out.2.2.1 HL.out.1).mono ?_; rintro e w3 ⟨rfl, hb⟩
  rw [h1]
  have HO3 := Lib.hid (HO2.out.below hb)
  have S3 := Lib.hid (S2.out.next hb)
  clear hb c0 c1 c2 c3 c4 c5 HO2 S2
  have c0 := S3.out.kb.cell 0 (by simp [atL])
  have c1 := S3.out.kb.cell 1 (by simp [atL])
  have c2 := S3.out.kb.cell 2 (by simp [atL])
  have c3 := S3.out.kb.cell 3 (by simp [atL])
  have c4 := S3.out.kb.cell 4 (by simp [atL])
  have c5 := S3.out.kb.cell 5 (by simp [atL])
  simp only [atL, List.getD_cons_zero, List.getD_cons_succ] at c0 c1 c2 c3 c4 c5
  go_wp2_with fail
  go_ret
  exact ⟨rfl, S3.out.bel⟩

set_option maxHeartbeats 1000000 in
theorem checkA_2 (origin next med pref : Int) (path : List Seg) (comms : List Int) (pp cp : Option Addr) (pn pc cn cc : Nat) (four : Bool) (w : World) (ha : AtAt w ⟨origin, path, next, med, pref, comms⟩ ⟨pp, pn, pc, cp, cn, cc⟩) (h0 : oddB 0 2 origin = false) (h1 : okPath path four = true) (h2 : (next == 0) = true) :
    Calls Tryd.prog 70 #[.agg #[.int .i64 origin, .slice pp pn pc, .int .u32 next, .int .i64 med, .int .i64 pref, .slice cp cn cc], .bool four] w fun e w' => e = .returned (.int .i64 50) ∧ Below w.heap.size w w' := by
  have S0 := BoxSt.new ha
  have HL := Lib.hid (show pn ≤ maxLen ∧ cn ≤ maxLen ∧ path.length = pn ∧ comms.length = cn from ⟨Nat.le_trans ha.pc ha.pm, Nat.le_trans ha.cc ha.cm, ha.pn, ha.cn⟩)
  obtain ⟨W, hW⟩ : ∃ W, w.alloc (.cells #[.int .i64 origin, .slice pp pn pc, .int .u32 next, .int .i64 med, .int .i64 pref, .slice cp cn cc] 27) = W := ⟨_, rfl⟩
  rw [show (atL ⟨origin, path, next, med, pref, comms⟩ ⟨pp, pn, pc, cp, cn, cc⟩).toArray = #[.int .i64 origin, .slice pp pn pc, .int .u32 next, .int .i64 med, .int .i64 pref, .slice cp cn cc] from rfl, hW] at S0
  have HS0 := Lib.hid S0
  have HW := Lib.hid hW
  clear ha S0 hW
  go_enter Tryd.func70, Tryd.ntmps70
  go_wp2_with fail
  rw [HW.out]
  refine (beyond_any (-1) 4294967295 W).mono ?_; rintro e w1 ⟨rfl, ho, hb⟩
  have HO1 := Lib.hid ho
  have S1 := Lib.hid (HS0.out.next hb)
  unfold oddF
  clear ho hb HS0
  have c0 := S1.out.kb.cell 0 (by simp [atL])
  have c1 := S1.out.kb.cell 1 (by simp [atL])
  have c2 := S1.out.kb.cell 2 (by simp [atL])
  have c3 := S1.out.kb.cell 3 (by simp [atL])
  have c4 := S1.out.kb.cell 4 (by simp [atL])
  have c5 := S1.out.kb.cell 5 (by simp [atL])
  simp only [atL, List.getD_cons_zero, List.getD_cons_succ] at c0 c1 c2 c3 c4 c5
  go_wp2_with fail
  refine (origin_any origin w1).mono ?_; rintro e w2 ⟨rfl, hb⟩
  rw [h0]
  have HO2 := Lib.hid (HO1.out.below hb)
  have S2 := Lib.hid (S1.out.next hb)
  clear hb c0 c1 c2 c3 c4 c5 HO1 S1
  have c0 := S2.out.kb.cell 0 (by simp [atL])
  have c1 := S2.out.kb.cell 1 (by simp [atL])
  have c2 := S2.out.kb.cell 2 (by simp [atL])
  have c3 := S2.out.kb.cell 3 (by simp [atL])
  have c4 := S2.out.kb.cell 4 (by simp [atL])
  have c5 := S2.out.kb.cell 5 (by simp [atL])
  simp only [atL, List.getD_cons_zero, List.getD_cons_succ] at c0 c1 c2 c3 c4 c5
  go_wp2_with fail
  refine (path_any pp path pn pc four w2 (S2.out.ad.path) HL.out.2.2.1 HL.out.1).mono ?_; rintro e w3 ⟨rfl, hb⟩
  rw [h1]
  have HO3 := Lib.hid (HO2.out.below hb)
  have S3 := Lib.hid (S2.out.next hb)
  clear hb c0 c1 c2 c3 c4 c5 HO2 S2
  have c0 := S3.out.kb.cell 0 (by simp [atL])
  have c1 := S3.out.kb.cell 1 (by simp [atL])
  have c2 := S3.out.kb.cell 2 (by simp [atL])
  have c3 := S3.out.kb.cell 3 (by simp [atL])
  have c4 := S3.out.kb.cell 4 (by simp [atL])
  have c5 := S3.out.kb.cell 5 (by simp [atL])
  simp only [atL, List.getD_cons_zero, List.getD_cons_succ] at c0 c1 c2 c3 c4 c5
  go_wp2_with fail
  go_ret
  exact ⟨rfl, S3.out.bel⟩

set_option maxHeartbeats 1000000 in
theorem checkA_3 (origin next med pref : Int) (path : List Seg) (comms : List Int) (pp cp : Option Addr) (pn pc cn cc : Nat) (four : Bool) (w : World) (ha : AtAt w ⟨origin, path, next, med, pref, comms⟩ ⟨pp, pn, pc, cp, cn, cc⟩) (h0 : oddB 0 2 origin = false) (h1 : okPath path four = true) (h2 : (next == 0) = false) (h3 : oddB (-1) 4294967295 med = true) :
    Calls Tryd.prog 70 #[.agg #[.int .i64 origin, .slice pp pn pc, .int .u32 next, .int .i64 med, .int .i64 pref, .slice cp cn cc], .bool four] w fun e w' => e = .returned (.int .i64 50) ∧ Below w.heap.size w w' := by
  have S0 := BoxSt.new ha
  have HL := Lib.hid (show pn ≤ maxLen ∧ cn ≤ maxLen ∧ path.length = pn ∧ comms.length = cn from ⟨Nat.le_trans ha.pc ha.pm, Nat.le_trans ha.cc ha.cm, ha.pn, ha.cn⟩)
  obtain ⟨W, hW⟩ : ∃ W, w.alloc (.cells #[.int .i64 origin, .slice pp pn pc, .int .u32 next, .int .i64 med, .int .i64 pref, .slice cp cn cc] 27) = W := ⟨_, rfl⟩
  rw [show (atL ⟨origin, path, next, med, pref, comms⟩ ⟨pp, pn, pc, cp, cn, cc⟩).toArray = #[.int .i64 origin, .slice pp pn pc, .int .u32 next, .int .i64 med, .int .i64 pref, .slice cp cn cc] from rfl, hW] at S0
  have HS0 := Lib.hid S0
  have HW := Lib.hid hW
  clear ha S0 hW
  go_enter Tryd.func70, Tryd.ntmps70
  go_wp2_with fail
  rw [HW.out]
  refine (beyond_any (-1) 4294967295 W).mono ?_; rintro e w1 ⟨rfl, ho, hb⟩
  have HO1 := Lib.hid ho
  have S1 := Lib.hid (HS0.out.next hb)
  unfold oddF
  clear ho hb HS0
  have c0 := S1.out.kb.cell 0 (by simp [atL])
  have c1 := S1.out.kb.cell 1 (by simp [atL])
  have c2 := S1.out.kb.cell 2 (by simp [atL])
  have c3 := S1.out.kb.cell 3 (by simp [atL])
  have c4 := S1.out.kb.cell 4 (by simp [atL])
  have c5 := S1.out.kb.cell 5 (by simp [atL])
  simp only [atL, List.getD_cons_zero, List.getD_cons_succ] at c0 c1 c2 c3 c4 c5
  go_wp2_with fail
  refine (origin_any origin w1).mono ?_; rintro e w2 ⟨rfl, hb⟩
  rw [h0]
  have HO2 := Lib.hid (HO1.out.below hb)
  have S2 := Lib.hid (S1.out.next hb)
  clear hb c0 c1 c2 c3 c4 c5 HO1 S1
  have c0 := S2.out.kb.cell 0 (by simp [atL])
  have c1 := S2.out.kb.cell 1 (by simp [atL])
  have c2 := S2.out.kb.cell 2 (by simp [atL])
  have c3 := S2.out.kb.cell 3 (by simp [atL])
  have c4 := S2.out.kb.cell 4 (by simp [atL])
  have c5 := S2.out.kb.cell 5 (by simp [atL])
  simp only [atL, List.getD_cons_zero, List.getD_cons_succ] at c0 c1 c2 c3 c4 c5
  go_wp2_with fail
  refine (path_any pp path pn pc four w2 (S2.out.ad.path) HL.out.2.2.1 HL.out.1).mono ?_; rintro e w3 ⟨rfl, hb⟩
  rw [h1]
  have HO3 := Lib.hid (HO2.out.below hb)
  have S3 := Lib.hid (S2.out.next hb)
  clear hb c0 c1 c2 c3 c4 c5 HO2 S2
  have c0 := S3.out.kb.cell 0 (by simp [atL])
  have c1 := S3.out.kb.cell 1 (by simp [atL])
  have c2 := S3.out.kb.cell 2 (by simp [atL])
  have c3 := S3.out.kb.cell 3 (by simp [atL])
  have c4 := S3.out.kb.cell 4 (by simp [atL])
  have c5 := S3.out.kb.cell 5 (by simp [atL])
  simp only [atL, List.getD_cons_zero, List.getD_cons_succ] at c0 c1 c2 c3 c4 c5
  go_wp2_with fail
  refine (odd_any W.heap.size (-1) 4294967295 med w3 HO3.out).mono ?_; rintro e w4 ⟨rfl, rfl⟩
  rw [h3]
  go_wp2_with fail
  go_ret
  exact ⟨rfl, S3.out.bel⟩

set_option maxHeartbeats 1000000 in
theorem checkA_4 (origin next med pref : Int) (path : List Seg) (comms : List Int) (pp cp : Option Addr) (pn pc cn cc : Nat) (four : Bool) (w : World) (ha : AtAt w ⟨origin, path, next, med, pref, comms⟩ ⟨pp, pn, pc, cp, cn, cc⟩) (h0 : oddB 0 2 origin = false) (h1 : okPath path four = true) (h2 : (next == 0) = false) (h3 : oddB (-1) 4294967295 med = false) (h4 : oddB (-1) 4294967295 pref = true) :
    Calls Tryd.prog 70 #[.agg #[.int .i64 origin, .slice pp pn pc, .int .u32 next, .int .i64 med, .int .i64 pref, .slice cp cn cc], .bool four] w fun e w' => e = .returned (.int .i64 50) ∧ Below w.heap.size w w' := by
  have S0 := BoxSt.new ha
  have HL := Lib.hid (show pn ≤ maxLen ∧ cn ≤ maxLen ∧ path.length = pn ∧ comms.length = cn from ⟨Nat.le_trans ha.pc ha.pm, Nat.le_trans ha.cc ha.cm, ha.pn, ha.cn⟩)
  obtain ⟨W, hW⟩ : ∃ W, w.alloc (.cells #[.int .i64 origin, .slice pp pn pc, .int .u32 next, .int .i64 med, .int .i64 pref, .slice cp cn cc] 27) = W := ⟨_, rfl⟩
  rw [show (atL ⟨origin, path, next, med, pref, comms⟩ ⟨pp, pn, pc, cp, cn, cc⟩).toArray = #[.int .i64 origin, .slice pp pn pc, .int .u32 next, .int .i64 med, .int .i64 pref, .slice cp cn cc] from rfl, hW] at S0
  have HS0 := Lib.hid S0
  have HW := Lib.hid hW
  clear ha S0 hW
  go_enter Tryd.func70, Tryd.ntmps70
  go_wp2_with fail
  rw [HW.out]
  refine (beyond_any (-1) 4294967295 W).mono ?_; rintro e w1 ⟨rfl, ho, hb⟩
  have HO1 := Lib.hid ho
  have S1 := Lib.hid (HS0.out.next hb)
  unfold oddF
  clear ho hb HS0
  have c0 := S1.out.kb.cell 0 (by simp [atL])
  have c1 := S1.out.kb.cell 1 (by simp [atL])
  have c2 := S1.out.kb.cell 2 (by simp [atL])
  have c3 := S1.out.kb.cell 3 (by simp [atL])
  have c4 := S1.out.kb.cell 4 (by simp [atL])
  have c5 := S1.out.kb.cell 5 (by simp [atL])
  simp only [atL, List.getD_cons_zero, List.getD_cons_succ] at c0 c1 c2 c3 c4 c5
  go_wp2_with fail
  refine (origin_any origin w1).mono ?_; rintro e w2 ⟨rfl, hb⟩
  rw [h0]
  have HO2 := Lib.hid (HO1.out.below hb)
  have S2 := Lib.hid (S1.out.next hb)
  clear hb c0 c1 c2 c3 c4 c5 HO1 S1
  have c0 := S2.out.kb.cell 0 (by simp [atL])
  have c1 := S2.out.kb.cell 1 (by simp [atL])
  have c2 := S2.out.kb.cell 2 (by simp [atL])
  have c3 := S2.out.kb.cell 3 (by simp [atL])
  have c4 := S2.out.kb.cell 4 (by simp [atL])
  have c5 := S2.out.kb.cell 5 (by simp [atL])
  simp only [atL, List.getD_cons_zero, List.getD_cons_succ] at c0 c1 c2 c3 c4 c5
  go_wp2_with fail
  refine (path_any pp path pn pc four w2 (S2.out.ad.path) HL.out.2.2.1 HL.out.1).mono ?_; rintro e w3 ⟨rfl, hb⟩
  rw [h1]
  have HO3 := Lib.hid (HO2.out.below hb)
  have S3 := Lib.hid (S2.out.next hb)
  clear hb c0 c1 c2 c3 c4 c5 HO2 S2
  have c0 := S3.out.kb.cell 0 (by simp [atL])
  have c1 := S3.out.kb.cell 1 (by simp [atL])
  have c2 := S3.out.kb.cell 2 (by simp [atL])
  have c3 := S3.out.kb.cell 3 (by simp [atL])
  have c4 := S3.out.kb.cell 4 (by simp [atL])
  have c5 := S3.out.kb.cell 5 (by simp [atL])
  simp only [atL, List.getD_cons_zero, List.getD_cons_succ] at c0 c1 c2 c3 c4 c5
  go_wp2_with fail
  refine (odd_any W.heap.size (-1) 4294967295 med w3 HO3.out).mono ?_; rintro e w4 ⟨rfl, rfl⟩
  rw [h3]
  go_wp2_with fail
  refine (odd_any W.heap.size (-1) 4294967295 pref w3 HO3.out).mono ?_; rintro e w4 ⟨rfl, rfl⟩
  rw [h4]
  go_wp2_with fail
  go_ret
  exact ⟨rfl, S3.out.bel⟩

set_option maxHeartbeats 1000000 in
theorem checkA_5 (origin next med pref : Int) (path : List Seg) (comms : List Int) (pp cp : Option Addr) (pn pc cn cc : Nat) (four : Bool) (w : World) (ha : AtAt w ⟨origin, path, next, med, pref, comms⟩ ⟨pp, pn, pc, cp, cn, cc⟩) (h0 : oddB 0 2 origin = false) (h1 : okPath path four = true) (h2 : (next == 0) = false) (h3 : oddB (-1) 4294967295 med = false) (h4 : oddB (-1) 4294967295 pref = false) (h5 : okComms comms = false) :
    Calls Tryd.prog 70 #[.agg #[.int .i64 origin, .slice pp pn pc, .int .u32 next, .int .i64 med, .int .i64 pref, .slice cp cn cc], .bool four] w fun e w' => e = .returned (.int .i64 50) ∧ Below w.heap.size w w' := by
  have S0 := BoxSt.new ha
  have HL := Lib.hid (show pn ≤ maxLen ∧ cn ≤ maxLen ∧ path.length = pn ∧ comms.length = cn from ⟨Nat.le_trans ha.pc ha.pm, Nat.le_trans ha.cc ha.cm, ha.pn, ha.cn⟩)
  obtain ⟨W, hW⟩ : ∃ W, w.alloc (.cells #[.int .i64 origin, .slice pp pn pc, .int .u32 next, .int .i64 med, .int .i64 pref, .slice cp cn cc] 27) = W := ⟨_, rfl⟩
  rw [show (atL ⟨origin, path, next, med, pref, comms⟩ ⟨pp, pn, pc, cp, cn, cc⟩).toArray = #[.int .i64 origin, .slice pp pn pc, .int .u32 next, .int .i64 med, .int .i64 pref, .slice cp cn cc] from rfl, hW] at S0
  have HS0 := Lib.hid S0
  have HW := Lib.hid hW
  clear ha S0 hW
  go_enter Tryd.func70, Tryd.ntmps70
  go_wp2_with fail
  rw [HW.out]
  refine (beyond_any (-1) 4294967295 W).mono ?_; rintro e w1 ⟨rfl, ho, hb⟩
  have HO1 := Lib.hid ho
  have S1 := Lib.hid (HS0.out.next hb)
  unfold oddF
  clear ho hb HS0
  have c0 := S1.out.kb.cell 0 (by simp [atL])
  have c1 := S1.out.kb.cell 1 (by simp [atL])
  have c2 := S1.out.kb.cell 2 (by simp [atL])
  have c3 := S1.out.kb.cell 3 (by simp [atL])
  have c4 := S1.out.kb.cell 4 (by simp [atL])
  have c5 := S1.out.kb.cell 5 (by simp [atL])
  simp only [atL, List.getD_cons_zero, List.getD_cons_succ] at c0 c1 c2 c3 c4 c5
  go_wp2_with fail
  refine (origin_any origin w1).mono ?_; rintro e w2 ⟨rfl, hb⟩
  rw [h0]
  have HO2 := Lib.hid (HO1.out.below hb)
  have S2 := Lib.hid (S1.out.next hb)
  clear hb c0 c1 c2 c3 c4 c5 HO1 S1
  have c0 := S2.out.kb.cell 0 (by simp [atL])
  have c1 := S2.out.kb.cell 1 (by simp [atL])
  have c2 := S2.out.kb.cell 2 (by simp [atL])
  have c3 := S2.out.kb.cell 3 (by simp [atL])
  have c4 := S2.out.kb.cell 4 (by simp [atL])
  have c5 := S2.out.kb.cell 5 (by simp [atL])
  simp only [atL, List.getD_cons_zero, List.getD_cons_succ] at c0 c1 c2 c3 c4 c5
  go_wp2_with fail
  refine (path_any pp path pn pc four w2 (S2.out.ad.path) HL.out.2.2.1 HL.out.1).mono ?_; rintro e w3 ⟨rfl, hb⟩
  rw [h1]
  have HO3 := Lib.hid (HO2.out.below hb)
  have S3 := Lib.hid (S2.out.next hb)
  clear hb c0 c1 c2 c3 c4 c5 HO2 S2
  have c0 := S3.out.kb.cell 0 (by simp [atL])
  have c1 := S3.out.kb.cell 1 (by simp [atL])
  have c2 := S3.out.kb.cell 2 (by simp [atL])
  have c3 := S3.out.kb.cell 3 (by simp [atL])
  have c4 := S3.out.kb.cell 4 (by simp [atL])
  have c5 := S3.out.kb.cell 5 (by simp [atL])
  simp only [atL, List.getD_cons_zero, List.getD_cons_succ] at c0 c1 c2 c3 c4 c5
  go_wp2_with fail
  refine (odd_any W.heap.size (-1) 4294967295 med w3 HO3.out).mono ?_; rintro e w4 ⟨rfl, rfl⟩
  rw [h3]
  go_wp2_with fail
  refine (odd_any W.heap.size (-1) 4294967295 pref w3 HO3.out).mono ?_; rintro e w4 ⟨rfl, rfl⟩
  rw [h4]
  go_wp2_with fail
  refine (comms_any cp comms cn cc w3 (S3.out.ad.comms) HL.out.2.2.2 HL.out.2.1).mono ?_; rintro e w4 ⟨rfl, hb⟩
  rw [h5]
  have HO4 := Lib.hid (HO3.out.below hb)
  have S4 := Lib.hid (S3.out.next hb)
  clear hb c0 c1 c2 c3 c4 c5 HO3 S3
  have c0 := S4.out.kb.cell 0 (by simp [atL])
  have c1 := S4.out.kb.cell 1 (by simp [atL])
  have c2 := S4.out.kb.cell 2 (by simp [atL])
  have c3 := S4.out.kb.cell 3 (by simp [atL])
  have c4 := S4.out.kb.cell 4 (by simp [atL])
  have c5 := S4.out.kb.cell 5 (by simp [atL])
  simp only [atL, List.getD_cons_zero, List.getD_cons_succ] at c0 c1 c2 c3 c4 c5
  go_wp2_with fail
  go_ret
  exact ⟨rfl, S4.out.bel⟩

set_option maxHeartbeats 1000000 in
theorem checkA_6 (origin next med pref : Int) (path : List Seg) (comms : List Int) (pp cp : Option Addr) (pn pc cn cc : Nat) (four : Bool) (w : World) (ha : AtAt w ⟨origin, path, next, med, pref, comms⟩ ⟨pp, pn, pc, cp, cn, cc⟩) (h0 : oddB 0 2 origin = false) (h1 : okPath path four = true) (h2 : (next == 0) = false) (h3 : oddB (-1) 4294967295 med = false) (h4 : oddB (-1) 4294967295 pref = false) (h5 : okComms comms = true) :
    Calls Tryd.prog 70 #[.agg #[.int .i64 origin, .slice pp pn pc, .int .u32 next, .int .i64 med, .int .i64 pref, .slice cp cn cc], .bool four] w fun e w' => e = .returned (.int .i64 0) ∧ Below w.heap.size w w' := by
  have S0 := BoxSt.new ha
  have HL := Lib.hid (show pn ≤ maxLen ∧ cn ≤ maxLen ∧ path.length = pn ∧ comms.length = cn from ⟨Nat.le_trans ha.pc ha.pm, Nat.le_trans ha.cc ha.cm, ha.pn, ha.cn⟩)
  obtain ⟨W, hW⟩ : ∃ W, w.alloc (.cells #[.int .i64 origin, .slice pp pn pc, .int .u32 next, .int .i64 med, .int .i64 pref, .slice cp cn cc] 27) = W := ⟨_, rfl⟩
  rw [show (atL ⟨origin, path, next, med, pref, comms⟩ ⟨pp, pn, pc, cp, cn, cc⟩).toArray = #[.int .i64 origin, .slice pp pn pc, .int .u32 next, .int .i64 med, .int .i64 pref, .slice cp cn cc] from rfl, hW] at S0
  have HS0 := Lib.hid S0
  have HW := Lib.hid hW
  clear ha S0 hW
  go_enter Tryd.func70, Tryd.ntmps70
  go_wp2_with fail
  rw [HW.out]
  refine (beyond_any (-1) 4294967295 W).mono ?_; rintro e w1 ⟨rfl, ho, hb⟩
  have HO1 := Lib.hid ho
  have S1 := Lib.hid (HS0.out.next hb)
  unfold oddF
  clear ho hb HS0
  have c0 := S1.out.kb.cell 0 (by simp [atL])
  have c1 := S1.out.kb.cell 1 (by simp [atL])
  have c2 := S1.out.kb.cell 2 (by simp [atL])
  have c3 := S1.out.kb.cell 3 (by simp [atL])
  have c4 := S1.out.kb.cell 4 (by simp [atL])
  have c5 := S1.out.kb.cell 5 (by simp [atL])
  simp only [atL, List.getD_cons_zero, List.getD_cons_succ] at c0 c1 c2 c3 c4 c5
  go_wp2_with fail
  refine (origin_any origin w1).mono ?_; rintro e w2 ⟨rfl, hb⟩
  rw [h0]
  have HO2 := Lib.hid (HO1.out.below hb)
  have S2 := Lib.hid (S1.out.next hb)
  clear hb c0 c1 c2 c3 c4 c5 HO1 S1
  have c0 := S2.out.kb.cell 0 (by simp [atL])
  have c1 := S2.out.kb.cell 1 (by simp [atL])
  have c2 := S2.out.kb.cell 2 (by simp [atL])
  have c3 := S2.out.kb.cell 3 (by simp [atL])
  have c4 := S2.out.kb.cell 4 (by simp [atL])
  have c5 := S2.out.kb.cell 5 (by simp [atL])
  simp only [atL, List.getD_cons_zero, List.getD_cons_succ] at c0 c1 c2 c3 c4 c5
  go_wp2_with fail
  refine (path_any pp path pn pc four w2 (S2.out.ad.path) HL.out.2.2.1 HL.out.1).mono ?_; rintro e w3 ⟨rfl, hb⟩
  rw [h1]
  have HO3 := Lib.hid (HO2.out.below hb)
  have S3 := Lib.hid (S2.out.next hb)
  clear hb c0 c1 c2 c3 c4 c5 HO2 S2
  have c0 := S3.out.kb.cell 0 (by simp [atL])
  have c1 := S3.out.kb.cell 1 (by simp [atL])
  have c2 := S3.out.kb.cell 2 (by simp [atL])
  have c3 := S3.out.kb.cell 3 (by simp [atL])
  have c4 := S3.out.kb.cell 4 (by simp [atL])
  have c5 := S3.out.kb.cell 5 (by simp [atL])
  simp only [atL, List.getD_cons_zero, List.getD_cons_succ] at c0 c1 c2 c3 c4 c5
  go_wp2_with fail
  refine (odd_any W.heap.size (-1) 4294967295 med w3 HO3.out).mono ?_; rintro e w4 ⟨rfl, rfl⟩
  rw [h3]
  go_wp2_with fail
  refine (odd_any W.heap.size (-1) 4294967295 pref w3 HO3.out).mono ?_; rintro e w4 ⟨rfl, rfl⟩
  rw [h4]
  go_wp2_with fail
  refine (comms_any cp comms cn cc w3 (S3.out.ad.comms) HL.out.2.2.2 HL.out.2.1).mono ?_; rintro e w4 ⟨rfl, hb⟩
  rw [h5]
  have HO4 := Lib.hid (HO3.out.below hb)
  have S4 := Lib.hid (S3.out.next hb)
  clear hb c0 c1 c2 c3 c4 c5 HO3 S3
  have c0 := S4.out.kb.cell 0 (by simp [atL])
  have c1 := S4.out.kb.cell 1 (by simp [atL])
  have c2 := S4.out.kb.cell 2 (by simp [atL])
  have c3 := S4.out.kb.cell 3 (by simp [atL])
  have c4 := S4.out.kb.cell 4 (by simp [atL])
  have c5 := S4.out.kb.cell 5 (by simp [atL])
  simp only [atL, List.getD_cons_zero, List.getD_cons_succ] at c0 c1 c2 c3 c4 c5
  go_wp2_with fail
  go_ret
  exact ⟨rfl, S4.out.bel⟩

theorem checkA_any (a : At) (l : Loc) (four : Bool) (w : World) (ha : AtAt w a l) :
    Calls Tryd.prog 70 #[.agg (atL a l).toArray, .bool four] w fun e w' => e = .returned (.int .i64 (errA a four)) ∧ Below w.heap.size w w' := by
  obtain ⟨origin, path, next, med, pref, comms⟩ := a
  obtain ⟨pp, pn, pc, cp, cn, cc⟩ := l
  have hE : errA ⟨origin, path, next, med, pref, comms⟩ four = if okA ⟨origin, path, next, med, pref, comms⟩ four then 0 else 50 := rfl
  unfold okA at hE
  simp only at hE
  rcases h0 : oddB 0 2 origin with _ | _
  · rcases h1 : okPath path four with _ | _
    · rw [hE, h0, h1]; exact checkA_1 origin next med pref path comms pp cp pn pc cn cc four w ha h0 h1
    · rcases h2 : (next == 0) with _ | _
      · rcases h3 : oddB (-1) 4294967295 med with _ | _
        · rcases h4 : oddB (-1) 4294967295 pref with _ | _
          · rcases h5 : okComms comms with _ | _
            · rw [hE, h0, h1, h2, h3, h4, h5]; exact checkA_5 origin next med pref path comms pp cp pn pc cn cc four w ha h0 h1 h2 h3 h4 h5
            · rw [hE, h0, h1, h2, h3, h4, h5]; exact checkA_6 origin next med pref path comms pp cp pn pc cn cc four w ha h0 h1 h2 h3 h4 h5
          · rw [hE, h0, h1, h2, h3, h4]; exact checkA_4 origin next med pref path comms pp cp pn pc cn cc four w ha h0 h1 h2 h3 h4
        · rw [hE, h0, h1, h2, h3]; exact checkA_3 origin next med pref path comms pp cp pn pc cn cc four w ha h0 h1 h2 h3
      · rw [hE, h0, h1, h2]; exact checkA_2 origin next med pref path comms pp cp pn pc cn cc four w ha h0 h1 h2
  · rw [hE, h0]; exact checkA_0 origin next med pref path comms pp cp pn pc cn cc four w ha h0
end Go.Proofs.YtpeagakpmjnelaaDoor.Ax
