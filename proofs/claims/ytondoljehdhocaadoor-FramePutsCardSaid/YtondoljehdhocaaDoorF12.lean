/- 'FramePuts': which messages may be, and their bytes. -/
import Derived.Test.YtondoljehdhocaaDoorF11
namespace Go.Proofs.YtondoljehdhocaaDoor
open Go.RowKit

theorem puts_big (k : Int) (q : Option Addr) (n c : Nat) (w : World) (ht : Tab w) (hn : 6000 < n) :
    Calls Tryd.prog 3 #[.agg #[.int .i64 k, .slice q n c]] w fun e w' => e = .returned (.bool true) ∧ Below w.heap.size w w' := by
  have h0 := (Below.refl w.heap.size w).alloc (Nat.le_refl _) (.cells #[.int .i64 k, .slice q n c] 24)
  have HL := Lib.hid (lives_any _ (ht.below h0))
  have H0 := Lib.hid h0
  have t1 : decide ((6000 : Int) < (n : Int)) = true := by simp; omega
  clear h0 ht
  go_enter Tryd.func3, Tryd.ntmps3
  go_wp2_with fail
  refine HL.out.mono ?_; rintro e w1 ⟨rfl, hb⟩
  have HB := Lib.hid (H0.out.trans (hb.mono (by simp)))
  clear hb
  go_wp2_with fail
  go_ret
  exact ⟨rfl, HB.out⟩

set_option maxHeartbeats 1000000 in
theorem puts_no (k : Int) (q : Option Addr) (n c : Nat) (w : World) (ht : Tab w) (hn : n ≤ 6000) (hk : okM k n = false) :
    Calls Tryd.prog 3 #[.agg #[.int .i64 k, .slice q n c]] w fun e w' => e = .returned (.bool true) ∧ Below w.heap.size w w' := by
  have h0 := (Below.refl w.heap.size w).alloc (Nat.le_refl _) (.cells #[.int .i64 k, .slice q n c] 24)
  have HP := Lib.hid (putM_no k q n c _ (ht.below h0) (by omega) hk)
  have HC := Lib.hid (fun w => rcheckM_any k q n c w (by omega))
  have HD := Lib.hid (fun w (h : Tab w) => checkM_any k q n c w h (by omega))
  rw [hk] at HC
  rw [show errM k n = 30 by simp [errM, hk]] at HD
  have H0 := Lib.hid h0
  have HT := Lib.hid ht
  have K0 := Lib.hid (Blk.new w 24 [.int .i64 k, .slice q n c])
  have t1 : decide ((6000 : Int) < (n : Int)) = false := by simp; omega
  clear h0 ht hk hn
  go_enter Tryd.func3, Tryd.ntmps3
  go_wp2_with fail
  refine HP.out.mono ?_; rintro e w1 ⟨rfl, hb⟩
  have HB1 := Lib.hid (H0.out.trans (hb.mono (by simp)))
  have K1 := Lib.hid (K0.out.next hb)
  clear hb
  go_wp2_with fail
  refine (lives_any w1 (HT.out.below HB1.out)).mono ?_; rintro e w2 ⟨rfl, hb⟩
  have HB2 := Lib.hid (HB1.out.trans (hb.mono HB1.out.size))
  have K2 := Lib.hid (K1.out.next hb)
  have c0 := K2.out.cell 0 (by simp)
  have c1 := K2.out.cell 1 (by simp)
  clear hb
  go_wp2_with fail
  refine (HC.out w2).mono ?_; rintro e w3 ⟨rfl, hb⟩
  have HB3 := Lib.hid (HB2.out.trans (hb.mono HB2.out.size))
  have K3 := Lib.hid (K2.out.next hb)
  clear hb c0 c1
  have c0 := K3.out.cell 0 (by simp)
  have c1 := K3.out.cell 1 (by simp)
  go_wp2_with fail
  refine (HD.out w3 (HT.out.below HB3.out)).mono ?_; rintro e w4 ⟨rfl, hb⟩
  have HB4 := Lib.hid (HB3.out.trans (hb.mono HB3.out.size))
  clear hb c0 c1
  go_wp2_with fail
  go_ret
  exact ⟨rfl, HB4.out⟩

set_option maxRecDepth 100000 in
set_option maxHeartbeats 2000000 in
theorem puts_yes (k : Int) (q : Option Addr) (ys : List Int) (n c : Nat) (w : World) (ht : Tab w) (hb : BytesAt w q ys) (hn : ys.length = n) (hk : okM k n = true) :
    Calls Tryd.prog 3 #[.agg #[.int .i64 k, .slice q n c]] w fun e w' => e = .returned (.bool true) ∧ Below w.heap.size w w' := by
  obtain ⟨k1, k4, n4⟩ := okM_parts hk
  have h0 := (Below.refl w.heap.size w).alloc (Nat.le_refl _) (.cells #[.int .i64 k, .slice q n c] 24)
  have HP := Lib.hid (putM_ok k q ys n c _ (ht.below h0) (hb.below h0) hn hk)
  have HC := Lib.hid (fun w => rcheckM_any k q n c w (by omega))
  have HD := Lib.hid (fun w (h : Tab w) => checkM_any k q n c w h (by omega))
  have HR := Lib.hid (fun w (h : BytesAt w q ys) => rputM_ok k q ys n c w h hn k1 k4 n4)
  rw [hk] at HC
  rw [show errM k n = 0 by simp [errM, hk]] at HD
  have hl : (putM k ys).length = 19 + n := by unfold putM; simp [putL_len]; omega
  rw [hl] at HP
  have HLN := Lib.hid hl
  have H0 := Lib.hid h0
  have HT := Lib.hid ht
  have HY := Lib.hid hb
  have K0 := Lib.hid (Blk.new w 24 [.int .i64 k, .slice q n c])
  have t1 : decide ((6000 : Int) < (n : Int)) = false := by simp; omega
  clear h0 ht hk hn hb hl
  go_enter Tryd.func3, Tryd.ntmps3
  go_wp2_with fail
  refine HP.out.mono ?_; rintro e w1 ⟨p, cap, rfl, hO, hb⟩
  have HB1 := Lib.hid (H0.out.trans (hb.mono (by simp)))
  have K1 := Lib.hid (K0.out.next hb)
  have O1 := Lib.hid hO.bytes
  clear hb hO
  go_wp2_with fail
  refine (lives_any w1 (HT.out.below HB1.out)).mono ?_; rintro e w2 ⟨rfl, hb⟩
  have HB2 := Lib.hid (HB1.out.trans (hb.mono HB1.out.size))
  have K2 := Lib.hid (K1.out.next hb)
  have O2 := Lib.hid (O1.out.below hb)
  have c0 := K2.out.cell 0 (by simp)
  have c1 := K2.out.cell 1 (by simp)
  clear hb
  go_wp2_with fail
  refine (HC.out w2).mono ?_; rintro e w3 ⟨rfl, hb⟩
  have HB3 := Lib.hid (HB2.out.trans (hb.mono HB2.out.size))
  have K3 := Lib.hid (K2.out.next hb)
  have O3 := Lib.hid (O2.out.below hb)
  clear hb c0 c1
  have c0 : w3.drew.cell? ⟨w.heap.size, 0, none⟩ = some (.int .i64 k) := K3.out.cell 0 (by simp)
  have c1 : w3.drew.cell? ⟨w.heap.size, 1, none⟩ = some (.slice q n c) := K3.out.cell 1 (by simp)
  go_wp2_with fail
  have c2 := run_text O3.out.drew cap
  rw [HLN.out] at c2
  have hS := And.intro c0 (And.intro c1 c2)
  clear c0 c1 c2
  have hT3 := HT.out.below HB3.out
  have hY3 := HY.out.below HB3.out
  have HT3 := Lib.hid hT3
  have HY3 := Lib.hid hY3
  clear hT3 hY3
  go_region_held (fun w' => w'.cell? ⟨w.heap.size, 0, none⟩ = some (.int .i64 k) ∧ w'.cell? ⟨w.heap.size, 1, none⟩ = some (.slice q n c) ∧ (convert 22 9 (.slice p (19 + n) cap)).run Tryd.prog w' = .ok (.string (strOfNums (putM k ys))) w') (with_reducible assumption) (first
    | (go_at_call 11; refine (HD.out w3.drew HT3.out).mono ?_; rintro e w4 ⟨rfl, hb4⟩; have K4 := Lib.hid (K3.out.drew.next hb4); have O4 := Lib.hid (O3.out.drew.below hb4); have HB4 := Lib.hid (HB3.out.drew.trans (hb4.mono HB3.out.size)); have c4 := run_text O4.out cap; have hS4 := And.intro (show w4.cell? ⟨w.heap.size, 0, none⟩ = some (.int .i64 k) from K4.out.cell 0 (by simp)) (And.intro (show w4.cell? ⟨w.heap.size, 1, none⟩ = some (.slice q n c) from K4.out.cell 1 (by simp)) (show (convert 22 9 (.slice p (19 + n) cap)).run Tryd.prog w4 = .ok (.string (strOfNums (putM k ys))) w4 by rw [← HLN.out]; exact c4)); clear hb4 c4)
    | (go_at_call 12; refine (HR.out w4 (HY.out.below HB4.out)).mono ?_; rintro e w5 ⟨p5, cap5, rfl, hO5, hb5⟩; rw [HLN.out]; have K5 := Lib.hid (K4.out.next hb5); have O5 := Lib.hid (O4.out.below hb5); have HB5 := Lib.hid (HB4.out.trans (hb5.mono HB4.out.size)); have c5 := run_text O5.out cap; have d5 := run_text hO5.bytes cap5; rw [HLN.out] at c5 d5; have hS5 := And.intro (show w5.cell? ⟨w.heap.size, 0, none⟩ = some (.int .i64 k) from K5.out.cell 0 (by simp)) (And.intro (show w5.cell? ⟨w.heap.size, 1, none⟩ = some (.slice q n c) from K5.out.cell 1 (by simp)) c5); clear hb5 c5 hO5))
  go_wp2_with fail
  go_ret
  exact ⟨rfl, HB5.out⟩

theorem puts_walk (w : World) (ht : Tab w) (k : Int) (q : Option Addr) (ys : List Int) (n c : Nat) (hb : BytesAt w q ys) (hn : ys.length = n) (_ : n ≤ c) (_ : c ≤ maxLen) :
    Calls Tryd.prog 3 #[.agg #[.int .i64 k, .slice q n c]] w fun e w' => e = .returned (.bool true) ∧ Below w.heap.size w w' := by
  rcases Nat.lt_or_ge 6000 n with h | h
  · exact puts_big k q n c w ht h
  · rcases hk : okM k n with _ | _
    · exact puts_no k q n c w ht h hk
    · exact puts_yes k q ys n c w ht hb hn hk
end Go.Proofs.YtondoljehdhocaaDoor
