/- 'OpenWhole': what any body says may be said, and is got again. -/
import Derived.Test.YthpadbeilecpeaaO9
import Derived.Test.YthpadbeilecpeaaOw
namespace Go.Proofs.Ythpadbeilecpeaa
open Go.RowKit

theorem whole_big (p : Option Addr) (n c : Nat) (w : World) (h : 5000 < n) :
    Calls Try.prog 4 #[.slice p n c] w fun e w' => e = .returned (.bool true) ∧ Below w.heap.size w w' := by
  have t1 : decide ((5000 : Int) < (n : Int)) = true := by simp; omega
  have HL := Lib.hid (lives_any w)
  go_enter Try.func4, Try.ntmps4
  go_wp2_with fail
  refine HL.out.mono ?_; rintro e w1 ⟨rfl, hb⟩
  have HB := Lib.hid hb
  clear hb
  go_wp2_with fail
  go_ret
  exact ⟨rfl, HB.out⟩

/-- What stands at the head of both ways: a Get, its answer in two variables, lives. -/
theorem whole_no (p : Option Addr) (xs : List Int) (n c : Nat) (w : World) (hb : BytesAt w p xs) (hn : xs.length = n) (h : n ≤ 5000) (hc : (getO xs).code = 2) :
    Calls Try.prog 4 #[.slice p n c] w fun e w' => e = .returned (.bool true) ∧ Below w.heap.size w w' := by
  have t1 : decide ((5000 : Int) < (n : Int)) = false := by simp; omega
  obtain ⟨⟨⟨a1, a2, a3, a4, a5⟩, code, sub, data⟩, hA⟩ : ∃ A, getO xs = A := ⟨_, rfl⟩
  rw [hA] at hc
  simp only at hc
  subst hc
  have HG := Lib.hid (get_as hA p n c data.length w hb hn (by omega) rfl)
  clear hA hb hn
  go_enter Try.func4, Try.ntmps4
  go_wp2_with fail
  refine HG.out.mono ?_; rintro e w1 ⟨q, cap, rfl, hO, hb⟩
  obtain ⟨W, hW⟩ : ∃ W, (w1.alloc (.cells #[.int .i64 a1, .int .i64 a2, .int .u32 a3, .bool a4, .int .i64 a5] 24)).alloc (.cells #[.int .i64 2, .int .i64 sub, .slice q data.length cap] 30) = W := ⟨_, rfl⟩
  have h1 : Below w1.heap.size w1 W := by rw [← hW]; exact two_below _ _ _
  have N1 := Lib.hid (show Blk W (w1.heap.size + 1) 30 [.int .i64 2, .int .i64 sub, .slice q data.length cap] by rw [← hW, ← sz_alloc w1 (.cells #[.int .i64 a1, .int .i64 a2, .int .u32 a3, .bool a4, .int .i64 a5] 24)]; exact Blk.new _ 30 _)
  have HB1 := Lib.hid (hb.trans (h1.mono hb.size))
  have HW := Lib.hid hW
  have HL := Lib.hid (lives_any W)
  clear hO hb h1 hW HG
  go_wp2_with fail
  rw [HW.out]
  refine HL.out.mono ?_; rintro e w2 ⟨rfl, hb⟩
  have HB2 := Lib.hid (HB1.out.trans (hb.mono HB1.out.size))
  have N2 := Lib.hid (N1.out.next hb)
  have c0 := N2.out.cell 0 (by simp)
  have HL2 := Lib.hid (lives_any w2)
  clear hb HL HB1 N1
  go_wp2_with fail
  refine HL2.out.mono ?_; rintro e w3 ⟨rfl, hb⟩
  have HB3 := Lib.hid (HB2.out.trans (hb.mono HB2.out.size))
  have N3 := Lib.hid (N2.out.next hb)
  clear c0
  have c0 := N3.out.cell 0 (by simp)
  clear hb HL2 HB2 N2
  go_wp2_with fail
  go_ret
  exact ⟨rfl, HB3.out⟩

set_option maxHeartbeats 1000000 in
theorem whole_yes (p : Option Addr) (xs : List Int) (n c : Nat) (w : World) (hb : BytesAt w p xs) (hn : xs.length = n) (h : n ≤ 5000) (hc : (getO xs).code = 0) (hk : okO (getO xs).o = true) (hi0 : 0 ≤ (getO xs).o.id) (hi1 : (getO xs).o.id ≤ 4294967295) :
    Calls Try.prog 4 #[.slice p n c] w fun e w' => e = .returned (.bool true) ∧ Below w.heap.size w w' := by
  have t1 : decide ((5000 : Int) < (n : Int)) = false := by simp; omega
  obtain ⟨⟨⟨a1, a2, a3, a4, a5⟩, code, sub, data⟩, hA⟩ : ∃ A, getO xs = A := ⟨_, rfl⟩
  rw [hA] at hc hk hi0 hi1
  simp only at hc hk hi0 hi1
  subst hc
  have HG := Lib.hid (get_as hA p n c data.length w hb hn (by omega) rfl)
  have hfit : FitO ⟨a1, a2, a3, a4, a5⟩ := okO_fit hk hi0 hi1
  have HF := Lib.hid hfit
  have HK := Lib.hid hk
  have HGP := Lib.hid (getO_put hk hi0 hi1)
  have hcl := caps_len (o := ⟨a1, a2, a3, a4, a5⟩)
  obtain ⟨pl, hpl⟩ : ∃ pl, (putO ⟨a1, a2, a3, a4, a5⟩).length = pl := ⟨_, rfl⟩
  have hple : pl ≤ 1000 := by rw [← hpl]; unfold putO saidO; simp [front_len]; omega
  have HPL := Lib.hid hpl
  have HQ := open_eql a1 a2 a3 a5 a4
  have hg := open_eqGuard
  clear hA hb hn hk hi0 hi1 hfit hcl hpl
  go_enter Try.func4, Try.ntmps4
  go_wp2_with fail
  refine HG.out.mono ?_; rintro e w1 ⟨q, cap, rfl, hO, hb⟩
  obtain ⟨W, hW⟩ : ∃ W, (w1.alloc (.cells #[.int .i64 a1, .int .i64 a2, .int .u32 a3, .bool a4, .int .i64 a5] 24)).alloc (.cells #[.int .i64 0, .int .i64 sub, .slice q data.length cap] 30) = W := ⟨_, rfl⟩
  have h1 : Below w1.heap.size w1 W := by rw [← hW]; exact two_below _ _ _
  have P1 := Lib.hid (show Blk W w1.heap.size 24 [.int .i64 a1, .int .i64 a2, .int .u32 a3, .bool a4, .int .i64 a5] by rw [← hW]; exact (Blk.new w1 24 [.int .i64 a1, .int .i64 a2, .int .u32 a3, .bool a4, .int .i64 a5]).alloc _)
  have N1 := Lib.hid (show Blk W (w1.heap.size + 1) 30 [.int .i64 0, .int .i64 sub, .slice q data.length cap] by rw [← hW, ← sz_alloc w1 (.cells #[.int .i64 a1, .int .i64 a2, .int .u32 a3, .bool a4, .int .i64 a5] 24)]; exact Blk.new _ 30 _)
  have HB1 := Lib.hid (hb.trans (h1.mono hb.size))
  have HW := Lib.hid hW
  have HL := Lib.hid (lives_any W)
  clear hO hb h1 hW HG
  go_wp2_with fail
  rw [HW.out]
  refine HL.out.mono ?_; rintro e w2 ⟨rfl, hb⟩
  have HB2 := Lib.hid (HB1.out.trans (hb.mono HB1.out.size))
  have P2 := Lib.hid (P1.out.next hb)
  have N2 := Lib.hid (N1.out.next hb)
  have c0 := N2.out.cell 0 (by simp)
  have p0 := P2.out.cell 0 (by simp)
  have p1 := P2.out.cell 1 (by simp)
  have p2 := P2.out.cell 2 (by simp)
  have p3 := P2.out.cell 3 (by simp)
  have p4 := P2.out.cell 4 (by simp)
  have HP := Lib.hid (put_as (xs := putO ⟨a1, a2, a3, a4, a5⟩) rfl HPL.out w2 HF.out HK.out)
  clear hb HL HB1 N1 P1
  go_wp2_with fail
  refine HP.out.mono ?_; rintro e w3 ⟨pp, capp, rfl, hO, hb⟩
  have HB3 := Lib.hid (HB2.out.trans (hb.mono HB2.out.size))
  have P3 := Lib.hid (P2.out.next hb)
  have HG := Lib.hid (get_as HGP.out pp pl capp 0 w3 hO.bytes HPL.out (by omega) rfl)
  clear c0 p0 p1 p2 p3 p4 hb hO HP HB2 N2 P2
  go_wp2_with fail
  refine HG.out.mono ?_; rintro e w4 ⟨q4, cap4, rfl, hO, hb⟩
  obtain ⟨W5, hW5⟩ : ∃ W5, (w4.alloc (.cells #[.int .i64 a1, .int .i64 a2, .int .u32 a3, .bool a4, .int .i64 a5] 24)).alloc (.cells #[.int .i64 0, .int .i64 0, .slice q4 0 cap4] 30) = W5 := ⟨_, rfl⟩
  have h5 : Below w4.heap.size w4 W5 := by rw [← hW5]; exact two_below _ _ _
  have Q5 := Lib.hid (show Blk W5 w4.heap.size 24 [.int .i64 a1, .int .i64 a2, .int .u32 a3, .bool a4, .int .i64 a5] by rw [← hW5]; exact (Blk.new w4 24 [.int .i64 a1, .int .i64 a2, .int .u32 a3, .bool a4, .int .i64 a5]).alloc _)
  have M5 := Lib.hid (show Blk W5 (w4.heap.size + 1) 30 [.int .i64 0, .int .i64 0, .slice q4 0 cap4] by rw [← hW5, ← sz_alloc w4 (.cells #[.int .i64 a1, .int .i64 a2, .int .u32 a3, .bool a4, .int .i64 a5] 24)]; exact Blk.new _ 30 _)
  have h5' := hb.trans (h5.mono hb.size)
  have HB5 := Lib.hid (HB3.out.trans (h5'.mono HB3.out.size))
  have P5 := Lib.hid (P3.out.next h5')
  have p0 := P5.out.cell 0 (by simp)
  have p1 := P5.out.cell 1 (by simp)
  have p2 := P5.out.cell 2 (by simp)
  have p3 := P5.out.cell 3 (by simp)
  have p4 := P5.out.cell 4 (by simp)
  have HW5 := Lib.hid hW5
  have HC := Lib.hid (show Calls Try.prog 11 #[.agg #[.int .i64 a1, .int .i64 a2, .int .u32 a3, .bool a4, .int .i64 a5]] W5 fun e w' => e = .returned (.int .i64 0) ∧ Below W5.heap.size W5 w' from check_yes ⟨a1, a2, a3, a4, a5⟩ W5 HK.out)
  clear hO hb h5 hW5 h5' HG HB3 P3
  rw [← HW5.out] at p0 p1 p2 p3 p4
  go_wp2_with fail
  rw [HW5.out]
  refine HC.out.mono ?_; rintro e w6 ⟨rfl, hb⟩
  have HB6 := Lib.hid (HB5.out.trans (hb.mono HB5.out.size))
  have P6 := P5.out.next hb
  have Q6 := Q5.out.next hb
  have M6 := M5.out.next hb
  clear p0 p1 p2 p3 p4
  have p0 := P6.cell 0 (by simp)
  have p1 := P6.cell 1 (by simp)
  have p2 := P6.cell 2 (by simp)
  have p3 := P6.cell 3 (by simp)
  have p4 := P6.cell 4 (by simp)
  have q0 := Q6.cell 0 (by simp)
  have q1 := Q6.cell 1 (by simp)
  have q2 := Q6.cell 2 (by simp)
  have q3 := Q6.cell 3 (by simp)
  have q4 := Q6.cell 4 (by simp)
  have m0 := M6.cell 0 (by simp)
  clear hb P6 Q6 M6 HC HB5 P5 Q5 M5
  go_wp2_with fail
  go_ret
  exact ⟨rfl, HB6.out⟩

theorem whole_walk (w : World) (p : Option Addr) (xs : List Int) (c : Nat) (hb : BytesAt w p xs) (_ : xs.length ≤ c) (_ : c ≤ maxLen) :
    Calls Try.prog 4 #[.slice p xs.length c] w fun e w' => e = .returned (.bool true) ∧ Below w.heap.size w w' := by
  rcases Nat.lt_or_ge 5000 xs.length with h | h
  · exact whole_big p _ c w h
  · rcases getO_whole xs (InByte.all hb.1) with hc | ⟨hc, hk, h0, h1⟩
    · exact whole_no p xs _ c w hb rfl h hc
    · exact whole_yes p xs _ c w hb rfl h hc hk h0 h1
end Go.Proofs.Ythpadbeilecpeaa
