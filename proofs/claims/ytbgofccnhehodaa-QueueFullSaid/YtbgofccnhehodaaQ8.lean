/- QueueFull: the walk. -/
import Derived.Test.YtbgofccnhehodaaQ6
namespace Go.Proofs.Ytbgofccnhehodaa
open Go.RowKit

theorem qfull_out (w : World) (r : Int) (q : Option Addr) (m c : Nat) (hn : r < 0 ∨ 65536 < r ∨ 1000 < m ∨ m = 0) :
    Calls Try.prog 6 #[.int .i64 r, .slice q m c] w fun e w' => e = .returned (.bool true) ∧ Below w.heap.size w w' := by
  have HL := Lib.hid (qlives_any w)
  by_cases h0 : r < 0
  · go_enter Try.func6, Try.ntmps6
    go_wp2_with (go_at_call 9; refine HL.out.mono ?_; rintro e w1 ⟨rfl, hb⟩; have HB := Lib.hid hb; clear hb)
    go_ret
    exact ⟨rfl, HB.out⟩
  · by_cases h1 : 65536 < r
    · go_enter Try.func6, Try.ntmps6
      go_wp2_with (go_at_call 9; refine HL.out.mono ?_; rintro e w1 ⟨rfl, hb⟩; have HB := Lib.hid hb; clear hb)
      go_ret
      exact ⟨rfl, HB.out⟩
    · by_cases h2 : 1000 < m
      · have t2 : decide (1000 < (m : Int)) = true := by simp; omega
        go_enter Try.func6, Try.ntmps6
        go_wp2_with (go_at_call 9; refine HL.out.mono ?_; rintro e w1 ⟨rfl, hb⟩; have HB := Lib.hid hb; clear hb)
        go_ret
        exact ⟨rfl, HB.out⟩
      · obtain rfl : m = 0 := by omega
        go_enter Try.func6, Try.ntmps6
        go_wp2_with (go_at_call 9; refine HL.out.mono ?_; rintro e w1 ⟨rfl, hb⟩; have HB := Lib.hid hb; clear hb)
        go_ret
        exact ⟨rfl, HB.out⟩

theorem BytesAt.lt {w : World} {p : Option Addr} {xs : List Int} (h : BytesAt w p xs) (h0 : 0 < xs.length) : ∀ b, p.map (·.block) = some b → b < w.heap.size := by
  obtain ⟨_, rfl | ⟨b, off, rfl, hc⟩⟩ := h
  · simp at h0
  · intro b' hb
    obtain rfl : b = b' := by simpa using hb
    exact World.block_lt_of_cell? w _ (hc 0 h0)
theorem zeros_made (w : World) (n : Nat) : BytesAt (w.alloc (.cells (madeCells #[.int .u8 0] n) 5)) (some ⟨w.heap.size, 0, none⟩) (List.replicate n 0) :=
  (RingAt.made w 0 n (Nat.zero_le _)).bytes
/-- While it takes: so much is in it. -/
def FullR (W : World) (g room m : Nat) (n : Value) (wr : World) : Prop := ∃ (xs : List Int) (p : Option Addr), n = .int .i64 (xs.length : Nat) ∧ QuP wr g room xs p ∧ QuK W wr g none p

set_option maxHeartbeats 4000000 in
theorem qfull_in (w : World) (r : Nat) (q : Option Addr) (ys : List Int) (m c : Nat) (hb : BytesAt w q ys) (hm : ys.length = m) (hc : m ≤ c) (hql : ∀ b, q.map (·.block) = some b → b < w.heap.size) (hr : r ≤ 65536) (hm1 : 1 ≤ m) (hm2 : m ≤ 1000) :
    Calls Try.prog 6 #[.int .i64 (r : Int), .slice q m c] w fun e w' => e = .returned (.bool true) ∧ Below w.heap.size w w' := by
  have t0 : decide ((r : Int) < 0) = false := by simp
  have t1 : decide (65536 < (r : Int)) = false := by simp; omega
  have t2 : decide (1000 < (m : Int)) = false := by simp; omega
  have t3 : ((m : Int) == 0) = false := by simp; omega
  have HY := Lib.hid hb
  have HM := Lib.hid hm
  have HQ := Lib.hid hql
  have HN := Lib.hid (qnew_ok r w hr)
  clear hb hm hql
  go_enter Try.func6, Try.ntmps6
  go_wp2_with fail
  refine HN.out.mono ?_; rintro e w1 ⟨rfl, hq, hb⟩
  have HL := Lib.hid (qlives_any w1)
  have Q1 := Lib.hid hq
  have B1 := Lib.hid hb
  clear HN hq hb
  go_wp2_with fail
  refine HL.out.mono ?_; rintro e w2 ⟨rfl, hb⟩
  have Q2 := Lib.hid (Q1.out.next hb)
  have g1 := Q1.out.lt
  have B2 := Lib.hid (B1.out.trans (hb.mono (Nat.le_of_lt g1)))
  have hsz := hb.size
  have Y2 := Lib.hid (HY.out.below B2.out)
  clear hb HL Q1 B1 HY
  go_wp2_with fail
  go_loopw [7] (fun n wr => FullR w2 w.heap.size r m n wr) (fun n _ => r - (intOf n).toNat)
  case atStart => exact ⟨[], none, rfl, Q2.out, QuK.refl _ _ _⟩
  case round =>
    obtain ⟨xs, p, rfl, hq, hk⟩ := hrel
    have HQr := Lib.hid hq
    have HK := Lib.hid hk
    have hz := hq.size
    obtain ⟨n, hn⟩ : ∃ n, xs.length = n := ⟨_, rfl⟩
    have HNN := Lib.hid hn
    rw [hn] at hz ⊢
    have YR := Lib.hid (Y2.out.same (w' := wr) fun b h => hk.keep b (by have := HQ.out b h; omega) (fun e => by have := HQ.out b h; omega) (by simp))
    have APq : Apart q p := hk.apart (r := q) (by
      rcases hq2 : q.map (·.block) with _ | b
      · exact .inl hq2
      · right; rw [hq2]; simp) (fun b h => by have := HQ.out b h; omega)
    have AP := Lib.hid APq
    have hgr := hq.lt
    clear hq hk hn APq
    by_cases hlt : n + m ≤ r
    · have P := Lib.hid (qput_ok wr w.heap.size r xs p HQr.out q ys m c YR.out HM.out hc (fun e => by have := HQ.out _ e; omega) AP.out (fun b h => by have := HQ.out b h; have := B2.out.size; have := HK.out.below.size; omega) (by have := HNN.out; omega))
      go_wp2_with (go_at_call 10; refine P.out.mono ?_; rintro e w3 ⟨rfl, p3, hq3, hk3⟩; have Q3 := Lib.hid hq3; have K3 := Lib.hid hk3; clear hq3 hk3)
      go_roundw
      case rel => exact ⟨xs ++ ys, p3, by rw [List.length_append, HNN.out, HM.out]; exact congrArg (Value.int .i64) (by omega), Q3.out, HK.out.trans K3.out⟩
      case measure => simp [intOf]; omega
    · have P := Lib.hid (qput_no wr w.heap.size r xs p HQr.out q m c (by have := HNN.out; omega))
      obtain ⟨d, hd⟩ : ∃ d : Nat, (r : Int) - n = d := ⟨r - n, by omega⟩
      have hmk := fun u => run_makeR d (by omega) u
      rw [← hd] at hmk
      have HD := Lib.hid hd
      clear hd
      go_wp2_with fail
      refine P.out.mono ?_; rintro e w3 ⟨rfl, hb3⟩
      have Q3 := Lib.hid (HQr.out.next hb3)
      have B3 := Lib.hid ((B2.out.trans (HK.out.below.mono (by exact Nat.le_refl _))).trans (hb3.mono (Nat.le_of_lt hgr)))
      have g3 := Q3.out.lt
      have A3 := Lib.hid (Below.refl w3.heap.size w3 |>.alloc (Nat.le_refl _) (.cells (madeCells #[.int .u8 0] d) 5))
      have AP3 := Lib.hid (show Apart (some ⟨w3.heap.size, 0, none⟩) p by
        right; intro e
        rcases hp : p.map (·.block) with _ | b
        · rw [hp] at e; cases e
        · have := (Q3.out.ring_lt hp).2; rw [hp] at e; simp at e; omega)
      have P4 := Lib.hid (qput_ok _ w.heap.size r xs p (Q3.out.next A3.out) (some ⟨w3.heap.size, 0, none⟩) (List.replicate d 0) d d (zeros_made w3 d) (by simp) (Nat.le_refl _) (by simp; omega) AP3.out (by simp) (by have := HNN.out; have := HD.out; omega))
      clear hb3 P HQr B2 HK
      go_wp2_with fail
      refine P4.out.mono ?_; rintro e w4 ⟨rfl, p4, hq, hk⟩
      obtain ⟨zs, hzs⟩ : ∃ zs, xs ++ List.replicate d 0 = zs := ⟨_, rfl⟩
      have hzl : zs.length = r := by rw [← hzs]; have := HNN.out; have := HD.out; simp; omega
      rw [hzs] at hq
      have Q4 := Lib.hid hq
      have B4 := Lib.hid (B3.out.trans ((A3.out.mono (Nat.le_of_lt g3)).trans hk.below))
      have g4 := hq.lt
      have A4 := Lib.hid (Below.refl w4.heap.size w4 |>.alloc (Nat.le_refl _) (.cells #[.int .u8 1] 5))
      have P5 := Lib.hid (qput_no _ w.heap.size r zs p4 (hq.next A4.out) (some ⟨w4.heap.size, 0, none⟩) 1 1 (by omega))
      have HZ := Lib.hid hzl
      clear hq hk Q3 B3 A3 P4 hzs hzl hmk
      go_wp2_with fail
      refine P5.out.mono ?_; rintro e w5 ⟨rfl, hb⟩
      have hb5 := A4.out.trans (hb.mono A4.out.size)
      have Q5 := Lib.hid (Q4.out.next hb5)
      have B5 := Lib.hid (B4.out.trans (hb5.mono (Nat.le_of_lt g4)))
      have P6 := Lib.hid (qtake_any w5 w.heap.size r zs p4 Q5.out 1048576)
      clear hb hb5 Q4 B4 A4 P5
      go_wp2_with fail
      refine P6.out.mono ?_; rintro e w6 ⟨⟨r6, rfl, _⟩, hq, hk⟩
      have ht : takeN 1048576 zs.length = r := by unfold takeN; have := HZ.out; omega
      rw [ht] at hq ⊢
      have hdr : zs.drop r = [] := List.drop_eq_nil_of_le (by have := HZ.out; omega)
      have htk : (zs.take r).length = r := by have := HZ.out; simp; omega
      rw [hdr] at hq
      rw [htk]
      have B6 := Lib.hid (B5.out.trans hk.below)
      have P7 := Lib.hid (qroom_any w6 w.heap.size r [] p4 hq)
      have g6 := hq.lt
      clear hq hk ht hdr htk Q5 B5 P6
      go_wp2_with fail
      refine P7.out.mono ?_; rintro e w7 ⟨rfl, hb⟩
      have B7 := Lib.hid (B6.out.trans (hb.mono (Nat.le_of_lt g6)))
      clear hb
      go_wp2_with fail
      go_ret
      exact ⟨rfl, B7.out⟩
theorem qfull_walk (w : World) (n : Int) (_ : (Lit.int .i64 n).wf = true) (q : Option Addr) (xs : List Int) (c : Nat) (hb : BytesAt w q xs) (hc : xs.length ≤ c) (hm : c ≤ maxLen) :
    Calls Try.prog 6 #[.int .i64 n, .slice q xs.length c] w fun e w' => e = .returned (.bool true) ∧ Below w.heap.size w w' := by
  by_cases h : n < 0 ∨ 65536 < n ∨ 1000 < xs.length ∨ xs.length = 0
  · exact qfull_out w n q _ c h
  · obtain ⟨m, rfl⟩ := Int.eq_ofNat_of_zero_le (show 0 ≤ n by omega)
    exact qfull_in w m q xs _ c hb rfl hc (hb.lt (by omega)) (by omega) (by omega) (by omega)
end Go.Proofs.Ytbgofccnhehodaa
