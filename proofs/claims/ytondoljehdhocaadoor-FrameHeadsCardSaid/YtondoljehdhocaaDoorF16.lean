/- 'FrameHeads': what any bytes are as a head, or what is wrong with it. -/
import Derived.Test.YtondoljehdhocaaDoorF15
namespace Go.Proofs.YtondoljehdhocaaDoor
open Go.RowKit

theorem rhead_any (p : Option Addr) (xs : List Int) (n c : Nat) (w : World) (hb : BytesAt w p xs) (hn : xs.length = n) (hc : n ≤ c) (hcm : c ≤ 9223372036854775807) :
    Calls Tryd.prog 14 #[.slice p n c] w fun e w' => RetHead w w' (headM xs) e := by
  unfold RetHead headM
  by_cases h19 : xs.length < 19
  · rw [if_pos h19]
    exact rhead_short p n c w (by omega)
  · rw [if_neg h19]
    obtain ⟨b, off, rfl, _⟩ := hb.2.resolve_left (by rintro rfl; simp at h19)
    rcases hm : marksB xs with _ | _
    · rw [if_pos rfl]
      exact rhead_marks b off xs n c w hb hn (by omega) hm
    · rw [if_neg (by decide)]
      rcases hk : knownB (xs.getD 18 0) with _ | _
      · rw [if_pos rfl]
        exact rhead_kind b off xs n c w hb hn (by omega) hc hcm hm hk
      · rw [if_neg (by decide)]
        rcases hf : fitsM (xs.getD 18 0) (getV [xs.getD 16 0, xs.getD 17 0] - 19) with _ | _
        · rw [if_pos rfl]
          exact rhead_len b off xs n c w hb hn (by omega) hc hcm hm hk hf
        · rw [if_neg (by decide)]
          exact rhead_ok b off xs n c w hb hn (by omega) hc hcm hm hk hf

set_option maxHeartbeats 1000000 in
theorem heads_walk (w : World) (ht : Tab w) (p : Option Addr) (xs : List Int) (c : Nat) (hb : BytesAt w p xs) (hc : xs.length ≤ c) (hm : c ≤ maxLen) :
    Calls Tryd.prog 4 #[.slice p xs.length c] w fun e w' => e = .returned (.bool true) ∧ Below w.heap.size w w' := by
  have hcm : c ≤ 9223372036854775807 := by unfold maxLen at hm; omega
  obtain ⟨n, hn⟩ : ∃ n, xs.length = n := ⟨_, rfl⟩
  have HT := Lib.hid ht
  have HH := Lib.hid (head_any p xs n c w ht hb hn (by omega) hcm)
  have HR := Lib.hid (fun w (h : BytesAt w p xs) => rhead_any p xs n c w h hn (by omega) hcm)
  have HY := Lib.hid hb
  obtain ⟨R, hRR⟩ : ∃ R, headM xs = R := ⟨_, rfl⟩
  rw [hRR] at HH HR
  clear hRR
  obtain ⟨K, N, C, S, D⟩ := R
  rw [hn]
  clear hb ht hm hn hc
  by_cases h6 : 6000 < n
  · have t1 : decide ((6000 : Int) < (n : Int)) = true := by simp; omega
    go_enter Tryd.func4, Tryd.ntmps4
    go_wp2_with fail
    refine (lives_any w HT.out).mono ?_; rintro e w1 ⟨rfl, hb⟩
    have HB := Lib.hid hb
    clear hb
    go_wp2_with fail
    go_ret
    exact ⟨rfl, HB.out⟩
  · have t1 : decide ((6000 : Int) < (n : Int)) = false := by simp; omega
    go_enter Tryd.func4, Tryd.ntmps4
    go_wp2_with fail
    refine HH.out.mono ?_; rintro e w1 ⟨q1, c1, rfl, hO, hb⟩
    dsimp only at hO ⊢
    obtain ⟨L, hL⟩ : ∃ L, D.length = L := ⟨_, rfl⟩
    rw [hL]
    have HL := Lib.hid hL
    have hal := (Below.refl w1.heap.size w1).alloc (Nat.le_refl _) (.cells #[.int .i64 C, .int .i64 S, .slice q1 L c1] 33)
    have B1 := Lib.hid (hb.trans (hal.mono hb.size))
    have O1 := Lib.hid (hO.below hal).bytes
    have N1 := Lib.hid (Blk.new w1 33 [.int .i64 C, .int .i64 S, .slice q1 L c1])
    clear hO hb hal hL
    go_wp2_with fail
    refine (HR.out _ (HY.out.below B1.out)).mono ?_; rintro e w2 ⟨q2, c2, rfl, hO, hb⟩
    dsimp only at hO ⊢
    rw [HL.out]
    have hal := (Below.refl w2.heap.size w2).alloc (Nat.le_refl _) (.cells #[.int .i64 C, .int .i64 S, .slice q2 L c2] 33)
    have B2 := Lib.hid (B1.out.trans ((hb.trans (hal.mono hb.size)).mono B1.out.size))
    have O2 := Lib.hid ((O1.out.below hb).below hal)
    have P2 := Lib.hid (hO.below hal).bytes
    have N2 := Lib.hid ((N1.out.next hb).next hal)
    have M2 := Lib.hid (Blk.new w2 33 [.int .i64 C, .int .i64 S, .slice q2 L c2])
    have HLV := Lib.hid (lives_any _ (HT.out.below B2.out))
    clear hO hb hal O1 N1
    go_wp2_with fail
    refine HLV.out.mono ?_; rintro e w3 ⟨rfl, hb⟩
    have B3 := Lib.hid (B2.out.trans (hb.mono B2.out.size))
    have O3 := Lib.hid (O2.out.below hb)
    have P3 := Lib.hid (P2.out.below hb)
    have n3 := N2.out.next hb
    have m3 := M2.out.next hb
    have n0 := n3.cell 0 (by simp)
    have n1 := n3.cell 1 (by simp)
    have n2 := n3.cell 2 (by simp)
    have m0 := m3.cell 0 (by simp)
    have m1 := m3.cell 1 (by simp)
    have m2 := m3.cell 2 (by simp)
    clear hb n3 m3 HLV
    go_wp2_with fail
    refine (rsameN_yes C S q1 D L c1 q2 c2 w3 O3.out P3.out HL.out).mono ?_; rintro e w4 ⟨rfl, hb⟩
    have B4 := Lib.hid (B3.out.trans (hb.mono B3.out.size))
    clear hb
    go_wp2_with fail
    go_ret
    exact ⟨rfl, B4.out⟩
end Go.Proofs.YtondoljehdhocaaDoor
