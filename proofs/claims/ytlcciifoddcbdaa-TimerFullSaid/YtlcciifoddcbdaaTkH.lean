/- TimerFull: the walk. -/
import Derived.Test.YtlcciifoddcbdaaTkD
import Derived.Test.YtlcciifoddcbdaaTkG
namespace Go.Proofs.Ytlcciifoddcbdaa
open Go.RowKit Go.Maps

/-- The keys of kind 7 with a number below K, each at its own number. -/
def fullT (K : Int) (y : Tk) : Option Int := if y.kind = 7 ∧ 0 ≤ y.peer ∧ y.peer < K then some y.peer else none
theorem fullT_step (k : Int) (hk : 0 ≤ k) : (fun y => if y = (⟨k, 7⟩ : Tk) then some k else fullT k y) = fullT (k + 1) := by
  funext y
  obtain ⟨p, q⟩ := y
  unfold fullT
  by_cases h : (⟨p, q⟩ : Tk) = ⟨k, 7⟩
  · rw [if_pos h]
    injection h with h1 h2
    subst h1 h2
    rw [if_pos ⟨rfl, hk, by dsimp only; omega⟩]
  · rw [if_neg h]
    by_cases hc : q = 7 ∧ 0 ≤ p ∧ p < k
    · rw [if_pos hc, if_pos ⟨hc.1, hc.2.1, by dsimp only; omega⟩]
    · rw [if_neg hc, if_neg]
      rintro ⟨h1, h2, h3⟩
      dsimp only at h1 h2 h3
      by_cases hp : p = k
      · exact h (by rw [hp, h1])
      · exact hc ⟨h1, h2, by omega⟩
theorem okT_n (k : Int) (h0 : 0 ≤ k) (h1 : k ≤ 2000) : okT ⟨k, 7⟩ := ⟨wf_mom (v := k) h0 (by omega), wf_mom (v := 7) (by omega) (by omega)⟩
/-- What is there behind k rounds. -/
def FullS (w wr : World) (g b k : Nat) : Prop := ∃ m D, TmP wr g b m D ∧ m ≤ k ∧ Maps.size D = min k 1024 ∧ Tab D (fullT ((min k 1024 : Nat) : Int)) ∧ w.heap.size ≤ b ∧ Below w.heap.size w wr
theorem FullS.next {w wr w' : World} {g b k : Nat} (h : FullS w wr g b k) (hb : Below wr.heap.size wr w') : FullS w w' g b k := by
  obtain ⟨m, D, a1, a2, a3, a4, a5, a6⟩ := h
  exact ⟨m, D, a1.next hb, a2, a3, a4, a5, a6.trans (hb.mono a6.size)⟩
theorem FullS.bel {w wr : World} {g b k : Nat} (h : FullS w wr g b k) : Below w.heap.size w wr := by
  obtain ⟨m, D, a1, a2, a3, a4, a5, a6⟩ := h
  exact a6
theorem set_less (w wr : World) (g b k : Nat) (h : FullS w wr g b k) (hk : k < 1024) :
    Calls Try.prog 9 #[.pointer (some ⟨g, 0, none⟩), .agg #[.int .i64 k, .int .i64 7], .int .i64 k] wr fun e w' => e = .returned (.int .i64 0) ∧ FullS w w' g b (k + 1) := by
  obtain ⟨m, D, hT, hm, hs, ht, hb, hw⟩ := h
  have e1 : min k 1024 = k := by omega
  have e2 : min (k + 1) 1024 = k + 1 := by omega
  rw [e1] at hs ht
  have ok := okT_n k (by omega) (by omega)
  have hh : has D (litT ⟨k, 7⟩) = false := by
    rw [(ht _ ok).1]
    unfold fullT
    rw [if_neg (by dsimp only; omega)]; rfl
  refine (tset_ok wr g b m D hT k 7 k ok (by omega) (by omega) (by omega) (.inr (by omega))).mono ?_
  rintro e w' ⟨he, hT', hg⟩
  refine ⟨he, m + 1, _, hT', by omega, ?_, ?_, hb, hw.grown hg hw.size (fun i e => by cases e; exact hb)⟩
  · rw [hT.size_put ⟨k, 7⟩, hh, e2]; simp; omega
  · rw [e2]
    have h2 := ht.put hT.map.isMap ok (k : Int)
    rw [fullT_step k (by omega)] at h2
    exact h2
theorem set_more (w wr : World) (g b k : Nat) (h : FullS w wr g b k) (hk : 1024 ≤ k) (hk2 : k ≤ 2000) :
    Calls Try.prog 9 #[.pointer (some ⟨g, 0, none⟩), .agg #[.int .i64 k, .int .i64 7], .int .i64 k] wr fun e w' => e = .returned (.int .i64 2) ∧ FullS w w' g b (k + 1) := by
  obtain ⟨m, D, hT, hm, hs, ht, hb, hw⟩ := h
  have e1 : min k 1024 = 1024 := by omega
  have e2 : min (k + 1) 1024 = 1024 := by omega
  rw [e1] at hs ht
  have ok := okT_n k (by omega) (by omega)
  have hh : has D (litT ⟨k, 7⟩) = false := by
    rw [(ht _ ok).1]
    unfold fullT
    rw [if_neg (by dsimp only; omega)]; rfl
  refine (tset_full wr g b m D hT k 7 k ok (by omega) (by omega) hh (by omega)).mono ?_
  rintro e w' ⟨he, hb'⟩
  exact ⟨he, m, D, hT.next hb', by omega, by rw [e2]; exact hs, by rw [e2]; exact ht, hb, hw.trans (hb'.mono hw.size)⟩
theorem set_there (w wr : World) (g b k : Nat) (h : FullS w wr g b k) (hk : 0 < k) (hk2 : k ≤ 2000) :
    Calls Try.prog 9 #[.pointer (some ⟨g, 0, none⟩), .agg #[.int .i64 0, .int .i64 7], .int .i64 9] wr fun e w' => e = .returned (.int .i64 0) ∧ Below w.heap.size w w' := by
  obtain ⟨m, D, hT, hm, hs, ht, hb, hw⟩ := h
  have ok := okT_n 0 (by omega) (by omega)
  have hh : has D (litT ⟨0, 7⟩) = true := by
    rw [(ht _ ok).1]
    unfold fullT
    rw [if_pos ⟨rfl, by dsimp only; omega, by dsimp only; omega⟩]; rfl
  refine (tset_ok wr g b m D hT 0 7 9 ok (by omega) (by omega) (by omega) (.inl hh)).mono ?_
  rintro e w' ⟨he, hT', hg⟩
  exact ⟨he, hw.grown hg hw.size (fun i e => by cases e; exact hb)⟩
set_option maxHeartbeats 4000000 in
theorem full_walk (w : World) (n : Int) {P1 : Prop} (_ : P1) :
    Calls Try.prog 5 #[.int .i64 n] w fun e w' => e = .returned (.bool true) ∧ Below w.heap.size w w' := by
  have HLV := fun W => Lib.hid (tlives_any W)
  by_cases h1 : n < 0
  · go_enter Try.func5, Try.ntmps5
    go_wp2_with fail
    refine (tnew_any _).mono ?_; rintro e w1 ⟨rfl, hT1, hB1⟩
    clear hT1
    go_wp2_with fail
    with_reducible refine (HLV _).out.mono ?_; rintro e w2 ⟨rfl, hB2⟩
    go_wp2_with fail
    with_reducible refine (HLV _).out.mono ?_; rintro e w3 ⟨rfl, hB3⟩
    go_wp2_with fail
    go_ret
    exact ⟨rfl, hB1.trans ((hB2.mono hB1.size).trans (hB3.mono (Nat.le_trans hB1.size hB2.size)))⟩
  · by_cases h2 : 1100 < n
    · have h1' : 0 ≤ n := by omega
      go_enter Try.func5, Try.ntmps5
      go_wp2_with fail
      refine (tnew_any _).mono ?_; rintro e w1 ⟨rfl, hT1, hB1⟩
      clear hT1
      go_wp2_with fail
      with_reducible refine (HLV _).out.mono ?_; rintro e w2 ⟨rfl, hB2⟩
      go_wp2_with fail
      with_reducible refine (HLV _).out.mono ?_; rintro e w3 ⟨rfl, hB3⟩
      go_wp2_with fail
      go_ret
      exact ⟨rfl, hB1.trans ((hB2.mono hB1.size).trans (hB3.mono (Nat.le_trans hB1.size hB2.size)))⟩
    · obtain ⟨N, rfl⟩ : ∃ N : Nat, n = N := ⟨n.toNat, by omega⟩
      have hN : N ≤ 1100 := by omega
      have t1 : decide ((N : Int) < 0) = false := by simp
      have t2 : decide ((1100 : Int) < (N : Int)) = false := by simp; omega
      clear h1 h2
      go_enter Try.func5, Try.ntmps5
      go_wp2_with fail
      refine (tnew_any _).mono ?_; rintro e w1 ⟨rfl, hT1, hB1⟩
      obtain ⟨g, hg⟩ : ∃ g, w.heap.size + 1 = g := ⟨_, rfl⟩
      obtain ⟨b, hb⟩ : ∃ r, w.heap.size = r := ⟨_, rfl⟩
      have hS1 : FullS w w1 g b 0 := ⟨0, _, by rw [← hg, ← hb]; exact hT1, Nat.le_refl _, rfl, fun y hy => by
        rw [show fullT ((min 0 1024 : Nat) : Int) = fun _ => none from funext fun z => if_neg (by rintro ⟨_, a, c⟩; simp at c; omega)]
        exact Tab.empty y hy, by omega, hB1⟩
      rw [hg]
      clear hT1
      go_wp2_with fail
      with_reducible refine (HLV _).out.mono ?_; rintro e w2 ⟨rfl, hB2⟩
      have hS2 : FullS w w2 g b 0 := by
        obtain ⟨m, D, a1, a2, a3, a4, a5, a6⟩ := hS1
        exact ⟨m, D, a1.next hB2, a2, a3, a4, a5, a6.trans (hB2.mono a6.size)⟩
      have HS2 := Lib.hid hS2
      clear hS1 hS2 hB1 hB2 hg hb
      go_wp2_with fail
      go_loopw [4] (fun vi wr => ∃ k : Nat, vi = .int .i64 k ∧ k ≤ N ∧ FullS w wr g b k) (fun vi _ => N - (intOf vi).toNat)
      case atStart => exact ⟨0, rfl, Nat.zero_le _, HS2.out⟩
      case round =>
        obtain ⟨k, rfl, hk, hS⟩ := hrel
        have HS := Lib.hid hS
        clear hS
        by_cases hlt : k < N
        · have hlt' : (k : Int) < (N : Int) := by omega
          by_cases hf : 1024 ≤ k
          · have hf' : (1024 : Int) ≤ (k : Int) := by omega
            go_wp2_with fail
            refine (set_more w _ g b k HS.out hf (by omega)).mono ?_
            rintro e w4 ⟨rfl, hS4⟩
            have HS4 := Lib.hid hS4
            clear hS4
            go_wp2_with fail
            go_roundw
            case rel => exact ⟨k + 1, by go_num, by omega, HS4.out⟩
            case measure => simp [intOf]; omega
          · have hf' : ¬ (1024 : Int) ≤ (k : Int) := by omega
            have hf2 : decide ((1024 : Int) ≤ (k : Int)) = false := decide_eq_false hf'
            go_wp2_with fail
            refine (set_less w _ g b k HS.out (by omega)).mono ?_
            rintro e w4 ⟨rfl, hS4⟩
            have HS4 := Lib.hid hS4
            clear hS4
            go_wp2_with fail
            go_roundw
            case rel => exact ⟨k + 1, by go_num, by omega, HS4.out⟩
            case measure => simp [intOf]; omega
        · have hkn : k = N := by omega
          clear hlt
          subst hkn
          clear t1 t2
          have hz0 : k = 0 ∨ 0 < k := by omega
          go_wp2_with fail
          refine (tat_nil _ 0 0 ⟨rfl, rfl⟩).mono ?_
          rintro e w5 ⟨rfl, hb5⟩
          have HS5 := Lib.hid (HS.out.next hb5)
          clear hb5
          go_wp2_with fail
          refine (tnext_nil _).mono ?_
          rintro e w6 ⟨rfl, hb6⟩
          have HS6 := Lib.hid (HS5.out.next hb6)
          clear hb6
          rcases hz0 with hz0 | hz0
          · have hz : ((k : Int) == 0) = true := by simp [hz0]
            have HB := Lib.hid HS6.out.bel
            clear hz0
            go_wp2_with fail
            refine (tset_nil _ 0 0 1).mono ?_
            rintro e v0 ⟨rfl, hv⟩
            have HB := Lib.hid (HB.out.trans (hv.mono HB.out.size))
            clear hv
            go_wp2_with fail
            refine (tstop_nil _ 0 0 ⟨rfl, rfl⟩).mono ?_
            rintro e v1 ⟨rfl, hv⟩
            have HB := Lib.hid (HB.out.trans (hv.mono HB.out.size))
            clear hv
            go_wp2_with fail
            refine (tdue_nil _ 9).mono ?_
            rintro e v2 ⟨rfl, hv⟩
            have HB := Lib.hid (HB.out.trans (hv.mono HB.out.size))
            clear hv
            go_wp2_with fail
            refine (tlen_nil _).mono ?_
            rintro e v9 ⟨rfl, rfl⟩
            go_wp2_with fail
            go_ret
            exact ⟨rfl, HB.out⟩
          · have hz : ((k : Int) == 0) = false := by simp; omega
            have HZ := Lib.hid hz0
            clear hz0
            go_wp2_with fail
            refine (set_there w _ g b k HS6.out HZ.out (by omega)).mono ?_
            rintro e w7 ⟨rfl, hb7⟩
            have HB := Lib.hid hb7
            clear hb7
            go_wp2_with fail
            refine (tset_nil _ 0 0 1).mono ?_
            rintro e v0 ⟨rfl, hv⟩
            have HB := Lib.hid (HB.out.trans (hv.mono HB.out.size))
            clear hv
            go_wp2_with fail
            refine (tstop_nil _ 0 0 ⟨rfl, rfl⟩).mono ?_
            rintro e v1 ⟨rfl, hv⟩
            have HB := Lib.hid (HB.out.trans (hv.mono HB.out.size))
            clear hv
            go_wp2_with fail
            refine (tdue_nil _ 9).mono ?_
            rintro e v2 ⟨rfl, hv⟩
            have HB := Lib.hid (HB.out.trans (hv.mono HB.out.size))
            clear hv
            go_wp2_with fail
            refine (tlen_nil _).mono ?_
            rintro e v9 ⟨rfl, rfl⟩
            go_wp2_with fail
            go_ret
            exact ⟨rfl, HB.out⟩
end Go.Proofs.Ytlcciifoddcbdaa
