/- meter: then. -/
import Derived.Test.YtgididkpgncdjaaZF
namespace Go.Proofs.Ytgididkpgncdjaa
open Go.RowKit Go.Maps
set_option linter.unusedVariables false
set_option linter.unusedSimpArgs false
set_option maxRecDepth 100000

theorem grown_turns {w w' : World} {b : Nat} (hg : w.grownBy w' (some b)) : Turns (fun q => q = b) w w' := ⟨hg.os, hg.tape, hg.output, hg.size, fun q hq hne => hg.block q hq (fun e => hne (by simpa using e))⟩
set_option maxHeartbeats 8000000 in
theorem mthen_any (w : World) (B : Nat) (hB : B ≤ w.heap.size) (v : Mv) (p : Mp) (hv : OkMv v) (hc : MapO w B p.1 (fillT v.L)) (src seq : Int) (z : Option Addr) (L : List Ct) (n c9 : Nat) (hl : CtsAt w z L) (hn : L.length = n) (hok : okRep src seq L = true) (now : Int) (n0 : 0 ≤ now) (n1 : now ≤ 9007199254740991) :
    Calls Try.prog 33 #[.agg #[.int .i64 v.q, .int .i64 v.a, .bool v.h, .map p.1, .map p.2], .agg #[.int .i64 src, .int .i64 seq, .slice z n c9], .int .i64 now] w fun e w' => ∃ cb rb, e = .returned (.agg #[.int .i64 seq, .int .i64 now, .bool true, .map (some cb), .map (some rb)]) ∧ MapO w' B (some cb) (fillT L) ∧ MapO w' B (some rb) (fillT (ratesV v now L)) ∧ Below w.heap.size w w' := by
  obtain ⟨c, r⟩ := p
  obtain ⟨q, a, h, vL, vR⟩ := v
  dsimp only at hc
  have hmm := @run_makeMap Try.prog
  have hlen : n ≤ 1024 := by
    unfold okRep at hok
    simp only [Bool.and_eq_true, decide_eq_true_eq] at hok
    omega
  have hfin : ∀ x ∈ L, 0 ≤ x.c ∧ x.c ≤ 9007199254740991 := fun x hx => by
    unfold okRep at hok
    simp only [Bool.and_eq_true, decide_eq_true_eq] at hok
    have := (distT_iff L [] hok.2.2.2).1 x hx
    unfold fineCt at this
    simp only [Bool.and_eq_true] at this
    exact (isCap_iff _).1 this.2
  have hb1 := newB w (.cells #[.int .i64 q, .int .i64 a, .bool h, .map c, .map r] 62)
  have hb2 := newB (w.alloc (.cells #[.int .i64 q, .int .i64 a, .bool h, .map c, .map r] 62)) (.cells #[.int .i64 src, .int .i64 seq, .slice z n c9] 31)
  have hb3 := newB ((w.alloc (.cells #[.int .i64 q, .int .i64 a, .bool h, .map c, .map r] 62)).alloc (.cells #[.int .i64 src, .int .i64 seq, .slice z n c9] 31)) (.cells #[.int .i64 0, .int .i64 0, .bool false, .map none, .map none] 62)
  have hb4 := newB (((w.alloc (.cells #[.int .i64 q, .int .i64 a, .bool h, .map c, .map r] 62)).alloc (.cells #[.int .i64 src, .int .i64 seq, .slice z n c9] 31)).alloc (.cells #[.int .i64 0, .int .i64 0, .bool false, .map none, .map none] 62)) (.map #[] 0)
  have hb5 := newB ((((w.alloc (.cells #[.int .i64 q, .int .i64 a, .bool h, .map c, .map r] 62)).alloc (.cells #[.int .i64 src, .int .i64 seq, .slice z n c9] 31)).alloc (.cells #[.int .i64 0, .int .i64 0, .bool false, .map none, .map none] 62)).alloc (.map #[] 0)) (.map #[] 0)
  have hb6 := newB (((((w.alloc (.cells #[.int .i64 q, .int .i64 a, .bool h, .map c, .map r] 62)).alloc (.cells #[.int .i64 src, .int .i64 seq, .slice z n c9] 31)).alloc (.cells #[.int .i64 0, .int .i64 0, .bool false, .map none, .map none] 62)).alloc (.map #[] 0)).alloc (.map #[] 0)) (.cells #[.int .i64 seq, .int .i64 now, .bool true, .map (some (w.heap.size + 1 + 1 + 1)), .map (some (w.heap.size + 1 + 1 + 1 + 1))] 62)
  have hx1 := Blk.new w 62 [.int .i64 q, .int .i64 a, .bool h, .map c, .map r]
  have hx2 := Blk.new (w.alloc (.cells #[.int .i64 q, .int .i64 a, .bool h, .map c, .map r] 62)) 31 [.int .i64 src, .int .i64 seq, .slice z n c9]
  have hx3 := Blk.new ((w.alloc (.cells #[.int .i64 q, .int .i64 a, .bool h, .map c, .map r] 62)).alloc (.cells #[.int .i64 src, .int .i64 seq, .slice z n c9] 31)) 62 [.int .i64 0, .int .i64 0, .bool false, .map none, .map none]
  have hm1 := MapAt.fresh keyPfC elIntC (((w.alloc (.cells #[.int .i64 q, .int .i64 a, .bool h, .map c, .map r] 62)).alloc (.cells #[.int .i64 src, .int .i64 seq, .slice z n c9] 31)).alloc (.cells #[.int .i64 0, .int .i64 0, .bool false, .map none, .map none] 62))
  have hm2 := MapAt.fresh keyPfC elIntC ((((w.alloc (.cells #[.int .i64 q, .int .i64 a, .bool h, .map c, .map r] 62)).alloc (.cells #[.int .i64 src, .int .i64 seq, .slice z n c9] 31)).alloc (.cells #[.int .i64 0, .int .i64 0, .bool false, .map none, .map none] 62)).alloc (.map #[] 0))
  have hx6 := Blk.new (((((w.alloc (.cells #[.int .i64 q, .int .i64 a, .bool h, .map c, .map r] 62)).alloc (.cells #[.int .i64 src, .int .i64 seq, .slice z n c9] 31)).alloc (.cells #[.int .i64 0, .int .i64 0, .bool false, .map none, .map none] 62)).alloc (.map #[] 0)).alloc (.map #[] 0)) 62 [.int .i64 seq, .int .i64 now, .bool true, .map (some (w.heap.size + 1 + 1 + 1)), .map (some (w.heap.size + 1 + 1 + 1 + 1))]
  simp only [sz_alloc] at hx2 hx3 hm1 hm2 hx6
  have hB26 := hb3.trans ((hb4.trans ((hb5.trans (hb6.mono hb5.size)).mono hb4.size)).mono hb3.size)
  have hB36 := hb4.trans ((hb5.trans (hb6.mono hb5.size)).mono hb4.size)
  have hB56 := hb5.trans (hb6.mono hb5.size)
  have hB16 := hb2.trans (hB26.mono hb2.size)
  have hB06 := hb1.trans (hB16.mono hb1.size)
  have HX := Lib.hid (hx1.next hB16)
  have HR := Lib.hid (hx2.next hB26)
  have HZ := Lib.hid (hx3.next hB36)
  have HM1 := Lib.hid (hm1.next hB56)
  have HM2 := Lib.hid (hm2.next hb6)
  have HT := Lib.hid hx6
  have HB := Lib.hid hB06
  have r0 := hx2.cell 0 (by simp)
  have r1 := hx2.cell 1 (by simp)
  have r2 := HR.out.cell 2 (by simp)
  simp only [List.getD_cons_zero, List.getD_cons_succ] at r0 r1 r2
  have r1 : (((w.alloc (.cells #[.int .i64 q, .int .i64 a, .bool h, .map c, .map r] 62)).alloc (.cells #[.int .i64 src, .int .i64 seq, .slice z n c9] 31)).alloc (.cells #[.int .i64 0, .int .i64 0, .bool false, .map none, .map none] 62)).cell? ⟨w.heap.size + 1, 1, none⟩ = some (.int .i64 seq) := kept hb3 r1
  obtain ⟨W0, hW0⟩ : ∃ W0, ((((((w.alloc (.cells #[.int .i64 q, .int .i64 a, .bool h, .map c, .map r] 62)).alloc (.cells #[.int .i64 src, .int .i64 seq, .slice z n c9] 31)).alloc (.cells #[.int .i64 0, .int .i64 0, .bool false, .map none, .map none] 62)).alloc (.map #[] 0)).alloc (.map #[] 0)).alloc (.cells #[.int .i64 seq, .int .i64 now, .bool true, .map (some (w.heap.size + 1 + 1 + 1)), .map (some (w.heap.size + 1 + 1 + 1 + 1))] 62)) = W0 := ⟨_, rfl⟩
  rw [hW0] at HX HR HZ HM1 HM2 HT HB r2
  clear hb1 hb2 hb3 hb4 hb5 hb6 hx1 hx2 hx3 hx6 hm1 hm2 hB26 hB36 hB56 hB16 hB06 r0
  have HW := Lib.hid hW0
  rw [← hW0] at r2
  have HV := Lib.hid hv
  have HFI := Lib.hid hfin
  have HN := Lib.hid hn
  have HLL := Lib.hid hl
  have HOC := Lib.hid hc
  clear hok hv hfin hn hl hc hW0
  go_enter Try.func33, Try.ntmps33
  go_wp2_with fail
  rw [HW.out]
  clear hmm r1 r2
  have HS0 := Lib.hid HB.out.size
  obtain ⟨S0, hS0⟩ : ∃ S, w.heap.size = S := ⟨_, rfl⟩
  rw [hS0] at HX HR HZ HM1 HM2 HT
  have hB0 : B ≤ S0 := hS0 ▸ hB
  have HSZ : Hid (S0 + 1 + 1 + 1 + 1 + 1 < W0.heap.size) := Lib.hid HT.out.lt
  have HS1 : Hid (w.heap.size ≤ S0) := Lib.hid (Nat.le_of_eq hS0)
  rw [hS0]
  clear hS0
  go_loopw [21] (fun iv wr => ∃ (k : Nat) (s1 n2 s2 : Nat), k ≤ n ∧ iv = .int .i64 k ∧ s1 ≤ k ∧ n2 ≤ k ∧ s2 ≤ k ∧ MapP wr (S0 + 1 + 1 + 1) k s1 (fillT (L.take k)) ∧ MapP wr (S0 + 1 + 1 + 1 + 1) n2 s2 (fillT (ratesV ⟨q, a, h, vL, vR⟩ now (L.take k))) ∧ Turns (fun x => x = S0 + 1 + 1 + 1 ∨ x = S0 + 1 + 1 + 1 + 1) W0 wr) (fun iv _ => n - (intOf iv).toNat)
  case atStart => exact ⟨0, 0, 0, 0, Nat.zero_le _, rfl, Nat.le_refl _, Nat.le_refl _, Nat.le_refl _, HM1.out, HM2.out, Turns.refl _ _⟩
  case round =>
    obtain ⟨k, s1, n2, s2, hk, rfl, h1, h2, h3, hm1, hm2, hT⟩ := hrel
    have HTN := Lib.hid hT
    have HMA := Lib.hid hm1
    have HMB := Lib.hid hm2
    have HXk := Lib.hid (HX.out.of_same (hT.block S0 HX.out.lt (fun e => by omega)))
    have HTk := Lib.hid (HT.out.of_same (hT.block _ HT.out.lt (fun e => by omega)))
    have HZk := Lib.hid (HZ.out.of_same (hT.block _ HZ.out.lt (fun e => by omega)))
    have HBW := Lib.hid (HB.out.trans (hT.below HS0.out (fun x hx => by rcases hx with rfl | rfl <;> (have := HZ.out.lt; have := HS1.out; omega))))
    clear hm1 hm2 hT
    by_cases hlt : k < n
    · have hlt' : (k : Int) < (n : Int) := by omega
      have k0 : (0 : Int) ≤ (k : Int) := by omega
      have hkl : k < L.length := by rw [HN.out]; exact hlt
      have hLk := HLL.out.below HBW.out
      have hin := hLk.in_ HN.out hlt
      obtain ⟨b9, off, rfl, c0, c1, c2⟩ := ct_cell hLk HN.out hlt
      have hfx := HFI.out (L.getD k Ct.zero) (by simp [List.getD, hkl])
      have HTK := Lib.hid (show L.take (k + 1) = L.take k ++ [L.getD k Ct.zero] from by rw [List.take_add_one]; simp [List.getD, hkl])
      obtain ⟨x, hx⟩ : ∃ x, L.getD k Ct.zero = x := ⟨_, rfl⟩
      rw [hx] at c0 c1 c2 hin hfx HTK
      obtain ⟨⟨xa, xn⟩, xc⟩ := x
      dsimp only at c0 c1 c2 hfx
      have hn1 := newB wr (.cells #[.int .u32 xa, .int .i64 xn, .int .i64 xc] 67)
      have hy1 := Blk.new wr 67 [.int .u32 xa, .int .i64 xn, .int .i64 xc]
      obtain ⟨Q, hQ⟩ : ∃ Q, wr.heap.size = Q := ⟨_, rfl⟩
      obtain ⟨U1, hU1⟩ : ∃ U, wr.alloc (.cells #[.int .u32 xa, .int .i64 xn, .int .i64 xc] 67) = U := ⟨_, rfl⟩
      rw [hU1] at hn1 hy1
      rw [hQ] at hy1
      have hma := HMA.out.next hn1
      obtain ⟨es1, cl1, hh1⟩ := hma.heap
      obtain ⟨U2, hrun, hma2, hg2⟩ := hma.update Try.underlying60 (by unfold maxLen; omega) hin (a := xc) (by obtain ⟨g0, g1⟩ := hfx; simp [Lit.wf, IntKind.min, IntKind.max, IntKind.signed, IntKind.bits]; omega)
      have hrun : (Instr.mapUpdate 60 (.map (some (S0 + 1 + 1 + 1))) (.agg #[.int .u32 xa, .int .i64 xn]) (.int .i64 xc)).run Try.prog U1 = .ok () U2 := hrun
      have hnb : ∀ {g : Nat} {t : TypeId} {vs : List Value}, Blk U1 g t vs → some g ≠ some (S0 + 1 + 1 + 1) := fun hb e => hb.notMap hh1 (by simpa using e)
      have hx2 := (HXk.out.next hn1).of_same (hg2.block _ (HXk.out.next hn1).lt (hnb (HXk.out.next hn1)))
      have ht2 := (HTk.out.next hn1).of_same (hg2.block _ (HTk.out.next hn1).lt (hnb (HTk.out.next hn1)))
      have hy2 := hy1.of_same (hg2.block _ hy1.lt (hnb hy1))
      have hT2 : Turns (fun x => x = S0 + 1 + 1 + 1 ∨ x = S0 + 1 + 1 + 1 + 1) W0 U2 := (HTN.out.trans (.of_below hn1)).next (grown_turns hg2) (fun i hi => .inl (.inl hi))
      have hB2 : Below w.heap.size w U2 := HB.out.trans (hT2.below HS0.out (fun x hx => by rcases hx with rfl | rfl <;> (have := HS1.out; omega)))
      have hmb2 := ((HMB.out.next hn1)).grown hg2 (by simp)
      have hRT := Lib.hid (show Calls Try.prog 48 #[.agg #[.int .i64 q, .int .i64 a, .bool h, .map c, .map r], .agg #[.int .u32 xa, .int .i64 xn, .int .i64 xc], .int .i64 now] U2 fun e w' => e = .returned (.int .i64 (rateC ⟨q, a, h, vL, vR⟩ now ⟨⟨xa, xn⟩, xc⟩)) ∧ Below U2.heap.size U2 w' from mrate_any U2 B ⟨q, a, h, vL, vR⟩ (c, r) HV.out (HOC.out.below hB2) ⟨⟨xa, xn⟩, xc⟩ hin hfx.1 hfx.2 now n0 n1)
      have HRS := Lib.hid (ratesV_snoc ⟨q, a, h, vL, vR⟩ now (L.take k) ⟨⟨xa, xn⟩, xc⟩)
      obtain ⟨R, hR⟩ : ∃ R, rateC ⟨q, a, h, vL, vR⟩ now ⟨⟨xa, xn⟩, xc⟩ = R := ⟨_, rfl⟩
      have hRb := rateC_le HV.out (now := now) (x := ⟨⟨xa, xn⟩, xc⟩) hfx.1 hfx.2
      rw [hR] at hRT HRS hRb
      rw [← HTK.out] at HRS
      obtain ⟨x0, x1, x2⟩ := ct_boxes hy1
      have t3 : U1.cell? ⟨S0 + 1 + 1 + 1 + 1 + 1, 2 + 1, none⟩ = some (.map (some (S0 + 1 + 1 + 1))) := (ms_boxes (HTk.out.next hn1)).2.2.2.1
      obtain ⟨y0, y1, y2⟩ := ct_boxes hy2
      obtain ⟨s0, s1', s2', s3, s4⟩ := ms_boxes hx2
      have t4 := (ms_boxes ht2).2.2.2.2
      have HU := Lib.hid hU1
      have HQ := Lib.hid hQ
      have HY2 := Lib.hid hy2
      have HT2 := Lib.hid ht2
      have HMA2 := Lib.hid hma2
      have HMB2 := Lib.hid hmb2
      have HTT := Lib.hid hT2
      have HIN := Lib.hid hin
      rw [← hU1, ← hQ] at x0 x1 x2
      rw [← hU1] at t3 hrun
      rw [← hQ] at y0 y1 y2
      clear hx hn1 hy1 hU1 hQ hma hh1 hma2 hg2 hnb hx2 ht2 hy2 hT2 hB2 hmb2 hin hfx hkl hLk hR
      go_wp2_with fail
      refine hRT.out.mono ?_
      rintro e U3 ⟨rfl, hb⟩
      rw [HQ.out]
      have hm3 := HMB2.out.next hb
      obtain ⟨y0, y1, y2⟩ := ct_boxes (HY2.out.next hb)
      have t4 := (ms_boxes (HT2.out.next hb)).2.2.2.2
      have t4 : U3.cell? ⟨S0 + 1 + 1 + 1 + 1 + 1, 3 + 1, none⟩ = some (.map (some (S0 + 1 + 1 + 1 + 1))) := t4
      have HMA3 := Lib.hid (HMA2.out.next hb)
      have HT3 := Lib.hid (HTT.out.trans (.of_below hb))
      by_cases h0 : 0 < R
      · obtain ⟨U4, hrun, hm4, hg4⟩ := hm3.update Try.underlying60 (by unfold maxLen; omega) HIN.out (a := R) (by obtain ⟨g0, g1⟩ := hRb; simp [Lit.wf, IntKind.min, IntKind.max, IntKind.signed, IntKind.bits]; omega)
        have hrun : (Instr.mapUpdate 60 (.map (some (S0 + 1 + 1 + 1 + 1))) (.agg #[.int .u32 xa, .int .i64 xn]) (.int .i64 R)).run Try.prog U3 = .ok () U4 := hrun
        have t9 : decide (0 < R) = true := decide_eq_true h0
        have HM4 := Lib.hid (show MapP U4 (S0 + 1 + 1 + 1 + 1) (n2 + 1) _ (fillT (ratesV ⟨q, a, h, vL, vR⟩ now (L.take (k + 1)))) from by
          rw [HRS.out, if_pos h0, fillT_snoc]
          exact hm4)
        have HM5 := Lib.hid (show MapP U4 (S0 + 1 + 1 + 1) (k + 1) _ (fillT (L.take (k + 1))) from by
          rw [HTK.out, fillT_snoc]
          exact HMA3.out.grown hg4 (by simp))
        have HT4 := Lib.hid (HT3.out.next (grown_turns hg4) (fun i hi => .inl (.inr hi)))
        have hs2 : (if (fillT (ratesV ⟨q, a, h, vL, vR⟩ now (L.take k)) ⟨xa, xn⟩).isSome = true then s2 else s2 + 1) ≤ k + 1 := by split <;> omega
        have hs1 : (if (fillT (L.take k) ⟨xa, xn⟩).isSome = true then s1 else s1 + 1) ≤ k + 1 := by split <;> omega
        clear hm3 hm4 hg4 h0
        go_wp2_with fail
        go_roundw
        case rel => exact ⟨k + 1, _, _, _, by omega, by go_num, hs1, by omega, hs2, HM5.out, HM4.out, HT4.out⟩
        case measure => simp [intOf]; omega
      · have t9 : decide (0 < R) = false := decide_eq_false h0
        have HM4 := Lib.hid (show MapP U3 (S0 + 1 + 1 + 1 + 1) n2 s2 (fillT (ratesV ⟨q, a, h, vL, vR⟩ now (L.take (k + 1)))) from by
          rw [HRS.out, if_neg h0, List.append_nil]
          exact hm3)
        have HM5 := Lib.hid (show MapP U3 (S0 + 1 + 1 + 1) (k + 1) _ (fillT (L.take (k + 1))) from by
          rw [HTK.out, fillT_snoc]
          exact HMA3.out)
        have hs1 : (if (fillT (L.take k) ⟨xa, xn⟩).isSome = true then s1 else s1 + 1) ≤ k + 1 := by split <;> omega
        clear hm3 h0
        go_wp2_with fail
        go_roundw
        case rel => exact ⟨k + 1, _, _, _, by omega, by go_num, hs1, by omega, by omega, HM5.out, HM4.out, HT3.out⟩
        case measure => simp [intOf]; omega
    · obtain rfl : k = n := by omega
      have hma := HMA.out
      have hmb := HMB.out
      rw [List.take_of_length_le (by rw [HN.out]; exact Nat.le_refl _)] at hma hmb
      have HMA9 := Lib.hid hma
      have HMB9 := Lib.hid hmb
      clear hma hmb
      obtain ⟨t0, t1, t2, t3, t4⟩ := ms_boxes HTk.out
      have f0 := HZk.out.f 0
      have f1 := HZk.out.f 1
      have f2 := HZk.out.f 2
      have f3 := HZk.out.f 3
      have f4 := HZk.out.f 4
      obtain ⟨z0, z1, z2, z3, z4⟩ := ms_boxes HZk.out
      have HZ9 := Lib.hid (((((HZk.out.set 0 (.int .i64 seq)).set 1 (.int .i64 now)).set 2 (.bool true)).set 3 (.map (some (S0 + 1 + 1 + 1)))).set 4 (.map (some (S0 + 1 + 1 + 1 + 1))))
      have hk : ∀ x, x ≠ S0 + 1 + 1 → (((((wr.setCell ⟨S0 + 1 + 1, 0, none⟩ (.int .i64 seq)).setCell ⟨S0 + 1 + 1, 1, none⟩ (.int .i64 now)).setCell ⟨S0 + 1 + 1, 2, none⟩ (.bool true)).setCell ⟨S0 + 1 + 1, 3, none⟩ (.map (some (S0 + 1 + 1 + 1)))).setCell ⟨S0 + 1 + 1, 4, none⟩ (.map (some (S0 + 1 + 1 + 1 + 1)))).heap[x]? = wr.heap[x]? := fun x hx => by
        rw [Below.heap_setCell _ _ _ x hx, Below.heap_setCell _ _ _ x hx, Below.heap_setCell _ _ _ x hx, Below.heap_setCell _ _ _ x hx, Below.heap_setCell _ _ _ x hx]
      have HK := Lib.hid hk
      have hz9 : Blk (((((wr.setCell ⟨S0 + 1 + 1, 0, none⟩ (.int .i64 seq)).setCell ⟨S0 + 1 + 1, 1, none⟩ (.int .i64 now)).setCell ⟨S0 + 1 + 1, 2, none⟩ (.bool true)).setCell ⟨S0 + 1 + 1, 3, none⟩ (.map (some (S0 + 1 + 1 + 1)))).setCell ⟨S0 + 1 + 1, 4, none⟩ (.map (some (S0 + 1 + 1 + 1 + 1)))) (S0 + 1 + 1) 62 [.int .i64 seq, .int .i64 now, .bool true, .map (some (S0 + 1 + 1 + 1)), .map (some (S0 + 1 + 1 + 1 + 1))] := HZ9.out
      have HZ10 := Lib.hid hz9
      have hbb : Below w.heap.size w (((((wr.setCell ⟨S0 + 1 + 1, 0, none⟩ (.int .i64 seq)).setCell ⟨S0 + 1 + 1, 1, none⟩ (.int .i64 now)).setCell ⟨S0 + 1 + 1, 2, none⟩ (.bool true)).setCell ⟨S0 + 1 + 1, 3, none⟩ (.map (some (S0 + 1 + 1 + 1)))).setCell ⟨S0 + 1 + 1, 4, none⟩ (.map (some (S0 + 1 + 1 + 1 + 1)))) := by
        have hh := ((((Turns.refl (fun x => x = S0 + 1 + 1) wr).setCell (p := ⟨S0 + 1 + 1, 0, none⟩) (.inl rfl) (.int .i64 seq)).setCell (p := ⟨S0 + 1 + 1, 1, none⟩) (.inl rfl) (.int .i64 now)).setCell (p := ⟨S0 + 1 + 1, 2, none⟩) (.inl rfl) (.bool true)).setCell (p := ⟨S0 + 1 + 1, 3, none⟩) (.inl rfl) (.map (some (S0 + 1 + 1 + 1)))
        exact HBW.out.trans ((hh.setCell (p := ⟨S0 + 1 + 1, 4, none⟩) (.inl rfl) (.map (some (S0 + 1 + 1 + 1 + 1)))).below HBW.out.size (fun x hx => by have := HS1.out; omega))
      have HBB := Lib.hid hbb
      clear hk hz9 hbb
      go_wp2_with fail
      obtain ⟨r0, r1, r2, r3, r4⟩ := ms_boxes HZ10.out
      refine bodyPost_ret (v := .agg #[.int .i64 seq, .int .i64 now, .bool true, .map (some (S0 + 1 + 1 + 1)), .map (some (S0 + 1 + 1 + 1 + 1))]) (by simp [results, Try.results33, go_sem, r0, r1, r2, r3, r4]) rfl ⟨_, _, rfl, .inr ⟨_, _, _, rfl, by omega, hlen, Nat.le_trans h1 hlen, HMA9.out.of_same (HK.out _ (by omega))⟩, .inr ⟨_, _, _, rfl, by omega, Nat.le_trans h2 hlen, Nat.le_trans h3 hlen, HMB9.out.of_same (HK.out _ (by omega))⟩, HBB.out⟩
end Go.Proofs.Ytgididkpgncdjaa
