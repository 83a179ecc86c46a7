/- capa: CapaLimits' walk. -/
import Derived.Test.YtlkpalaakncicaaXE
namespace Go.Proofs.Ytlkpalaakncicaa
open Go.RowKit Go.Maps
set_option linter.unusedVariables false
set_option linter.unusedSimpArgs false
set_option maxRecDepth 100000

theorem beq_swap (a b : Int) : (a == b) = (b == a) := by
  rw [Bool.eq_iff_iff, beq_iff_eq, beq_iff_eq]
  exact eq_comm
theorem near_mono {a b : Int} (h : a ≤ b) : near a ≤ near b := by unfold near; split <;> split <;> (try split) <;> (try split) <;> omega
/-- Thousandths of what may be carried. -/
theorem lim_val (i cp : Int) (h0 : 0 ≤ cp) (h1 : cp ≤ 9007199254740991) (m : Int) : limC ⟨i, cp, false⟩ m = near (cp * near (min m 1000) / 1000) := by
  unfold limC partQ partV
  rw [show near 1000 = 1000 by decide, if_neg (show ¬ ((1000 : Int) = 0) by decide), near_id h0 h1]
  rfl
theorem thou_le {cp t : Int} (h0 : 0 ≤ cp) (ht : t ≤ 1000) : cp * t / 1000 ≤ cp := by
  have h1 : cp * t ≤ cp * 1000 := Int.mul_le_mul_of_nonneg_left ht h0
  have h2 := Int.ediv_le_ediv (show (0 : Int) < 1000 by omega) h1
  rwa [Int.mul_ediv_cancel _ (by omega)] at h2
theorem near_1000 (m : Int) : 0 ≤ near (min m 1000) ∧ near (min m 1000) ≤ 1000 := by
  refine ⟨near_lo _, ?_⟩
  have := near_mono (show min m 1000 ≤ 1000 by omega)
  rwa [show near 1000 = 1000 by decide] at this
theorem lim_le (i cp : Int) (h0 : 0 ≤ cp) (h1 : cp ≤ 9007199254740991) (m : Int) : limC ⟨i, cp, false⟩ m ≤ cp := by
  rw [lim_val i cp h0 h1]
  have h := near_mono (thou_le h0 (near_1000 m).2)
  rwa [near_id h0 h1] at h
theorem lim_mono (i cp : Int) (h0 : 0 ≤ cp) (h1 : cp ≤ 9007199254740991) {a b : Int} (h : a ≤ b) : limC ⟨i, cp, false⟩ a ≤ limC ⟨i, cp, false⟩ b := by
  rw [lim_val i cp h0 h1, lim_val i cp h0 h1]
  refine near_mono (Int.ediv_le_ediv (by omega) (Int.mul_le_mul_of_nonneg_left (near_mono (by omega)) h0))
theorem lim_whole (i cp : Int) (h0 : 0 ≤ cp) (h1 : cp ≤ 9007199254740991) : limC ⟨i, cp, false⟩ 1000 = cp := by
  rw [lim_val i cp h0 h1, show near (min 1000 1000) = 1000 by decide, Int.mul_ediv_cancel _ (by omega), near_id h0 h1]
theorem lim_drain (i cp m : Int) : limC ⟨i, cp, true⟩ m = 0 := rfl
/-- A Capa of a call's own, its map of at most N entries. -/
def LSl (w W : World) (l : List Ifc) (c h b mb N : Nat) (F : Nat → TrF) (f : Int → Option Cy) (S : Nat → Sr) : Prop := (∃ nn, nn ≤ N ∧ CapAt W w.heap.size c h b mb nn F l f S) ∧ Below w.heap.size w W
section
variable {w W W' : World} {l : List Ifc} {c h b mb N : Nat} {F : Nat → TrF} {f : Int → Option Cy} {S : Nat → Sr}
theorem LSl.next (H : LSl w W l c h b mb N F f S) (hb : Below W.heap.size W W') : LSl w W' l c h b mb N F f S := by
  obtain ⟨⟨nn, h1, h2⟩, h3⟩ := H
  exact ⟨⟨nn, h1, h2.below hb⟩, h3.trans (hb.mono h3.size)⟩
theorem LSl.lt (H : LSl w W l c h b mb N F f S) : c < W.heap.size := by
  obtain ⟨⟨nn, h1, h2⟩, h3⟩ := H
  exact h2.blk.lt
theorem LSl.le (H : LSl w W l c h b mb N F f S) : w.heap.size ≤ c := by
  obtain ⟨⟨nn, h1, h2⟩, h3⟩ := H
  exact h2.bc
theorem LSl.other (H : LSl w W l c h b mb N F f S) {g : Nat} {t : TypeId} {vs : List Value} (hb : Blk W g t vs) (ht : t ≠ CAf) (hT : Turns (fun k => k = c ∨ k = mb) W W') : Blk W' g t vs := by
  obtain ⟨⟨nn, h1, h2⟩, h3⟩ := H
  obtain ⟨s, hm⟩ := h2.map
  obtain ⟨es, cl, hh⟩ := hm.heap
  refine hb.of_same (hT.block g hb.lt ?_)
  rintro (rfl | rfl)
  · exact ht (hb.type h2.blk)
  · exact hb.notMap hh rfl
theorem LSl.take (H : LSl w W l c h b mb N F f S) (hN : N ≤ 100000) (src seq now : Int) (p : Option Addr) (L : List Cy) (n c' : Nat) (hl : CysAt W p L) (hn : L.length = n) (hm : n ≤ maxLen) (hpc : L ≠ [] → ∀ b off, p = some ⟨b, off, none⟩ → b ≠ c) :
    Calls Try.prog 24 #[.pointer (some ⟨c, 0, none⟩), .agg #[.int .i64 src, .int .i64 seq, .slice p n c'], .int .i64 now] W fun e w' => e = .returned (.int .i64 (takeE l S src seq L now)) ∧ Turns (fun k => k = c ∨ k = mb) W w' ∧ LSl w w' l c h b mb (N + 256) F (takeF l S f src seq L now) (takeS l S src seq L now) := by
  obtain ⟨⟨nn, h1, h2⟩, h3⟩ := H
  refine (ctake_any W _ c h b mb nn F _ f S src seq now p L n c' hl hn hm hpc h2 h3.size (by omega)).mono ?_
  rintro e w' ⟨he, hb, nn', h4, h5⟩
  exact ⟨he, hb, ⟨nn', by omega, h5⟩, h3.trans (hb.below h3.size (fun k hk => by rcases hk with e | e <;> rw [e] <;> first | exact h2.bc | exact h2.bm))⟩
theorem LSl.limit (H : LSl w W l c h b mb N F f S) (hin : ∀ x ∈ l, InIf x) (id : Int) (hid : (Lit.int .i64 id).wf = true) (m : Int) :
    Calls Try.prog 32 #[.pointer (some ⟨c, 0, none⟩), .int .i64 id, .int .i64 m] W fun e w' => e = .returned (.int .i64 (limC (gotC l f id).1 m)) ∧ Below W.heap.size W w' := by
  obtain ⟨⟨nn, h1, h2⟩, h3⟩ := H
  exact climit_any W _ c h b mb nn F _ f S h2 hin id hid m
theorem LSl.get (H : LSl w W l c h b mb N F f S) (hin : ∀ x ∈ l, InIf x) (id : Int) (hid : (Lit.int .i64 id).wf = true) :
    Calls Try.prog 30 #[.pointer (some ⟨c, 0, none⟩), .int .i64 id] W fun e w' => e = .returned (.tuple #[cyV (gotC l f id).1, .bool (gotC l f id).2]) ∧ Below W.heap.size W w' := by
  obtain ⟨⟨nn, h1, h2⟩, h3⟩ := H
  exact cget_any W _ c h b mb nn F _ f S h2 hin id hid
theorem LSl.all (H : LSl w W l c h b mb N F f S) (hok : okIfs l = true) (hin : ∀ x ∈ l, InIf x) (hf : FOk f) :
    Calls Try.prog 29 #[.pointer (some ⟨c, 0, none⟩)] W fun e w' => AllCs W w' l f e := by
  obtain ⟨⟨nn, h1, h2⟩, h3⟩ := H
  exact call_any W _ c h b mb nn F _ f S h2 hok hin hf
theorem LSl.stamp (H : LSl w W l c h b mb N F f S) (src : Int) :
    Calls Try.prog 26 #[.pointer (some ⟨c, 0, none⟩), .int .i64 src] W fun e w' => e = .returned (.tuple #[.int .i64 (stampC S src).1, .bool (stampC S src).2]) ∧ Below W.heap.size W w' := by
  obtain ⟨⟨nn, h1, h2⟩, h3⟩ := H
  exact cstamp_any W _ c h b mb nn F _ f S h2 src
end
/-- hop.New and capa.New, one behind the other. -/
theorem news_any (w W : World) (hbw : Below w.heap.size w W) (p : Option Addr) (l : List Ifc) (n c' : Nat) (hl : IfsAt W p l) (hn : l.length = n) (hok : okIfs l = true) :
    Calls Try.prog 8 #[.slice p n c'] W fun e w2 => ∃ h b F, e = .returned (.tuple #[.pointer (some ⟨h, 0, none⟩), .int .i64 0]) ∧ Below W.heap.size W w2 ∧
      Calls Try.prog 20 #[.pointer (some ⟨h, 0, none⟩)] w2 fun e w3 => ∃ c mb, e = .returned (.tuple #[.pointer (some ⟨c, 0, none⟩), .int .i64 0]) ∧ Below w2.heap.size w2 w3 ∧ LSl w w3 l c h b mb 0 F (fun _ => none) S0 := by
  refine (newH_any p l n c' W hl hn).mono ?_
  rintro e w2 ⟨hb, _, hy⟩
  obtain ⟨h, b, F, rfl, hH⟩ := hy hok
  have hb2 := hbw.trans (hb.mono hbw.size)
  refine ⟨h, b, F, rfl, hb, (cnew_any w2 w.heap.size h b F l (hH.mono hbw.size) hb2.size).mono ?_⟩
  rintro e w3 ⟨c, mb, he, hc, hb3⟩
  exact ⟨c, mb, he, hb3, ⟨0, by omega, hc⟩, hb2.trans (hb3.mono hb2.size)⟩
set_option maxHeartbeats 16000000 in
theorem limits_walk (w : World) (xi xr xa xn xc : Int) (hx : InIf ⟨xi, xr, xa, xn, xc⟩) (a b : Int) (d : Bool) :
    Calls Try.prog 6 #[.agg #[.int .i64 xi, .int .i64 xr, .int .u32 xa, .int .i64 xn, .int .i64 xc], .int .i64 a, .int .i64 b, .bool d] w fun e w' => e = .returned (.bool true) ∧ Below w.heap.size w w' := by
  obtain ⟨X, hXX⟩ : ∃ X : Ifc, (⟨xi, 0, xa, xn, xc⟩ : Ifc) = X := ⟨_, rfl⟩
  have hXin : InIf X := by rw [← hXX]; exact ⟨hx.id, hx.a0, hx.a1⟩
  have hlin : ∀ y ∈ [X], InIf y := fun y hy => by simp at hy; rw [hy]; exact hXin
  have hb1 := newB w (.cells #[.int .i64 xi, .int .i64 0, .int .u32 xa, .int .i64 xn, .int .i64 xc] 34)
  have hb2 := newB (w.alloc (.cells #[.int .i64 xi, .int .i64 0, .int .u32 xa, .int .i64 xn, .int .i64 xc] 34)) (.cells #[.int .i64 xi, .int .i64 0, .int .u32 xa, .int .i64 xn, .int .i64 xc] 34)
  have hX1 := (Blk.new w 34 [.int .i64 xi, .int .i64 0, .int .u32 xa, .int .i64 xn, .int .i64 xc]).next hb2
  have hlit := (IfsOwn.lit (w.alloc (.cells #[.int .i64 xi, .int .i64 0, .int .u32 xa, .int .i64 xn, .int .i64 xc] 34)) w.heap.size [X] hlin hb1.size (by unfold maxLen; simp)).at
  rw [sz_alloc, ← hXX] at hlit
  obtain ⟨P, hP⟩ : ∃ P, w.heap.size = P := ⟨_, rfl⟩
  obtain ⟨W1, hW1⟩ : ∃ W1, (w.alloc (.cells #[.int .i64 xi, .int .i64 0, .int .u32 xa, .int .i64 xn, .int .i64 xc] 34)).alloc (.cells #[.int .i64 xi, .int .i64 0, .int .u32 xa, .int .i64 xn, .int .i64 xc] 34) = W1 := ⟨_, rfl⟩
  have hlit : IfsAt W1 (some ⟨P + 1, 0, none⟩) [⟨xi, 0, xa, xn, xc⟩] := by rw [← hW1, ← hP]; exact hlit
  have hX1 : Blk W1 P 34 [.int .i64 xi, .int .i64 0, .int .u32 xa, .int .i64 xn, .int .i64 xc] := by rw [← hW1, ← hP]; exact hX1
  have hbw : Below w.heap.size w W1 := by rw [← hW1]; exact hb1.trans (hb2.mono hb1.size)
  rw [← hXX] at hlin
  have HIN := Lib.hid hlin
  have HLIT := Lib.hid hlit
  have HX1 := Lib.hid hX1
  have HBW := Lib.hid hbw
  have HW1 := Lib.hid hW1
  have HPE := Lib.hid hP
  obtain ⟨o, ho⟩ : ∃ o, okIfs [⟨xi, 0, xa, xn, xc⟩] = o := ⟨_, rfl⟩
  have hck := rcheckI_any (some ⟨P + 1, 0, none⟩) [⟨xi, 0, xa, xn, xc⟩] 1 1 W1 hlit rfl (by unfold maxLen; omega)
  rw [ho] at hck
  have HCK := Lib.hid hck
  have HOK := Lib.hid ho
  clear hXX hXin hlin hb1 hb2 hX1 hlit hbw hW1 hP hck ho hx
  go_enter Try.func6, Try.ntmps6
  go_wp2_with fail
  rw [HW1.out, HPE.out]
  refine HCK.out.mono ?_
  rintro e w2 ⟨rfl, hb⟩
  have HB2 := Lib.hid (HBW.out.trans (hb.mono HBW.out.size))
  have HX2 := Lib.hid (HX1.out.next hb)
  have HLIT2 := Lib.hid (HLIT.out.below hb)
  have HLV := Lib.hid (lives18_any w2)
  clear hb HCK HX1 HLIT
  by_cases hab : o = true ∧ a ≤ b
  · obtain ⟨rfl, hle⟩ := hab
    have t0 : decide (b < a) = false := decide_eq_false (by omega)
    have HN := Lib.hid (news_any w w2 HB2.out (some ⟨P + 1, 0, none⟩) [⟨xi, 0, xa, xn, xc⟩] 1 1 HLIT2.out rfl HOK.out)
    clear HLV
    go_wp2_with fail
    refine HN.out.mono ?_
    rintro e w3 ⟨h, b0, F, rfl, hb, hN2⟩
    have HX3 := Lib.hid (HX2.out.next hb)
    have HN2 := Lib.hid hN2
    clear hb hN2 HN HX2
    go_wp2_with fail
    refine HN2.out.mono ?_
    rintro e w4 ⟨c, mb, rfl, hb, hls⟩
    have HX4 := Lib.hid (HX3.out.next hb)
    have HL4 := Lib.hid hls
    have HLV := Lib.hid (lives18_any w4)
    clear hb hls HN2 HX3
    go_wp2_with fail
    refine HLV.out.mono ?_
    rintro e w5 ⟨rfl, hb⟩
    have hX5 := HX4.out.next hb
    have HX5 := Lib.hid hX5
    have HL5 := Lib.hid (HL4.out.next hb)
    clear hb HLV HX4 HL4
    obtain ⟨x0, x1, x2, x3, x4⟩ := if_boxes hX5
    have hfine := ((okIfs_iff _).1 HOK.out).2.1 ⟨xi, 0, xa, xn, xc⟩ (by simp)
    unfold fineIf at hfine
    simp only [Bool.and_eq_true, decide_eq_true_eq] at hfine
    obtain ⟨f0, f1, _, _, _, f5, f6⟩ := hfine
    have hwid := (HIN.out _ (List.mem_singleton.2 rfl)).id
    dsimp only at hwid
    have hgot : gotC [⟨xi, 0, xa, xn, xc⟩] (fun _ => none) xi = (⟨xi, xc, false⟩, true) := by
      unfold gotC byId carryV
      simp
    have hlim := fun (U : World) (hU : Below w5.heap.size w5 U) (m : Int) => (HL5.out.next hU).limit HIN.out xi hwid m
    rw [hgot] at hlim
    dsimp only at hlim
    obtain ⟨va, hva⟩ : ∃ v, limC ⟨xi, xc, false⟩ a = v := ⟨_, rfl⟩
    obtain ⟨vb, hvb⟩ : ∃ v, limC ⟨xi, xc, false⟩ b = v := ⟨_, rfl⟩
    have h1 := lim_mono xi xc f5 f6 hle
    have h2 := lim_le xi xc f5 f6 b
    rw [hva, hvb] at h1
    rw [hvb] at h2
    have t1 : decide (vb < va) = false := decide_eq_false (by omega)
    have t2 : decide (xc < vb) = false := decide_eq_false (by omega)
    have HA := Lib.hid (fun (U : World) (hU : Below w5.heap.size w5 U) => show Calls Try.prog 32 #[.pointer (some ⟨c, 0, none⟩), .int .i64 xi, .int .i64 a] U fun e w' => e = .returned (.int .i64 va) ∧ Below w5.heap.size w5 w' from by
      refine (hlim U hU a).mono ?_
      rintro e w' ⟨he, hb⟩
      exact ⟨by rw [← hva]; exact he, hU.trans (hb.mono hU.size)⟩)
    have HBb := Lib.hid (fun (U : World) (hU : Below w5.heap.size w5 U) => show Calls Try.prog 32 #[.pointer (some ⟨c, 0, none⟩), .int .i64 xi, .int .i64 b] U fun e w' => e = .returned (.int .i64 vb) ∧ Below w5.heap.size w5 w' from by
      refine (hlim U hU b).mono ?_
      rintro e w' ⟨he, hb⟩
      exact ⟨by rw [← hvb]; exact he, hU.trans (hb.mono hU.size)⟩)
    have HCc := Lib.hid (fun (U : World) (hU : Below w5.heap.size w5 U) => show Calls Try.prog 32 #[.pointer (some ⟨c, 0, none⟩), .int .i64 xi, .int .i64 1000] U fun e w' => e = .returned (.int .i64 xc) ∧ Below w5.heap.size w5 w' from by
      refine (hlim U hU 1000).mono ?_
      rintro e w' ⟨he, hb⟩
      exact ⟨by rw [he, lim_whole xi xc f5 f6], hU.trans (hb.mono hU.size)⟩)
    have HS := Lib.hid (fun (U : World) (hU : Below w5.heap.size w5 U) => show U.cell? ⟨P, 0, none⟩ = some (.int .i64 xi) ∧ U.cell? ⟨P, 4, none⟩ = some (.int .i64 xc) from ⟨kept hU x0, kept hU x4⟩)
    have BB : Hid (Below w5.heap.size w5 w5.drew) := Lib.hid (Below.refl _ _).drew
    have hS := HS.out _ BB.out
    have HF := Lib.hid (show (0 ≤ xi ∧ xi ≤ 4294967295) ∧ 0 ≤ xc ∧ xc ≤ 9007199254740991 from ⟨⟨f0, f1⟩, f5, f6⟩)
    have HWI := Lib.hid hwid
    have hw : (xc != xc) = false := by simp
    clear hX5 hgot hlim hva hvb h1 h2 x1 x2 x3 f0 f1 f5 f6 hwid
    go_wp2_with fail
    go_region_held_law (fun W => W.cell? ⟨P, 0, none⟩ = some (.int .i64 xi) ∧ W.cell? ⟨P, 4, none⟩ = some (.int .i64 xc)) (with_reducible assumption) (first
      | (go_at_call 32; (with_reducible refine (HA.out _ BB.out).mono ?_); rintro e v ⟨rfl, hb⟩; have BB := Lib.hid hb; have hS := HS.out _ hb; clear hb)
      | (go_at_call 32; (with_reducible refine (HBb.out _ BB.out).mono ?_); rintro e v ⟨rfl, hb⟩; have BB := Lib.hid hb; have hS := HS.out _ hb; clear hb)
      | (go_at_call 32; (with_reducible refine (HCc.out _ BB.out).mono ?_); rintro e v ⟨rfl, hb⟩; have BB := Lib.hid hb; have hS := HS.out _ hb; clear hb))
    all_goals
      obtain ⟨s0, s4⟩ := HS.out _ BB.out
      have hb7 := newB v (.cells #[.int .i64 xi, .int .i64 xc, .bool d] 67)
      obtain ⟨W7, hW7⟩ : ∃ W7, v.alloc (.cells #[.int .i64 xi, .int .i64 xc, .bool d] 67) = W7 := ⟨_, rfl⟩
      have hlit : CysAt W7 (some ⟨v.heap.size, 0, none⟩) [⟨xi, xc, d⟩] := hW7 ▸ (LOwn.lit rowCy v v.heap.size [(⟨xi, xc, d⟩ : Cy)] (fun x hx => by simp at hx; subst hx; exact HWI.out) (Nat.le_refl _) (by unfold maxLen; simp)).at rowCy
      have hc7 := (HL5.out.next BB.out).lt
      rw [hW7] at hb7
      have HL7 := Lib.hid ((HL5.out.next BB.out).next hb7)
      have HX7 := Lib.hid ((HX5.out.next BB.out).next hb7)
      have HW7 := Lib.hid hW7
      have ht := HL7.out.take (by omega) 0 0 0 (some ⟨v.heap.size, 0, none⟩) [⟨xi, xc, d⟩] 1 1 hlit rfl (by unfold maxLen; omega) (fun _ b' o e => by injection e with e; injection e with e; omega)
      have hE : takeE [⟨xi, 0, xa, xn, xc⟩] S0 0 0 [⟨xi, xc, d⟩] 0 = 0 := by
        have h1 : okCar 0 0 [⟨xi, xc, d⟩] = true := by
          unfold okCar okCys distC distC
          rw [oddCy_seen]
          have hF := HF.out
          unfold fineCy apartC
          have h2 : isCap xc = true := (isCap_iff _).2 ⟨hF.2.1, hF.2.2⟩
          have h3 : isCap 0 = true := by decide
          simp [h2, h3, hF.1.1, hF.1.2, isR]
        have h4 : [(⟨xi, xc, d⟩ : Cy)].any (strangeC [⟨xi, 0, xa, xn, xc⟩]) = false := by
          simp [strangeC, byId]
        unfold takeE
        rw [h1, h4]
        rfl
      rw [hE, (take_yes (fun _ => none) hE).1, (take_yes (fun _ => none) hE).2] at ht
      have HT := Lib.hid ht
      clear hb7 hlit hc7 hW7 ht hE
      go_wp2_with fail
      rw [HW7.out]
      refine HT.out.mono ?_
      rintro e w8 ⟨rfl, htn, hl8⟩
      have HL8 := Lib.hid hl8
      have HGN := Lib.hid (cget_nil w8 1)
      have hgot : gotC [⟨xi, 0, xa, xn, xc⟩] (setC (fun _ => none) [⟨xi, xc, d⟩]) xi = (⟨xi, xc, d⟩, true) := by
        unfold gotC byId carryV setC putF
        simp
      have hlm := fun (U : World) (hU : Below w8.heap.size w8 U) => (hl8.next hU).limit HIN.out xi HWI.out 1000
      rw [hgot] at hlm
      dsimp only at hlm
      obtain ⟨vl, hvl⟩ : ∃ v, limC ⟨xi, xc, d⟩ 1000 = v := ⟨_, rfl⟩
      rw [hvl] at hlm
      have HLM := Lib.hid hlm
      have HVL := Lib.hid (show vl = if d then 0 else xc from by
        rw [← hvl]
        rcases d with _ | _
        · exact lim_whole xi xc HF.out.2.1 HF.out.2.2
        · rfl)
      have hx8 := HL7.out.other HX7.out (by decide) htn
      have hs8 : w8.cell? ⟨P, 4, none⟩ = some (.int .i64 xc) := hx8.cell 4 (by simp)
      have hs80 : w8.cell? ⟨P, 0, none⟩ = some (.int .i64 xi) := hx8.cell 0 (by simp)
      clear hl8 s0 s4 hS HT hgot hlm hvl hx8 htn
      go_wp2_with fail
      refine HGN.out.mono ?_
      rintro e u9 ⟨rfl, hb⟩
      have hb9 := hb.trans ((newB u9 (.cells #[.int .i64 0, .int .i64 0, .bool false] 67)).mono hb.size)
      obtain ⟨w9, hW9⟩ : ∃ w9, u9.alloc (.cells #[.int .i64 0, .int .i64 0, .bool false] 67) = w9 := ⟨_, rfl⟩
      rw [hW9] at hb9
      have HW9 := Lib.hid hW9
      have HB9 := Lib.hid hb9
      have x4 := kept hb9 hs8
      have x0 := kept hb9 hs80
      clear hb hs8 hs80 HGN hb9 hW9
      have HM := Lib.hid (fun (U : World) (hU : Below w9.heap.size w9 U) => show Calls Try.prog 32 #[.pointer (some ⟨c, 0, none⟩), .int .i64 xi, .int .i64 1000] U fun e w' => e = .returned (.int .i64 vl) ∧ Below w9.heap.size w9 w' from by
        refine (HLM.out U (HB9.out.trans (hU.mono HB9.out.size))).mono ?_
        rintro e w' ⟨he, hb⟩
        exact ⟨he, hU.trans (hb.mono hU.size)⟩)
      have HN1 := Lib.hid (fun (U : World) (hU : Below w9.heap.size w9 U) => show Calls Try.prog 32 #[.pointer none, .int .i64 1, .int .i64 1] U fun e w' => e = .returned (.int .i64 0) ∧ Below w9.heap.size w9 w' from by
        refine (climit_nil U 1 1).mono ?_
        rintro e w' ⟨he, hb⟩
        exact ⟨he, hU.trans (hb.mono hU.size)⟩)
      have HN3 := Lib.hid (fun (U : World) (hU : Below w9.heap.size w9 U) => show Calls Try.prog 29 #[.pointer none] U fun e w' => e = .returned (.slice none 0 0) ∧ Below w9.heap.size w9 w' from by
        refine (call_nil U).mono ?_
        rintro e w' ⟨he, hb⟩
        exact ⟨he, hU.trans (hb.mono hU.size)⟩)
      have HN4 := Lib.hid (fun (U : World) (hU : Below w9.heap.size w9 U) => show Calls Try.prog 24 #[.pointer none, .agg #[.int .i64 0, .int .i64 0, .slice none 0 0], .int .i64 0] U fun e w' => e = .returned (.int .i64 6) ∧ Below w9.heap.size w9 w' from by
        refine (ctake_nil U 0 0 0 none 0 0).mono ?_
        rintro e w' ⟨he, hb⟩
        exact ⟨he, hU.trans (hb.mono hU.size)⟩)
      have HS9 := Lib.hid (fun (U : World) (hU : Below w9.heap.size w9 U) => show U.cell? ⟨P, 0, none⟩ = some (.int .i64 xi) ∧ U.cell? ⟨P, 4, none⟩ = some (.int .i64 xc) from ⟨kept hU x0, kept hU x4⟩)
      have HB89 := Lib.hid (HL8.out.2.trans (HB9.out.mono HL8.out.2.size))
      have BC : Hid (Below w9.heap.size w9 w9.drew) := Lib.hid (Below.refl _ _).drew
      clear x0 x4 HS BB HL7 HX7 HA HBb HCc HLM
      rcases d with _ | _
      · obtain rfl : vl = xc := HVL.out
        have hq : (vl == vl) = true := by simp
        go_wp2_with fail
        rw [HW9.out]
        have hS := HS9.out _ BC.out
        refine wp_region_held_drew (S := fun w' => w'.cell? ⟨P, 0, none⟩ = some (.int .i64 xi) ∧ w'.cell? ⟨P, 4, none⟩ = some (.int .i64 vl)) (by kernel_rfl) hS ?_
        intro hS1
        refine wpAnyH_take (i := 0) (oi := ⟨some 99, _, _, _, _, _⟩) (v := ?_) rfl (by kernel_rfl) (by kernel_rfl) (by kernel_rfl) (fun _ _ _ h => h) (Or.inl ⟨by kernel_rfl, fun U hU => by (dsimp only at hU; go_split_ands; go_simp; first | done | with_reducible rfl)⟩) (by assumption) ?_; (try simp only [Act.put, List.setIfInBounds_toArray, List.set_cons_zero, List.set_cons_succ])
        refine wpAnyH_take (i := 1) (oi := ⟨some 100, _, _, _, _, _⟩) (v := ?_) rfl (by kernel_rfl) (by kernel_rfl) (by kernel_rfl) (fun _ _ _ h => h) (Or.inl ⟨by kernel_rfl, fun U hU => by (dsimp only at hU; go_split_ands; go_simp; first | done | with_reducible rfl)⟩) (by assumption) ?_; (try simp only [Act.put, List.setIfInBounds_toArray, List.set_cons_zero, List.set_cons_succ])
        refine wpAnyH_take (i := 2) (oi := ⟨some 101, _, _, _, _, _⟩) (v := ?_) rfl (by kernel_rfl) (by kernel_rfl) (by kernel_rfl) (fun _ _ _ h => h) (Or.inl ⟨by kernel_rfl, fun U hU => by (dsimp only at hU; go_split_ands; go_simp; first | done | with_reducible rfl)⟩) (by assumption) ?_; (try simp only [Act.put, List.setIfInBounds_toArray, List.set_cons_zero, List.set_cons_succ])
        refine wpAnyH_take (i := 3) (oi := ⟨some 102, _, _, _, _, _⟩) (v := ?_) rfl (by kernel_rfl) (by kernel_rfl) (by kernel_rfl) (fun _ _ _ h => h) (Or.inl ⟨by kernel_rfl, fun U hU => by (dsimp only at hU; go_split_ands; go_simp; first | done | with_reducible rfl)⟩) (by assumption) ?_; (try simp only [Act.put, List.setIfInBounds_toArray, List.set_cons_zero, List.set_cons_succ])
        refine wpAnyH_take (i := 4) (oi := ⟨some 103, _, _, _, _, _⟩) (v := ?_) rfl (by kernel_rfl) (by kernel_rfl) (by kernel_rfl) (fun _ _ _ h => h) (Or.inl ⟨by kernel_rfl, fun U hU => by (dsimp only at hU; go_split_ands; go_simp; first | done | with_reducible rfl)⟩) (by assumption) ?_; (try simp only [Act.put, List.setIfInBounds_toArray, List.set_cons_zero, List.set_cons_succ])
        refine wpAnyH_take (i := 5) (oi := ⟨some 104, _, _, _, _, _⟩) (v := ?_) rfl (by kernel_rfl) (by kernel_rfl) (by kernel_rfl) (fun _ _ _ h => h) (Or.inl ⟨by kernel_rfl, fun U hU => by (dsimp only at hU; go_split_ands; go_simp; first | done | with_reducible rfl)⟩) (by assumption) ?_; (try simp only [Act.put, List.setIfInBounds_toArray, List.set_cons_zero, List.set_cons_succ])
        refine wpAnyH_take (i := 7) (oi := ⟨some 106, _, _, _, _, _⟩) (v := ?_) rfl (by kernel_rfl) (by kernel_rfl) (by kernel_rfl) (fun _ _ _ h => h) (Or.inl ⟨by kernel_rfl, fun U hU => by (dsimp only at hU; go_split_ands; go_simp; first | done | with_reducible rfl)⟩) (by assumption) ?_; (try simp only [Act.put, List.setIfInBounds_toArray, List.set_cons_zero, List.set_cons_succ])
        refine wpAnyH_take (i := 8) (oi := ⟨some 107, _, _, _, _, _⟩) (v := ?_) rfl (by kernel_rfl) (by kernel_rfl) (by kernel_rfl) (fun _ _ _ h => h) (Or.inl ⟨by kernel_rfl, fun U hU => by (dsimp only at hU; go_split_ands; go_simp; first | done | with_reducible rfl)⟩) (by assumption) ?_; (try simp only [Act.put, List.setIfInBounds_toArray, List.set_cons_zero, List.set_cons_succ])
        refine wpAnyH_take (i := 10) (oi := ⟨some 109, _, _, _, _, _⟩) (v := ?_) rfl (by kernel_rfl) (by kernel_rfl) (by kernel_rfl) (fun _ _ _ h => h) (Or.inl ⟨by kernel_rfl, fun U hU => by (dsimp only at hU; go_split_ands; go_simp; first | done | with_reducible rfl)⟩) (by assumption) ?_; (try simp only [Act.put, List.setIfInBounds_toArray, List.set_cons_zero, List.set_cons_succ])
        refine wpAnyH_take (i := 11) (oi := ⟨some 110, _, _, _, _, _⟩) (v := ?_) rfl (by kernel_rfl) (by kernel_rfl) (by kernel_rfl) (fun _ _ _ h => h) (Or.inl ⟨by kernel_rfl, fun U hU => by (dsimp only at hU; go_split_ands; go_simp; first | done | with_reducible rfl)⟩) (by assumption) ?_; (try simp only [Act.put, List.setIfInBounds_toArray, List.set_cons_zero, List.set_cons_succ])
        refine wpAnyH_ready (rs := [6]) (by kernel_rfl) (by simp) ?_
        refine AllReadyH.cons (o := ⟨some 105, _, _, _, _, _⟩) rfl (fun K hK => ?_) AllReadyH.nil
        go_simp
        go_at_call 32; (with_reducible refine (HM.out _ BC.out).mono ?_); rintro e v9 ⟨rfl, hb⟩; have BC := Lib.hid hb; have hS4 := HS9.out _ hb; clear hb
        refine hK.out _ _ hS4 (fun hS5 => ?_)
        try simp only [Act.put, List.setIfInBounds_toArray, List.set_cons_zero, List.set_cons_succ]
        clear hK K hS1; have hS1 := hS4; clear hS4 hS5
        refine wpAnyH_take (i := 9) (oi := ⟨some 108, _, _, _, _, _⟩) (v := ?_) rfl (by kernel_rfl) (by kernel_rfl) (by kernel_rfl) (fun _ _ _ h => h) (Or.inl ⟨by kernel_rfl, fun U hU => by (dsimp only at hU; go_split_ands; go_simp; first | done | with_reducible rfl)⟩) (by assumption) ?_; (try simp only [Act.put, List.setIfInBounds_toArray, List.set_cons_zero, List.set_cons_succ])
        refine wpAnyH_take (i := 12) (oi := ⟨some 111, _, _, _, _, _⟩) (v := ?_) rfl (by kernel_rfl) (by kernel_rfl) (by kernel_rfl) (fun _ _ _ h => h) (Or.inl ⟨by kernel_rfl, fun U hU => by (dsimp only at hU; go_split_ands; go_simp; first | done | with_reducible rfl)⟩) (by assumption) ?_; (try simp only [Act.put, List.setIfInBounds_toArray, List.set_cons_zero, List.set_cons_succ])
        refine wpAnyH_take (i := 13) (oi := ⟨some 112, _, _, _, _, _⟩) (v := undef) rfl (by kernel_rfl) (by kernel_rfl) (by kernel_rfl) (fun _ _ _ h => h) (Or.inr ⟨by kernel_rfl, rfl⟩) (by assumption) ?_; (try simp only [Act.put, List.setIfInBounds_toArray, List.set_cons_zero, List.set_cons_succ])
        refine wpAnyH_take (i := 14) (oi := ⟨some 113, _, _, _, _, _⟩) (v := undef) rfl (by kernel_rfl) (by kernel_rfl) (by kernel_rfl) (fun _ _ _ h => h) (Or.inr ⟨by kernel_rfl, rfl⟩) (by assumption) ?_; (try simp only [Act.put, List.setIfInBounds_toArray, List.set_cons_zero, List.set_cons_succ])
        refine wpAnyH_take (i := 15) (oi := ⟨some 114, _, _, _, _, _⟩) (v := undef) rfl (by kernel_rfl) (by kernel_rfl) (by kernel_rfl) (fun _ _ _ h => h) (Or.inr ⟨by kernel_rfl, rfl⟩) (by assumption) ?_; (try simp only [Act.put, List.setIfInBounds_toArray, List.set_cons_zero, List.set_cons_succ])
        refine wpAnyH_take (i := 16) (oi := ⟨some 115, _, _, _, _, _⟩) (v := ?_) rfl (by kernel_rfl) (by kernel_rfl) (by kernel_rfl) (fun _ _ _ h => h) (Or.inl ⟨by kernel_rfl, fun U hU => by (dsimp only at hU; go_split_ands; go_simp; first | done | with_reducible rfl)⟩) (by assumption) ?_; (try simp only [Act.put, List.setIfInBounds_toArray, List.set_cons_zero, List.set_cons_succ])
        refine wpAnyH_take (i := 17) (oi := ⟨some 116, _, _, _, _, _⟩) (v := ?_) rfl (by kernel_rfl) (by kernel_rfl) (by kernel_rfl) (fun _ _ _ h => h) (Or.inl ⟨by kernel_rfl, fun U hU => by (dsimp only at hU; go_split_ands; go_simp; first | done | with_reducible rfl)⟩) (by assumption) ?_; (try simp only [Act.put, List.setIfInBounds_toArray, List.set_cons_zero, List.set_cons_succ])
        refine wpAnyH_take (i := 18) (oi := ⟨some 117, _, _, _, _, _⟩) (v := ?_) rfl (by kernel_rfl) (by kernel_rfl) (by kernel_rfl) (fun _ _ _ h => h) (Or.inl ⟨by kernel_rfl, fun U hU => by (dsimp only at hU; go_split_ands; go_simp; first | done | with_reducible rfl)⟩) (by assumption) ?_; (try simp only [Act.put, List.setIfInBounds_toArray, List.set_cons_zero, List.set_cons_succ])
        refine wpAnyH_take (i := 19) (oi := ⟨some 118, _, _, _, _, _⟩) (v := ?_) rfl (by kernel_rfl) (by kernel_rfl) (by kernel_rfl) (fun _ _ _ h => h) (Or.inl ⟨by kernel_rfl, fun U hU => by (dsimp only at hU; go_split_ands; go_simp; first | done | with_reducible rfl)⟩) (by assumption) ?_; (try simp only [Act.put, List.setIfInBounds_toArray, List.set_cons_zero, List.set_cons_succ])
        refine wpAnyH_take (i := 20) (oi := ⟨some 119, _, _, _, _, _⟩) (v := ?_) rfl (by kernel_rfl) (by kernel_rfl) (by kernel_rfl) (fun _ _ _ h => h) (Or.inl ⟨by kernel_rfl, fun U hU => by (dsimp only at hU; go_split_ands; go_simp; first | done | with_reducible rfl)⟩) (by assumption) ?_; (try simp only [Act.put, List.setIfInBounds_toArray, List.set_cons_zero, List.set_cons_succ])
        refine wpAnyH_take (i := 21) (oi := ⟨some 120, _, _, _, _, _⟩) (v := ?_) rfl (by kernel_rfl) (by kernel_rfl) (by kernel_rfl) (fun _ _ _ h => h) (Or.inl ⟨by kernel_rfl, fun U hU => by (dsimp only at hU; go_split_ands; go_simp; first | done | with_reducible rfl)⟩) (by assumption) ?_; (try simp only [Act.put, List.setIfInBounds_toArray, List.set_cons_zero, List.set_cons_succ])
        refine wpAnyH_take (i := 22) (oi := ⟨some 121, _, _, _, _, _⟩) (v := ?_) rfl (by kernel_rfl) (by kernel_rfl) (by kernel_rfl) (fun _ _ _ h => h) (Or.inl ⟨by kernel_rfl, fun U hU => by (dsimp only at hU; go_split_ands; go_simp; first | done | with_reducible rfl)⟩) (by assumption) ?_; (try simp only [Act.put, List.setIfInBounds_toArray, List.set_cons_zero, List.set_cons_succ])
        refine wpAnyH_take (i := 23) (oi := ⟨some 122, _, _, _, _, _⟩) (v := ?_) rfl (by kernel_rfl) (by kernel_rfl) (by kernel_rfl) (fun _ _ _ h => h) (Or.inl ⟨by kernel_rfl, fun U hU => by (dsimp only at hU; go_split_ands; go_simp; first | done | with_reducible rfl)⟩) (by assumption) ?_; (try simp only [Act.put, List.setIfInBounds_toArray, List.set_cons_zero, List.set_cons_succ])
        refine wpAnyH_take (i := 24) (oi := ⟨some 123, _, _, _, _, _⟩) (v := ?_) rfl (by kernel_rfl) (by kernel_rfl) (by kernel_rfl) (fun _ _ _ h => h) (Or.inl ⟨by kernel_rfl, fun U hU => by (dsimp only at hU; go_split_ands; go_simp; first | done | with_reducible rfl)⟩) (by assumption) ?_; (try simp only [Act.put, List.setIfInBounds_toArray, List.set_cons_zero, List.set_cons_succ])
        refine wpAnyH_ready (rs := [25]) (by kernel_rfl) (by simp) ?_
        refine AllReadyH.cons (o := ⟨some 124, _, _, _, _, _⟩) rfl (fun K hK => ?_) AllReadyH.nil
        go_simp
        go_at_call 32; (with_reducible refine (HN1.out _ BC.out).mono ?_); rintro e v9 ⟨rfl, hb⟩; have BC := Lib.hid hb; have hS4 := HS9.out _ hb; clear hb
        refine hK.out _ _ hS4 (fun hS5 => ?_)
        try simp only [Act.put, List.setIfInBounds_toArray, List.set_cons_zero, List.set_cons_succ]
        clear hK K hS1; have hS1 := hS4; clear hS4 hS5
        refine wpAnyH_take (i := 26) (oi := ⟨some 125, _, _, _, _, _⟩) (v := ?_) rfl (by kernel_rfl) (by kernel_rfl) (by kernel_rfl) (fun _ _ _ h => h) (Or.inl ⟨by kernel_rfl, fun U hU => by (dsimp only at hU; go_split_ands; go_simp; first | done | with_reducible rfl)⟩) (by assumption) ?_; (try simp only [Act.put, List.setIfInBounds_toArray, List.set_cons_zero, List.set_cons_succ])
        refine wpAnyH_take (i := 27) (oi := ⟨some 126, _, _, _, _, _⟩) (v := ?_) rfl (by kernel_rfl) (by kernel_rfl) (by kernel_rfl) (fun _ _ _ h => h) (Or.inl ⟨by kernel_rfl, fun U hU => by (dsimp only at hU; go_split_ands; go_simp; first | done | with_reducible rfl)⟩) (by assumption) ?_; (try simp only [Act.put, List.setIfInBounds_toArray, List.set_cons_zero, List.set_cons_succ])
        refine wpAnyH_take (i := 28) (oi := ⟨some 127, _, _, _, _, _⟩) (v := ?_) rfl (by kernel_rfl) (by kernel_rfl) (by kernel_rfl) (fun _ _ _ h => h) (Or.inl ⟨by kernel_rfl, fun U hU => by (dsimp only at hU; go_split_ands; go_simp; first | done | with_reducible rfl)⟩) (by assumption) ?_; (try simp only [Act.put, List.setIfInBounds_toArray, List.set_cons_zero, List.set_cons_succ])
        refine wpAnyH_take (i := 29) (oi := ⟨some 128, _, _, _, _, _⟩) (v := ?_) rfl (by kernel_rfl) (by kernel_rfl) (by kernel_rfl) (fun _ _ _ h => h) (Or.inl ⟨by kernel_rfl, fun U hU => by (dsimp only at hU; go_split_ands; go_simp; first | done | with_reducible rfl)⟩) (by assumption) ?_; (try simp only [Act.put, List.setIfInBounds_toArray, List.set_cons_zero, List.set_cons_succ])
        refine wpAnyH_ready (rs := [30]) (by kernel_rfl) (by simp) ?_
        refine AllReadyH.cons (o := ⟨some 129, _, _, _, _, _⟩) rfl (fun K hK => ?_) AllReadyH.nil
        go_simp
        go_at_call 29; (with_reducible refine (HN3.out _ BC.out).mono ?_); rintro e v9 ⟨rfl, hb⟩; have BC := Lib.hid hb; have hS4 := HS9.out _ hb; clear hb
        refine hK.out _ _ hS4 (fun hS5 => ?_)
        try simp only [Act.put, List.setIfInBounds_toArray, List.set_cons_zero, List.set_cons_succ]
        clear hK K hS1; have hS1 := hS4; clear hS4 hS5
        refine wpAnyH_take (i := 31) (oi := ⟨some 130, _, _, _, _, _⟩) (v := ?_) rfl (by kernel_rfl) (by kernel_rfl) (by kernel_rfl) (fun _ _ _ h => h) (Or.inl ⟨by kernel_rfl, fun U hU => by (dsimp only at hU; go_split_ands; go_simp; first | done | with_reducible rfl)⟩) (by assumption) ?_; (try simp only [Act.put, List.setIfInBounds_toArray, List.set_cons_zero, List.set_cons_succ])
        refine wpAnyH_take (i := 32) (oi := ⟨some 131, _, _, _, _, _⟩) (v := ?_) rfl (by kernel_rfl) (by kernel_rfl) (by kernel_rfl) (fun _ _ _ h => h) (Or.inl ⟨by kernel_rfl, fun U hU => by (dsimp only at hU; go_split_ands; go_simp; first | done | with_reducible rfl)⟩) (by assumption) ?_; (try simp only [Act.put, List.setIfInBounds_toArray, List.set_cons_zero, List.set_cons_succ])
        refine wpAnyH_take (i := 33) (oi := ⟨some 132, _, _, _, _, _⟩) (v := ?_) rfl (by kernel_rfl) (by kernel_rfl) (by kernel_rfl) (fun _ _ _ h => h) (Or.inl ⟨by kernel_rfl, fun U hU => by (dsimp only at hU; go_split_ands; go_simp; first | done | with_reducible rfl)⟩) (by assumption) ?_; (try simp only [Act.put, List.setIfInBounds_toArray, List.set_cons_zero, List.set_cons_succ])
        refine wpAnyH_take (i := 34) (oi := ⟨some 133, _, _, _, _, _⟩) (v := ?_) rfl (by kernel_rfl) (by kernel_rfl) (by kernel_rfl) (fun _ _ _ h => h) (Or.inl ⟨by kernel_rfl, fun U hU => by (dsimp only at hU; go_split_ands; go_simp; first | done | with_reducible rfl)⟩) (by assumption) ?_; (try simp only [Act.put, List.setIfInBounds_toArray, List.set_cons_zero, List.set_cons_succ])
        refine wpAnyH_take (i := 35) (oi := ⟨some 134, _, _, _, _, _⟩) (v := ?_) rfl (by kernel_rfl) (by kernel_rfl) (by kernel_rfl) (fun _ _ _ h => h) (Or.inl ⟨by kernel_rfl, fun U hU => by (dsimp only at hU; go_split_ands; go_simp; first | done | with_reducible rfl)⟩) (by assumption) ?_; (try simp only [Act.put, List.setIfInBounds_toArray, List.set_cons_zero, List.set_cons_succ])
        refine wpAnyH_take (i := 36) (oi := ⟨some 135, _, _, _, _, _⟩) (v := ?_) rfl (by kernel_rfl) (by kernel_rfl) (by kernel_rfl) (fun _ _ _ h => h) (Or.inl ⟨by kernel_rfl, fun U hU => by (dsimp only at hU; go_split_ands; go_simp; first | done | with_reducible rfl)⟩) (by assumption) ?_; (try simp only [Act.put, List.setIfInBounds_toArray, List.set_cons_zero, List.set_cons_succ])
        refine wpAnyH_ready (rs := [37]) (by kernel_rfl) (by simp) ?_
        refine AllReadyH.cons (o := ⟨some 136, _, _, _, _, _⟩) rfl (fun K hK => ?_) AllReadyH.nil
        go_simp
        go_at_call 24; (with_reducible refine (HN4.out _ BC.out).mono ?_); rintro e v9 ⟨rfl, hb⟩; have BC := Lib.hid hb; have hS4 := HS9.out _ hb; clear hb
        refine hK.out _ _ hS4 (fun hS5 => ?_)
        try simp only [Act.put, List.setIfInBounds_toArray, List.set_cons_zero, List.set_cons_succ]
        clear hK K hS1; have hS1 := hS4; clear hS4 hS5
        refine wpAnyH_take (i := 38) (oi := ⟨some 137, _, _, _, _, _⟩) (v := ?_) rfl (by kernel_rfl) (by kernel_rfl) (by kernel_rfl) (fun _ _ _ h => h) (Or.inl ⟨by kernel_rfl, fun U hU => by (dsimp only at hU; go_split_ands; go_simp; first | done | with_reducible rfl)⟩) (by assumption) ?_; (try simp only [Act.put, List.setIfInBounds_toArray, List.set_cons_zero, List.set_cons_succ])
        refine wpAnyH_take (i := 39) (oi := ⟨some 138, _, _, _, _, _⟩) (v := ?_) rfl (by kernel_rfl) (by kernel_rfl) (by kernel_rfl) (fun _ _ _ h => h) (Or.inl ⟨by kernel_rfl, fun U hU => by (dsimp only at hU; go_split_ands; go_simp; first | done | with_reducible rfl)⟩) (by assumption) ?_; (try simp only [Act.put, List.setIfInBounds_toArray, List.set_cons_zero, List.set_cons_succ])
        refine wpAnyH_take (i := 40) (oi := ⟨some 8, _, _, _, _, _⟩) (v := ?_) rfl (by kernel_rfl) (by kernel_rfl) (by kernel_rfl) (fun _ _ _ h => h) (Or.inl ⟨by kernel_rfl, fun U hU => by (dsimp only at hU; go_split_ands; go_simp; first | done | with_reducible rfl)⟩) (by assumption) ?_; (try simp only [Act.put, List.setIfInBounds_toArray, List.set_cons_zero, List.set_cons_succ])
        refine wpAnyH_done (by kernel_rfl) ?_ _
        go_wp2_with fail
        go_ret
        exact ⟨ret_bool (by simp), HB89.out.trans (BC.out.mono HB89.out.size)⟩
      · obtain rfl : vl = 0 := HVL.out
        obtain ⟨z, hz⟩ : ∃ z, (xc == 0) = z := ⟨_, rfl⟩
        have hz' : ((0 : Int) == xc) = z := by rw [← hz]; exact beq_swap 0 xc
        go_wp2_with fail
        rw [HW9.out]
        have hS := HS9.out _ BC.out
        refine wp_region_held_drew (S := fun w' => w'.cell? ⟨P, 0, none⟩ = some (.int .i64 xi) ∧ w'.cell? ⟨P, 4, none⟩ = some (.int .i64 xc)) (by kernel_rfl) hS ?_
        intro hS1
        refine wpAnyH_take (i := 0) (oi := ⟨some 99, _, _, _, _, _⟩) (v := ?_) rfl (by kernel_rfl) (by kernel_rfl) (by kernel_rfl) (fun _ _ _ h => h) (Or.inl ⟨by kernel_rfl, fun U hU => by (dsimp only at hU; go_split_ands; go_simp; first | done | with_reducible rfl)⟩) (by assumption) ?_; (try simp only [Act.put, List.setIfInBounds_toArray, List.set_cons_zero, List.set_cons_succ])
        refine wpAnyH_take (i := 1) (oi := ⟨some 100, _, _, _, _, _⟩) (v := ?_) rfl (by kernel_rfl) (by kernel_rfl) (by kernel_rfl) (fun _ _ _ h => h) (Or.inl ⟨by kernel_rfl, fun U hU => by (dsimp only at hU; go_split_ands; go_simp; first | done | with_reducible rfl)⟩) (by assumption) ?_; (try simp only [Act.put, List.setIfInBounds_toArray, List.set_cons_zero, List.set_cons_succ])
        refine wpAnyH_take (i := 2) (oi := ⟨some 101, _, _, _, _, _⟩) (v := ?_) rfl (by kernel_rfl) (by kernel_rfl) (by kernel_rfl) (fun _ _ _ h => h) (Or.inl ⟨by kernel_rfl, fun U hU => by (dsimp only at hU; go_split_ands; go_simp; first | done | with_reducible rfl)⟩) (by assumption) ?_; (try simp only [Act.put, List.setIfInBounds_toArray, List.set_cons_zero, List.set_cons_succ])
        refine wpAnyH_take (i := 3) (oi := ⟨some 102, _, _, _, _, _⟩) (v := ?_) rfl (by kernel_rfl) (by kernel_rfl) (by kernel_rfl) (fun _ _ _ h => h) (Or.inl ⟨by kernel_rfl, fun U hU => by (dsimp only at hU; go_split_ands; go_simp; first | done | with_reducible rfl)⟩) (by assumption) ?_; (try simp only [Act.put, List.setIfInBounds_toArray, List.set_cons_zero, List.set_cons_succ])
        refine wpAnyH_take (i := 4) (oi := ⟨some 103, _, _, _, _, _⟩) (v := ?_) rfl (by kernel_rfl) (by kernel_rfl) (by kernel_rfl) (fun _ _ _ h => h) (Or.inl ⟨by kernel_rfl, fun U hU => by (dsimp only at hU; go_split_ands; go_simp; first | done | with_reducible rfl)⟩) (by assumption) ?_; (try simp only [Act.put, List.setIfInBounds_toArray, List.set_cons_zero, List.set_cons_succ])
        refine wpAnyH_take (i := 5) (oi := ⟨some 104, _, _, _, _, _⟩) (v := ?_) rfl (by kernel_rfl) (by kernel_rfl) (by kernel_rfl) (fun _ _ _ h => h) (Or.inl ⟨by kernel_rfl, fun U hU => by (dsimp only at hU; go_split_ands; go_simp; first | done | with_reducible rfl)⟩) (by assumption) ?_; (try simp only [Act.put, List.setIfInBounds_toArray, List.set_cons_zero, List.set_cons_succ])
        refine wpAnyH_take (i := 7) (oi := ⟨some 106, _, _, _, _, _⟩) (v := ?_) rfl (by kernel_rfl) (by kernel_rfl) (by kernel_rfl) (fun _ _ _ h => h) (Or.inl ⟨by kernel_rfl, fun U hU => by (dsimp only at hU; go_split_ands; go_simp; first | done | with_reducible rfl)⟩) (by assumption) ?_; (try simp only [Act.put, List.setIfInBounds_toArray, List.set_cons_zero, List.set_cons_succ])
        refine wpAnyH_take (i := 8) (oi := ⟨some 107, _, _, _, _, _⟩) (v := ?_) rfl (by kernel_rfl) (by kernel_rfl) (by kernel_rfl) (fun _ _ _ h => h) (Or.inl ⟨by kernel_rfl, fun U hU => by (dsimp only at hU; go_split_ands; go_simp; first | done | with_reducible rfl)⟩) (by assumption) ?_; (try simp only [Act.put, List.setIfInBounds_toArray, List.set_cons_zero, List.set_cons_succ])
        refine wpAnyH_take (i := 10) (oi := ⟨some 109, _, _, _, _, _⟩) (v := ?_) rfl (by kernel_rfl) (by kernel_rfl) (by kernel_rfl) (fun _ _ _ h => h) (Or.inl ⟨by kernel_rfl, fun U hU => by (dsimp only at hU; go_split_ands; go_simp; first | done | with_reducible rfl)⟩) (by assumption) ?_; (try simp only [Act.put, List.setIfInBounds_toArray, List.set_cons_zero, List.set_cons_succ])
        refine wpAnyH_take (i := 11) (oi := ⟨some 110, _, _, _, _, _⟩) (v := ?_) rfl (by kernel_rfl) (by kernel_rfl) (by kernel_rfl) (fun _ _ _ h => h) (Or.inl ⟨by kernel_rfl, fun U hU => by (dsimp only at hU; go_split_ands; go_simp; first | done | with_reducible rfl)⟩) (by assumption) ?_; (try simp only [Act.put, List.setIfInBounds_toArray, List.set_cons_zero, List.set_cons_succ])
        refine wpAnyH_ready (rs := [6]) (by kernel_rfl) (by simp) ?_
        refine AllReadyH.cons (o := ⟨some 105, _, _, _, _, _⟩) rfl (fun K hK => ?_) AllReadyH.nil
        go_simp
        go_at_call 32; (with_reducible refine (HM.out _ BC.out).mono ?_); rintro e v9 ⟨rfl, hb⟩; have BC := Lib.hid hb; have hS4 := HS9.out _ hb; clear hb
        refine hK.out _ _ hS4 (fun hS5 => ?_)
        try simp only [Act.put, List.setIfInBounds_toArray, List.set_cons_zero, List.set_cons_succ]
        clear hK K hS1; have hS1 := hS4; clear hS4 hS5
        refine wpAnyH_take (i := 9) (oi := ⟨some 108, _, _, _, _, _⟩) (v := ?_) rfl (by kernel_rfl) (by kernel_rfl) (by kernel_rfl) (fun _ _ _ h => h) (Or.inl ⟨by kernel_rfl, fun U hU => by (dsimp only at hU; go_split_ands; go_simp; first | done | with_reducible rfl)⟩) (by assumption) ?_; (try simp only [Act.put, List.setIfInBounds_toArray, List.set_cons_zero, List.set_cons_succ])
        refine wpAnyH_take (i := 12) (oi := ⟨some 111, _, _, _, _, _⟩) (v := ?_) rfl (by kernel_rfl) (by kernel_rfl) (by kernel_rfl) (fun _ _ _ h => h) (Or.inl ⟨by kernel_rfl, fun U hU => by (dsimp only at hU; go_split_ands; go_simp; first | done | with_reducible rfl)⟩) (by assumption) ?_; (try simp only [Act.put, List.setIfInBounds_toArray, List.set_cons_zero, List.set_cons_succ])
        refine wpAnyH_take (i := 13) (oi := ⟨some 112, _, _, _, _, _⟩) (v := ?_) rfl (by kernel_rfl) (by kernel_rfl) (by kernel_rfl) (fun _ _ _ h => h) (Or.inl ⟨by kernel_rfl, fun U hU => by (dsimp only at hU; go_split_ands; go_simp; first | done | with_reducible rfl)⟩) (by assumption) ?_; (try simp only [Act.put, List.setIfInBounds_toArray, List.set_cons_zero, List.set_cons_succ])
        refine wpAnyH_take (i := 14) (oi := ⟨some 113, _, _, _, _, _⟩) (v := ?_) rfl (by kernel_rfl) (by kernel_rfl) (by kernel_rfl) (fun _ _ _ h => h) (Or.inl ⟨by kernel_rfl, fun U hU => by (dsimp only at hU; go_split_ands; go_simp; first | done | with_reducible rfl)⟩) (by assumption) ?_; (try simp only [Act.put, List.setIfInBounds_toArray, List.set_cons_zero, List.set_cons_succ])
        refine wpAnyH_take (i := 15) (oi := ⟨some 114, _, _, _, _, _⟩) (v := ?_) rfl (by kernel_rfl) (by kernel_rfl) (by kernel_rfl) (fun _ _ _ h => h) (Or.inl ⟨by kernel_rfl, fun U hU => by (dsimp only at hU; go_split_ands; go_simp; first | done | with_reducible rfl)⟩) (by assumption) ?_; (try simp only [Act.put, List.setIfInBounds_toArray, List.set_cons_zero, List.set_cons_succ])
        refine wpAnyH_take (i := 16) (oi := ⟨some 115, _, _, _, _, _⟩) (v := ?_) rfl (by kernel_rfl) (by kernel_rfl) (by kernel_rfl) (fun _ _ _ h => h) (Or.inl ⟨by kernel_rfl, fun U hU => by (dsimp only at hU; go_split_ands; go_simp; first | done | with_reducible rfl)⟩) (by assumption) ?_; (try simp only [Act.put, List.setIfInBounds_toArray, List.set_cons_zero, List.set_cons_succ])
        refine wpAnyH_take (i := 17) (oi := ⟨some 116, _, _, _, _, _⟩) (v := ?_) rfl (by kernel_rfl) (by kernel_rfl) (by kernel_rfl) (fun _ _ _ h => h) (Or.inl ⟨by kernel_rfl, fun U hU => by (dsimp only at hU; go_split_ands; go_simp; first | done | with_reducible rfl)⟩) (by assumption) ?_; (try simp only [Act.put, List.setIfInBounds_toArray, List.set_cons_zero, List.set_cons_succ])
        refine wpAnyH_take (i := 18) (oi := ⟨some 117, _, _, _, _, _⟩) (v := ?_) rfl (by kernel_rfl) (by kernel_rfl) (by kernel_rfl) (fun _ _ _ h => h) (Or.inl ⟨by kernel_rfl, fun U hU => by (dsimp only at hU; go_split_ands; go_simp; first | done | with_reducible rfl)⟩) (by assumption) ?_; (try simp only [Act.put, List.setIfInBounds_toArray, List.set_cons_zero, List.set_cons_succ])
        refine wpAnyH_take (i := 19) (oi := ⟨some 118, _, _, _, _, _⟩) (v := ?_) rfl (by kernel_rfl) (by kernel_rfl) (by kernel_rfl) (fun _ _ _ h => h) (Or.inl ⟨by kernel_rfl, fun U hU => by (dsimp only at hU; go_split_ands; go_simp; first | done | with_reducible rfl)⟩) (by assumption) ?_; (try simp only [Act.put, List.setIfInBounds_toArray, List.set_cons_zero, List.set_cons_succ])
        refine wpAnyH_take (i := 20) (oi := ⟨some 119, _, _, _, _, _⟩) (v := ?_) rfl (by kernel_rfl) (by kernel_rfl) (by kernel_rfl) (fun _ _ _ h => h) (Or.inl ⟨by kernel_rfl, fun U hU => by (dsimp only at hU; go_split_ands; go_simp; first | done | with_reducible rfl)⟩) (by assumption) ?_; (try simp only [Act.put, List.setIfInBounds_toArray, List.set_cons_zero, List.set_cons_succ])
        refine wpAnyH_take (i := 21) (oi := ⟨some 120, _, _, _, _, _⟩) (v := ?_) rfl (by kernel_rfl) (by kernel_rfl) (by kernel_rfl) (fun _ _ _ h => h) (Or.inl ⟨by kernel_rfl, fun U hU => by (dsimp only at hU; go_split_ands; go_simp; first | done | with_reducible rfl)⟩) (by assumption) ?_; (try simp only [Act.put, List.setIfInBounds_toArray, List.set_cons_zero, List.set_cons_succ])
        refine wpAnyH_take (i := 22) (oi := ⟨some 121, _, _, _, _, _⟩) (v := ?_) rfl (by kernel_rfl) (by kernel_rfl) (by kernel_rfl) (fun _ _ _ h => h) (Or.inl ⟨by kernel_rfl, fun U hU => by (dsimp only at hU; go_split_ands; go_simp; first | done | with_reducible rfl)⟩) (by assumption) ?_; (try simp only [Act.put, List.setIfInBounds_toArray, List.set_cons_zero, List.set_cons_succ])
        refine wpAnyH_take (i := 23) (oi := ⟨some 122, _, _, _, _, _⟩) (v := ?_) rfl (by kernel_rfl) (by kernel_rfl) (by kernel_rfl) (fun _ _ _ h => h) (Or.inl ⟨by kernel_rfl, fun U hU => by (dsimp only at hU; go_split_ands; go_simp; first | done | with_reducible rfl)⟩) (by assumption) ?_; (try simp only [Act.put, List.setIfInBounds_toArray, List.set_cons_zero, List.set_cons_succ])
        refine wpAnyH_take (i := 24) (oi := ⟨some 123, _, _, _, _, _⟩) (v := ?_) rfl (by kernel_rfl) (by kernel_rfl) (by kernel_rfl) (fun _ _ _ h => h) (Or.inl ⟨by kernel_rfl, fun U hU => by (dsimp only at hU; go_split_ands; go_simp; first | done | with_reducible rfl)⟩) (by assumption) ?_; (try simp only [Act.put, List.setIfInBounds_toArray, List.set_cons_zero, List.set_cons_succ])
        refine wpAnyH_ready (rs := [25]) (by kernel_rfl) (by simp) ?_
        refine AllReadyH.cons (o := ⟨some 124, _, _, _, _, _⟩) rfl (fun K hK => ?_) AllReadyH.nil
        go_simp
        go_at_call 32; (with_reducible refine (HN1.out _ BC.out).mono ?_); rintro e v9 ⟨rfl, hb⟩; have BC := Lib.hid hb; have hS4 := HS9.out _ hb; clear hb
        refine hK.out _ _ hS4 (fun hS5 => ?_)
        try simp only [Act.put, List.setIfInBounds_toArray, List.set_cons_zero, List.set_cons_succ]
        clear hK K hS1; have hS1 := hS4; clear hS4 hS5
        refine wpAnyH_take (i := 26) (oi := ⟨some 125, _, _, _, _, _⟩) (v := ?_) rfl (by kernel_rfl) (by kernel_rfl) (by kernel_rfl) (fun _ _ _ h => h) (Or.inl ⟨by kernel_rfl, fun U hU => by (dsimp only at hU; go_split_ands; go_simp; first | done | with_reducible rfl)⟩) (by assumption) ?_; (try simp only [Act.put, List.setIfInBounds_toArray, List.set_cons_zero, List.set_cons_succ])
        refine wpAnyH_take (i := 27) (oi := ⟨some 126, _, _, _, _, _⟩) (v := ?_) rfl (by kernel_rfl) (by kernel_rfl) (by kernel_rfl) (fun _ _ _ h => h) (Or.inl ⟨by kernel_rfl, fun U hU => by (dsimp only at hU; go_split_ands; go_simp; first | done | with_reducible rfl)⟩) (by assumption) ?_; (try simp only [Act.put, List.setIfInBounds_toArray, List.set_cons_zero, List.set_cons_succ])
        refine wpAnyH_take (i := 28) (oi := ⟨some 127, _, _, _, _, _⟩) (v := ?_) rfl (by kernel_rfl) (by kernel_rfl) (by kernel_rfl) (fun _ _ _ h => h) (Or.inl ⟨by kernel_rfl, fun U hU => by (dsimp only at hU; go_split_ands; go_simp; first | done | with_reducible rfl)⟩) (by assumption) ?_; (try simp only [Act.put, List.setIfInBounds_toArray, List.set_cons_zero, List.set_cons_succ])
        refine wpAnyH_take (i := 29) (oi := ⟨some 128, _, _, _, _, _⟩) (v := ?_) rfl (by kernel_rfl) (by kernel_rfl) (by kernel_rfl) (fun _ _ _ h => h) (Or.inl ⟨by kernel_rfl, fun U hU => by (dsimp only at hU; go_split_ands; go_simp; first | done | with_reducible rfl)⟩) (by assumption) ?_; (try simp only [Act.put, List.setIfInBounds_toArray, List.set_cons_zero, List.set_cons_succ])
        refine wpAnyH_ready (rs := [30]) (by kernel_rfl) (by simp) ?_
        refine AllReadyH.cons (o := ⟨some 129, _, _, _, _, _⟩) rfl (fun K hK => ?_) AllReadyH.nil
        go_simp
        go_at_call 29; (with_reducible refine (HN3.out _ BC.out).mono ?_); rintro e v9 ⟨rfl, hb⟩; have BC := Lib.hid hb; have hS4 := HS9.out _ hb; clear hb
        refine hK.out _ _ hS4 (fun hS5 => ?_)
        try simp only [Act.put, List.setIfInBounds_toArray, List.set_cons_zero, List.set_cons_succ]
        clear hK K hS1; have hS1 := hS4; clear hS4 hS5
        refine wpAnyH_take (i := 31) (oi := ⟨some 130, _, _, _, _, _⟩) (v := ?_) rfl (by kernel_rfl) (by kernel_rfl) (by kernel_rfl) (fun _ _ _ h => h) (Or.inl ⟨by kernel_rfl, fun U hU => by (dsimp only at hU; go_split_ands; go_simp; first | done | with_reducible rfl)⟩) (by assumption) ?_; (try simp only [Act.put, List.setIfInBounds_toArray, List.set_cons_zero, List.set_cons_succ])
        refine wpAnyH_take (i := 32) (oi := ⟨some 131, _, _, _, _, _⟩) (v := ?_) rfl (by kernel_rfl) (by kernel_rfl) (by kernel_rfl) (fun _ _ _ h => h) (Or.inl ⟨by kernel_rfl, fun U hU => by (dsimp only at hU; go_split_ands; go_simp; first | done | with_reducible rfl)⟩) (by assumption) ?_; (try simp only [Act.put, List.setIfInBounds_toArray, List.set_cons_zero, List.set_cons_succ])
        refine wpAnyH_take (i := 33) (oi := ⟨some 132, _, _, _, _, _⟩) (v := ?_) rfl (by kernel_rfl) (by kernel_rfl) (by kernel_rfl) (fun _ _ _ h => h) (Or.inl ⟨by kernel_rfl, fun U hU => by (dsimp only at hU; go_split_ands; go_simp; first | done | with_reducible rfl)⟩) (by assumption) ?_; (try simp only [Act.put, List.setIfInBounds_toArray, List.set_cons_zero, List.set_cons_succ])
        refine wpAnyH_take (i := 34) (oi := ⟨some 133, _, _, _, _, _⟩) (v := ?_) rfl (by kernel_rfl) (by kernel_rfl) (by kernel_rfl) (fun _ _ _ h => h) (Or.inl ⟨by kernel_rfl, fun U hU => by (dsimp only at hU; go_split_ands; go_simp; first | done | with_reducible rfl)⟩) (by assumption) ?_; (try simp only [Act.put, List.setIfInBounds_toArray, List.set_cons_zero, List.set_cons_succ])
        refine wpAnyH_take (i := 35) (oi := ⟨some 134, _, _, _, _, _⟩) (v := ?_) rfl (by kernel_rfl) (by kernel_rfl) (by kernel_rfl) (fun _ _ _ h => h) (Or.inl ⟨by kernel_rfl, fun U hU => by (dsimp only at hU; go_split_ands; go_simp; first | done | with_reducible rfl)⟩) (by assumption) ?_; (try simp only [Act.put, List.setIfInBounds_toArray, List.set_cons_zero, List.set_cons_succ])
        refine wpAnyH_take (i := 36) (oi := ⟨some 135, _, _, _, _, _⟩) (v := ?_) rfl (by kernel_rfl) (by kernel_rfl) (by kernel_rfl) (fun _ _ _ h => h) (Or.inl ⟨by kernel_rfl, fun U hU => by (dsimp only at hU; go_split_ands; go_simp; first | done | with_reducible rfl)⟩) (by assumption) ?_; (try simp only [Act.put, List.setIfInBounds_toArray, List.set_cons_zero, List.set_cons_succ])
        refine wpAnyH_ready (rs := [37]) (by kernel_rfl) (by simp) ?_
        refine AllReadyH.cons (o := ⟨some 136, _, _, _, _, _⟩) rfl (fun K hK => ?_) AllReadyH.nil
        go_simp
        go_at_call 24; (with_reducible refine (HN4.out _ BC.out).mono ?_); rintro e v9 ⟨rfl, hb⟩; have BC := Lib.hid hb; have hS4 := HS9.out _ hb; clear hb
        refine hK.out _ _ hS4 (fun hS5 => ?_)
        try simp only [Act.put, List.setIfInBounds_toArray, List.set_cons_zero, List.set_cons_succ]
        clear hK K hS1; have hS1 := hS4; clear hS4 hS5
        refine wpAnyH_take (i := 38) (oi := ⟨some 137, _, _, _, _, _⟩) (v := ?_) rfl (by kernel_rfl) (by kernel_rfl) (by kernel_rfl) (fun _ _ _ h => h) (Or.inl ⟨by kernel_rfl, fun U hU => by (dsimp only at hU; go_split_ands; go_simp; first | done | with_reducible rfl)⟩) (by assumption) ?_; (try simp only [Act.put, List.setIfInBounds_toArray, List.set_cons_zero, List.set_cons_succ])
        refine wpAnyH_take (i := 39) (oi := ⟨some 138, _, _, _, _, _⟩) (v := ?_) rfl (by kernel_rfl) (by kernel_rfl) (by kernel_rfl) (fun _ _ _ h => h) (Or.inl ⟨by kernel_rfl, fun U hU => by (dsimp only at hU; go_split_ands; go_simp; first | done | with_reducible rfl)⟩) (by assumption) ?_; (try simp only [Act.put, List.setIfInBounds_toArray, List.set_cons_zero, List.set_cons_succ])
        refine wpAnyH_take (i := 40) (oi := ⟨some 8, _, _, _, _, _⟩) (v := ?_) rfl (by kernel_rfl) (by kernel_rfl) (by kernel_rfl) (fun _ _ _ h => h) (Or.inl ⟨by kernel_rfl, fun U hU => by (dsimp only at hU; go_split_ands; go_simp; first | done | with_reducible rfl)⟩) (by assumption) ?_; (try simp only [Act.put, List.setIfInBounds_toArray, List.set_cons_zero, List.set_cons_succ])
        refine wpAnyH_done (by kernel_rfl) ?_ _
        go_wp2_with fail
        go_ret
        exact ⟨ret_bool (by simp), HB89.out.trans (BC.out.mono HB89.out.size)⟩
  · have HOR := Lib.hid hab
    clear hab
    rcases o with _ | _
    · go_wp2_with fail
      refine HLV.out.mono ?_
      rintro e w3 ⟨rfl, hb⟩
      have HB3 := Lib.hid (HB2.out.trans (hb.mono HB2.out.size))
      clear hb
      go_wp2_with fail
      go_ret
      exact ⟨rfl, HB3.out⟩
    · have t0 : decide (b < a) = true := decide_eq_true (by have := HOR.out; simp at this; omega)
      go_wp2_with fail
      refine HLV.out.mono ?_
      rintro e w3 ⟨rfl, hb⟩
      have HB3 := Lib.hid (HB2.out.trans (hb.mono HB2.out.size))
      clear hb
      go_wp2_with fail
      go_ret
      exact ⟨rfl, HB3.out⟩
end Go.Proofs.Ytlkpalaakncicaa
