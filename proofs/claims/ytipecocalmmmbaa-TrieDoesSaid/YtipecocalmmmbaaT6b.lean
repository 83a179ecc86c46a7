/- trie: along, at at bool. -/
import Derived.Test.YtipecocalmmmbaaT5b
namespace Go.Proofs.Ytipecocalmmmbaa
open Go.RowKit Go.Shelf
set_option linter.unusedVariables false
set_option linter.unusedSimpArgs false

attribute [local go_sem] Oper.semAt_some
attribute [local go_sem, local simp] wide_fn
attribute [local go_sem] encPN encMT

theorem along_bool (w : World) (t : Nat) (a n : Int) :
    Calls Try.prog 62 #[.pointer (some ⟨t, 0, none⟩), .agg #[.int .u32 a, .int .i64 n]] w fun e w' => e = .returned (.func (.func 69) #[] #[.pointer (some ⟨w.heap.size, 0, none⟩), .pointer (some ⟨w.heap.size + 1, 0, none⟩)]) ∧ w' = (w.alloc (.cells #[.pointer (some ⟨t, 0, none⟩)] 52)).alloc (.cells #[.int .u32 a, .int .i64 n] 32) := by
  go_enter Try.func62, Try.ntmps62
  go_wp2
  go_ret
  exact ⟨by simp, rfl⟩
set_option maxRecDepth 100000 in
set_option maxHeartbeats 4000000 in
theorem along1_bool (n : Nat) (w : World) (B t r : Nat) (s : Int) (N : Int → Nat → Option Nat) (L : List TE) (a : Int) (m Bt Bp : Nat) (S : Nat → Prop) (M : Nat) (h : AlS TRb NDb THb w B t r s N L a m Bt Bp S M) (hm : m ≤ 32) (a0 : 0 ≤ a) (a1 : a < 4294967296) :
    SeqStopsK Fence.wide n Try.prog 69 #[.pointer (some ⟨Bt, 0, none⟩), .pointer (some ⟨Bp, 0, none⟩)] (encPN (N := N) (a := a)) (KpX S M) (AllPN m) (PrePN m) 33 w := fun l J Jx W hW hJ hJx hY h0 => by
  have hA : AlS TRb NDb THb W B t r s N L a m Bt Bp S M := ⟨h.tr.below hW, kept hW h.bt, h.bp.next hW, h.inM⟩
  have HA := Lib.hid hA
  have HTop := Lib.hid (top_bool W t r (hA.tr.tb.cell 0 (by simp)))
  have bt := hA.bt
  have hroot := Lib.hid hA.tr.root
  have HY := Lib.hid @hY
  have HAB := Lib.hid hJ
  clear h hW hA hJ hJx hY
  refine callsIn_of_wp Try.func69 rfl trivial ?_ rfl
  simp only [Try.ntmps69, List.size_toArray, List.length_cons, List.length_nil, Nat.reduceAdd, Nat.reduceSub, Array.replicate_succ, Array.replicate_zero, List.push_toArray, List.append_toArray, List.nil_append, List.cons_append]
  have hdd : ∀ k : Nat, (Fence.wide.depth.isSome = true → 1 ≤ k) := fun k h => by cases h
  have ht : Fence.wide.fn 47 := trivial
  gi_wp2_with ((try refine ⟨hdd _, ?_⟩); gi_at_call 47; refine (callsIn_wide.2 HTop.out).mono ?_; rintro e w1 ⟨rfl, rfl⟩)
  gi_loopw [4, 5] (fun v4 v5 wr => ∃ pre : List (PN N a), v5 = .int .i64 pre.length ∧ PrePN m pre ∧ KpX S M W wr ∧ J pre wr ∧ v4 = optP (N (mk a pre.length) pre.length)) (fun _ v _ => 34 - (intOf v).toNat)
  case atStart =>
    refine ⟨[], rfl, ⟨rfl, by simp⟩, KpX.refl _ _ _, h0, ?_⟩
    show _ = optP (N (mk a ((0 : Nat) : Int)) 0)
    rw [show mk a ((0 : Nat) : Int) = 0 from mk_zero a a0 a1, hroot.out]; rfl
  case round =>
    obtain ⟨pre, rfl, hpre, hkp, hj, hv⟩ := hrel
    obtain ⟨d, hd⟩ : ∃ d, pre.length = d := ⟨_, rfl⟩
    rw [hd] at hv ⊢
    have hdm : d ≤ m + 1 := by rw [← hd]; exact hpre.2
    have hbp := hkp.blk HA.out.bp (HA.out.inM _ (.inr rfl)).1 (HA.out.inM _ (.inr rfl)).2
    have p1 : wr.cell? ⟨Bp, 1, none⟩ = some (.int .i64 m) := hbp.cell 1 (by simp)
    have p0 : wr.cell? ⟨Bp, 0, none⟩ = some (.int .u32 a) := hbp.cell 0 (by simp)
    rcases hN : N (mk a d) d with _ | b
    · rw [hN, optP_none] at hv
      subst hv
      have HF := Lib.hid (show AllPN m pre ∧ J pre wr from ⟨⟨hpre, .inr (by rw [hd]; exact hN)⟩, hj⟩)
      clear hN hpre hkp hj
      have HD := Lib.hid hd
      clear hd
      gi_wp2
      first | go_end0 | (refine ⟨fun _ h => (by cases h), ?_⟩; gi_wp2; go_end0)
      exact ⟨⟨_, rfl⟩, .inl ⟨pre, HF.out.1, HF.out.2⟩⟩
    · rw [hN, optP_some] at hv
      subst hv
      by_cases hle : d ≤ m
      · have hdle : (d : Int) ≤ (m : Int) := by omega
        have hx : d ≤ 32 ∧ N (mk a d) d = some b := ⟨by omega, hN⟩
        have HSN := Lib.hid (hpre.snoc (⟨(d, b), hx⟩ : PN N a) hd.symm (by omega))
        have HLEN := Lib.hid (show (pre ++ [(⟨(d, b), hx⟩ : PN N a)]).length = d + 1 by simp [hd])
        obtain ⟨fn, tmps, assign, body, hy, hR⟩ := HY.out pre (⟨(d, b), hx⟩ : PN N a) wr hj (by omega)
        dsimp only [encPN] at hy
        have HDN := Lib.hid (fun (U : World) (hU : KpX S M wr U) => HA.out.down (kpX_t hkp hU) a0 a1 (by omega) hN)
        have HKP := Lib.hid hkp
        have HPR := Lib.hid hpre
        have HBit := Lib.hid (fun (U : World) => (bit_any a d U a0 a1).mono fun e w' (h : _ ∧ _) => (⟨h.1, h.2.symm⟩ : e = .returned (.int .i64 (bitP a d)) ∧ w' = U))
        have d0 : (0 : Int) ≤ (d : Int) := by omega
        clear hN hpre hj hkp hd
        have hyl : Fence.wide.fn 38 := trivial
        gi_wp2_with ((refine ⟨hdd _, ?_⟩); refine hR.mono ?_; clear hR; rintro e W1 (⟨rfl, hj1, hk1⟩ | ⟨rfl, hx1⟩))
        · have HJ1 := Lib.hid hj1
          have hbp1 := (kpX_t HKP.out hk1).blk HA.out.bp (HA.out.inM _ (.inr rfl)).1 (HA.out.inM _ (.inr rfl)).2
          have P0 : W1.cell? ⟨Bp, 0, none⟩ = some (.int .u32 a) := hbp1.cell 0 (by simp)
          have hcb := HDN.out W1 hk1
          have HK1 := Lib.hid hk1
          clear p0 p1 hj1 hk1 hbp1
          rcases bit_cases a d with hb | hb
          all_goals
            rw [hb] at hcb HBit
            simp only [Int.toNat_zero, Int.toNat_one, Nat.reduceAdd] at hcb
            obtain ⟨o, ho⟩ : ∃ o, optP (N (mk a ((d + 1 : Nat) : Int)) (d + 1)) = o := ⟨_, rfl⟩
            rw [ho] at hcb
            have HO := Lib.hid ho
            clear ho hb
            gi_wp2
            gi_quiet ((refine ⟨hdd _, ?_⟩; gi_at_call 38; exact CallsIn.quiet_of_same (callsIn_wide.2 (HBit.out _))))
            gi_wp2
            all_goals
              go_roundw
              case rel => exact ⟨pre ++ [(⟨(d, b), hx⟩ : PN N a)], by rw [HLEN.out]; go_num, HSN.out, kpX_t HKP.out HK1.out, HAB.out _ _ _ none HJ1.out (grown_dN _ _) (fun r e => by cases e), by rw [HLEN.out, HO.out]⟩
              case measure => simp [intOf]; omega
        · go_end0
          exact ⟨⟨_, rfl⟩, .inr ⟨_, HSN.out, hx1⟩⟩
      · have hdd1 : d = m + 1 := by omega
        have HF := Lib.hid (show AllPN m pre ∧ J pre wr from ⟨⟨hpre, .inl (by rw [hd]; exact hdd1)⟩, hj⟩)
        have hlt : ¬ (d : Int) ≤ (m : Int) := by omega
        have hlt2 : decide ((d : Int) ≤ (m : Int)) = false := decide_eq_false hlt
        clear hN hpre hkp hj
        have HD := Lib.hid hd
        clear hd hdd1
        gi_wp2
        first | go_end0 | (refine ⟨fun _ h => (by cases h), ?_⟩; gi_wp2; go_end0)
        exact ⟨⟨_, rfl⟩, .inl ⟨pre, HF.out.1, HF.out.2⟩⟩
set_option maxRecDepth 100000 in
set_option maxHeartbeats 4000000 in
theorem at_no_bool (w : World) (q : Option Addr) (a n : Int) (hk : okP a n = false) :
    Calls Try.prog 49 #[.pointer q, .agg #[.int .u32 a, .int .i64 n]] w fun e w' => e = .returned (.pointer none) ∧ Below w.heap.size w w' := by
  refine (callsIn_wide (n := 6)).1 ?_
  have HC := Lib.hid (fun (U : World) => check_any a n U)
  unfold errP at HC
  rw [hk] at HC
  obtain ⟨P, hP⟩ : ∃ P, w.heap.size = P := ⟨_, rfl⟩
  obtain ⟨V, hV⟩ : ∃ V, (w.alloc (.cells #[.int .u32 a, .int .i64 n] 32)).alloc (.cells #[.pointer none] 87) = V := ⟨_, rfl⟩
  have hB : Below w.heap.size w V := by rw [← hV]; exact two_below _ _ _
  have hp : Blk V P 32 [.int .u32 a, .int .i64 n] := by rw [← hV, ← hP]; exact (Blk.new w 32 [.int .u32 a, .int .i64 n]).alloc _
  have hr : Blk V (P + 1) 87 [.pointer none] := by
    have := Blk.new (w.alloc (.cells #[.int .u32 a, .int .i64 n] 32)) 87 [.pointer none]
    rw [sz_alloc, hP] at this
    rw [← hV]; exact this
  have p0 : V.cell? ⟨P, 0, none⟩ = some (.int .u32 a) := hp.cell 0 (by simp)
  have p1 : V.cell? ⟨P, 1, none⟩ = some (.int .i64 n) := hp.cell 1 (by simp)
  have HV := Lib.hid hV
  have HP := Lib.hid hP
  have HALL := Lib.hid (show Below w.heap.size w V ∧ Blk V (P + 1) 87 [.pointer none] from ⟨hB, hr⟩)
  clear hV hP hB hp hr hk
  refine callsIn_of_wp_marks Try.func49 rfl trivial ?_ rfl
  simp only [Try.ntmps49, List.size_toArray, List.length_cons, List.length_nil, Nat.reduceAdd, Nat.reduceSub, Array.replicate_succ, Array.replicate_zero, List.push_toArray, List.append_toArray, List.nil_append, List.cons_append]
  gi_wp2_with fail
  rw [HV.out, HP.out]
  refine (callsIn_wide.2 (HC.out V)).mono ?_
  rintro e w1 ⟨rfl, hb⟩
  have HA1 := Lib.hid (show Below w.heap.size w w1 ∧ Blk w1 (P + 1) 87 [.pointer none] from ⟨HALL.out.1.trans (hb.mono HALL.out.1.size), HALL.out.2.next hb⟩)
  have r0 : w1.cell? ⟨P + 1, 0, none⟩ = some (.pointer none) := HA1.out.2.cell 0 (by simp)
  have f0 : w1.frozen? ⟨P + 1, 0, none⟩ = false := HA1.out.2.f 0
  have HRB := Lib.hid (show w.heap.size ≤ P + 1 by have := HP.out; omega)
  clear hb p0 p1
  gi_wp2_with fail
  have hc : (w1.setCell ⟨P + 1, 0, none⟩ (.pointer none)).cell? ⟨P + 1, 0, none⟩ = some (.pointer none) := (HA1.out.2.set 0 (.pointer none)).cell 0 (by simp)
  exact ⟨.pointer none, by simp [results, Try.results49, go_sem, hc], rfl, HA1.out.1.setCell HRB.out _⟩
set_option maxRecDepth 100000 in
set_option maxHeartbeats 8000000 in
theorem at_yes_bool (w : World) (B t r : Nat) (s : Int) (N : Int → Nat → Option Nat) (L : List TE) (h : TrAt TRb NDb THb w B t r s N L) (a : Int) (m : Nat) (a0 : 0 ≤ a) (a1 : a < 4294967296) (hok : okP a m = true) :
    Calls Try.prog 49 #[.pointer (some ⟨t, 0, none⟩), .agg #[.int .u32 a, .int .i64 m]] w fun e w' => e = .returned (optP (N a m)) ∧ Below w.heap.size w w' := by
  refine (callsIn_wide (n := 6)).1 ?_
  have hdd : ∀ k : Nat, (Fence.wide.depth.isSome = true → 1 ≤ k) := fun k h => by cases h
  have HC := Lib.hid (fun (U : World) => check_any a m U)
  unfold errP at HC
  rw [if_pos hok] at HC
  have HOK := Lib.hid hok
  have hm : m ≤ 32 := by have := (okP_parts hok).2; omega
  -- the world where Check is called
  obtain ⟨P, hP⟩ : ∃ P, w.heap.size = P := ⟨_, rfl⟩
  obtain ⟨V, hV⟩ : ∃ V, (w.alloc (.cells #[.int .u32 a, .int .i64 m] 32)).alloc (.cells #[.pointer none] 87) = V := ⟨_, rfl⟩
  have hB : Below w.heap.size w V := by rw [← hV]; exact two_below _ _ _
  have hp : Blk V P 32 [.int .u32 a, .int .i64 m] := by rw [← hV, ← hP]; exact (Blk.new w 32 [.int .u32 a, .int .i64 m]).alloc _
  have hr : Blk V (P + 1) 87 [.pointer none] := by
    have := Blk.new (w.alloc (.cells #[.int .u32 a, .int .i64 m] 32)) 87 [.pointer none]
    rw [sz_alloc, hP] at this
    rw [← hV]; exact this
  have hT := h.below hB
  have p0 : V.cell? ⟨P, 0, none⟩ = some (.int .u32 a) := hp.cell 0 (by simp)
  have p1 : V.cell? ⟨P, 1, none⟩ = some (.int .i64 m) := hp.cell 1 (by simp)
  have HV := Lib.hid hV
  have HP := Lib.hid hP
  have HALL := Lib.hid (show Below w.heap.size w V ∧ Blk V P 32 [.int .u32 a, .int .i64 m] ∧ Blk V (P + 1) 87 [.pointer none] ∧ TrAt TRb NDb THb V B t r s N L from ⟨hB, hp, hr, hT⟩)
  clear hV hP hB hp hr hT h hok
  refine callsIn_of_wp_marks Try.func49 rfl trivial ?_ rfl
  simp only [Try.ntmps49, List.size_toArray, List.length_cons, List.length_nil, Nat.reduceAdd, Nat.reduceSub, Array.replicate_succ, Array.replicate_zero, List.push_toArray, List.append_toArray, List.nil_append, List.cons_append]
  gi_wp2_with fail
  rw [HV.out, HP.out]
  refine (callsIn_wide.2 (HC.out V)).mono ?_
  rintro e w1 ⟨rfl, hb⟩
  have HAL1 := Lib.hid (show Below w.heap.size w w1 ∧ Blk w1 P 32 [.int .u32 a, .int .i64 m] ∧ Blk w1 (P + 1) 87 [.pointer none] ∧ TrAt TRb NDb THb w1 B t r s N L from
    ⟨HALL.out.1.trans (hb.mono HALL.out.1.size), HALL.out.2.1.next hb, HALL.out.2.2.1.next hb, HALL.out.2.2.2.below hb⟩)
  have q0 : w1.cell? ⟨P, 0, none⟩ = some (.int .u32 a) := HAL1.out.2.1.cell 0 (by simp)
  have q1 : w1.cell? ⟨P, 1, none⟩ = some (.int .i64 m) := HAL1.out.2.1.cell 1 (by simp)
  clear hb p0 p1
  gi_wp2_with fail
  refine (callsIn_wide.2 (along_bool w1 t a m)).mono ?_
  obtain ⟨Bt, hBt⟩ : ∃ X, w1.heap.size = X := ⟨_, rfl⟩
  obtain ⟨Bp, hBp⟩ : ∃ X, X = Bt + 1 := ⟨_, rfl⟩
  obtain ⟨V2, hV2⟩ : ∃ V, (w1.alloc (.cells #[.pointer (some ⟨t, 0, none⟩)] 52)).alloc (.cells #[.int .u32 a, .int .i64 m] 32) = V := ⟨_, rfl⟩
  have hB2 : Below w1.heap.size w1 V2 := by rw [← hV2]; exact two_below _ _ _
  have hbt : Blk V2 Bt 52 [.pointer (some ⟨t, 0, none⟩)] := by rw [← hV2, ← hBt]; exact (Blk.new w1 52 [.pointer (some ⟨t, 0, none⟩)]).alloc _
  have hbp : Blk V2 Bp 32 [.int .u32 a, .int .i64 m] := by
    have := Blk.new (w1.alloc (.cells #[.pointer (some ⟨t, 0, none⟩)] 52)) 32 [.int .u32 a, .int .i64 m]
    rw [sz_alloc, hBt, ← hBp] at this
    rw [← hV2]; exact this
  have hsz : V2.heap.size = Bp + 1 := by rw [← hV2, sz_alloc, sz_alloc, hBt, hBp]
  have HAL2 := Lib.hid (show Below w.heap.size w V2 ∧ Blk V2 P 32 [.int .u32 a, .int .i64 m] ∧ Blk V2 (P + 1) 87 [.pointer none] ∧ TrAt TRb NDb THb V2 B t r s N L from
    ⟨HAL1.out.1.trans (hB2.mono HAL1.out.1.size), HAL1.out.2.1.next hB2, HAL1.out.2.2.1.next hB2, HAL1.out.2.2.2.below hB2⟩)
  have HPl := Lib.hid (show P < Bt ∧ (P + 1) < Bt ∧ P ≠ (P + 1) from by rw [← hBt]; exact ⟨HAL1.out.2.1.lt, HAL1.out.2.2.1.lt, by omega⟩)
  have HAl := Lib.hid (show AlS TRb NDb THb V2 B t r s N L a m Bt Bp (fun k => k = (P + 1)) (Bp + 1) from ⟨HAL2.out.2.2.2, hbt.cell 0 (by simp), hbp, fun k hk => by
    rcases hk with hk | rfl
    · have h1 := HAL1.out.2.2.2.inLt hk
      have h2 := HAL1.out.2.2.2
      refine ⟨by omega, ?_⟩
      show ¬ k = (P + 1)
      rintro rfl
      have hr := HAL1.out.2.2.1
      rcases hk with rfl | ⟨x, d, hk⟩
      · exact absurd (hr.type h2.tb) (by decide)
      · exact absurd (hr.type (h2.node _ _ _ hk)) (by decide)
    · refine ⟨by omega, ?_⟩
      show ¬ k = (P + 1)
      have := HPl.out; omega⟩)
  have hsn : ∀ k, k ≤ Bp → k < V2.heap.size := fun k hk => by omega
  rintro e w2 ⟨rfl, rfl⟩
  rw [hV2, hBt, ← hBp]
  have HSZ := Lib.hid hsz
  clear hB2 hbt hbp hsz q0 q1 hV2 hBt hsn
  have HBP := Lib.hid hBp
  clear hBp
  gi_wp2_with fail
  refine wpIn_rangeFunc_ownF rfl (by omega) (gf := 69) (lb := #[.pointer (some ⟨Bt, 0, none⟩), .pointer (some ⟨Bp, 0, none⟩)]) rfl trivial (enters_of Try.func69 (by kernel_rfl) rfl)
    (along1_bool _ V2 B t r s N L a m Bt Bp (fun k => k = (P + 1)) (Bp + 1) HAl.out hm a0 a1) kpX_t (kpX_b (by rw [HSZ.out]; exact Nat.le_refl _)) (Below.refl _ _) (fun _ => rfl)
    (fun pre W => (∀ x ∈ pre, x.1.1 ≠ m) ∧ Blk W P 32 [.int .u32 a, .int .i64 m] ∧ Blk W (P + 1) 87 [.pointer none] ∧ Below w.heap.size w W)
    (fun c _ W => c = .ret ∧ ∃ b, N a m = some b ∧ Blk W (P + 1) 87 [.pointer (some ⟨b, 0, none⟩)] ∧ Below w.heap.size w W)
    ?hI ?hIx ?h0 ?a₁ ?assign ?body ?done ?stop
  case hI =>
    intro s A C row hs hg hr
    exact ⟨hs.1, hs.2.1.own hg (fun r e => (hr r e).2), hs.2.2.1.own hg (fun r e => (hr r e).2), hs.2.2.2.grown hg hs.2.2.2.size (fun k e => Nat.le_trans HAL2.out.1.size (hr k e).1)⟩
  case hIx =>
    intro c s A C row hs hg hr
    obtain ⟨h1, b, h2, h3, h4⟩ := hs
    exact ⟨h1, b, h2, h3.own hg (fun r e => (hr r e).2), h4.grown hg h4.size (fun k e => Nat.le_trans HAL2.out.1.size (hr k e).1)⟩
  case h0 => exact ⟨(fun x hx => by cases hx), HAL2.out.2.1, HAL2.out.2.2.1, HAL2.out.1⟩
  case assign =>
    intro l x W K hK
    gi_wp2
    exact hK
  case body =>
    rintro l pre ⟨⟨d, b⟩, h32, hN⟩ W ⟨hne, hp, hr, hB⟩ _
    have p1 : W.cell? ⟨P, 1, none⟩ = some (.int .i64 m) := hp.cell 1 (by simp)
    have r0 : W.cell? ⟨(P + 1), 0, none⟩ = some (.pointer none) := hr.cell 0 (by simp)
    have f0 : W.frozen? ⟨(P + 1), 0, none⟩ = false := hr.f 0
    dsimp only at h32 hN
    have HN := Lib.hid hN
    have HAL := Lib.hid (show (∀ x ∈ pre, x.1.1 ≠ m) ∧ Blk W P 32 [.int .u32 a, .int .i64 m] ∧ Blk W (P + 1) 87 [.pointer none] ∧ Below w.heap.size w W from ⟨hne, hp, hr, hB⟩)
    have hwR := HAL1.out.1
    clear hne hp hr hB
    by_cases hd : d = m
    · subst hd
      have HX := Lib.hid (show ∃ b', N a d = some b' ∧ Blk (W.setCell ⟨(P + 1), 0, none⟩ (.pointer (some ⟨b, 0, none⟩))) (P + 1) 87 [.pointer (some ⟨b', 0, none⟩)] ∧ Below w.heap.size w (W.setCell ⟨(P + 1), 0, none⟩ (.pointer (some ⟨b, 0, none⟩))) from
        ⟨b, by have := HN.out; rw [mk_self HOK.out] at this; exact this, HAL.out.2.2.1.set 0 _, HAL.out.2.2.2.setCell (by show w.heap.size ≤ (P + 1); have := HP.out; omega) _⟩)
      clear hwR
      gi_wp2
      exact ⟨KeepsOthers.setCell _ _ _, rfl, HX.out⟩
    · have hd' : ((d : Int) == (m : Int)) = false := by simpa using fun h => hd (by omega)
      have HX := Lib.hid (show ∀ x ∈ pre ++ [(⟨(d, b), h32, HN.out⟩ : PN N a)], x.1.1 ≠ m from fun x hx => by
        rcases List.mem_append.1 hx with hx | hx
        · exact HAL.out.1 x hx
        · rw [List.mem_singleton.1 hx]; exact hd)
      clear hwR hd
      gi_wp2
      exact ⟨KeepsOthers.refl _, KpX.refl _ _ _, HX.out, HAL.out.2⟩
  case done =>
    rintro D ys W hD hS ⟨hne, hp, hr, hB⟩ hK
    have HNO := Lib.hid (show N a m = none from by
      obtain ⟨⟨h1, h2⟩, h3⟩ := hS
      have hlt : ys.length ≤ m := by
        rcases Nat.lt_or_ge m ys.length with hl | hl
        · have hmem : m ∈ ys.map (·.1.1) := by rw [h1]; exact List.mem_range.2 hl
          obtain ⟨x, hx, e⟩ := List.mem_map.1 hmem
          exact absurd e (hne x hx)
        · exact hl
      have h4 : N (mk a ys.length) ys.length = none := h3.resolve_left (by omega)
      have := HAL2.out.2.2.2.deep a0 a1 h4 m hlt hm
      rw [mk_self HOK.out] at this
      exact this)
    have r0 : W.cell? ⟨P + 1, 0, none⟩ = some (.pointer none) := hr.cell 0 (by simp)
    have f0 : W.frozen? ⟨P + 1, 0, none⟩ = false := hr.f 0
    have HAL := Lib.hid (show Blk W (P + 1) 87 [.pointer none] ∧ Below w.heap.size w W from ⟨hr, hB⟩)
    have HRB := Lib.hid (show w.heap.size ≤ P + 1 by have := HP.out; omega)
    clear hne hp hr hB hS
    gi_wp2
    have hK2 := (KeepsOthers.setCell W ⟨P + 1, 0, none⟩ (.pointer none)).same D _ hK rfl
    have hc : ((W.setCell ⟨P + 1, 0, none⟩ (.pointer none)).putObj D (.deferred none)).cell? ⟨P + 1, 0, none⟩ = some (.pointer none) := cell_kept ((HAL.out.1.set 0 (.pointer none)).cell 0 (by simp)) (grownBy_putObj' _ D (.deferred none)) (fun r e => by cases e; exact ⟨_, hK2, rfl⟩)
    refine ⟨by simp, .inl ⟨_, _, rfl, run_takeDeferred hK2, ?_⟩⟩
    refine ⟨.pointer none, by simp [results, Try.results49, go_sem, hc], by rw [HNO.out]; rfl, ?_⟩
    exact (HAL.out.2.setCell HRB.out _).trans (belowK_b (w := w) (Nat.le_refl _) _ D _ _ (Nat.le_trans HAL2.out.1.size hD) hK2 rfl rfl)
  case stop =>
    rintro D c pre W hD _ ⟨rfl, b, hN, hr, hB⟩ hK
    have HAL := Lib.hid (show Blk W (P + 1) 87 [.pointer (some ⟨b, 0, none⟩)] ∧ N a m = some b ∧ Below w.heap.size w W from ⟨hr, hN, hB⟩)
    clear hN hr hB
    gi_wp2
    have hc : (W.putObj D (.deferred none)).cell? ⟨P + 1, 0, none⟩ = some (.pointer (some ⟨b, 0, none⟩)) := cell_kept (HAL.out.1.cell 0 (by simp)) (grownBy_putObj' _ D (.deferred none)) (fun r e => by cases e; exact ⟨_, hK, rfl⟩)
    refine ⟨by simp, .inl ⟨_, _, rfl, run_takeDeferred hK, ?_⟩⟩
    refine ⟨.pointer (some ⟨b, 0, none⟩), by simp [results, Try.results49, go_sem, hc], by rw [HAL.out.2.1]; rfl, ?_⟩
    exact HAL.out.2.2.trans (belowK_b (w := w) (Nat.le_refl _) _ D _ _ (Nat.le_trans HAL2.out.1.size hD) hK rfl rfl)
theorem at_bool (w : World) (B t r : Nat) (s : Int) (N : Int → Nat → Option Nat) (L : List TE) (h : TrAt TRb NDb THb w B t r s N L) (a n : Int) (a0 : 0 ≤ a) (a1 : a < 4294967296) :
    Calls Try.prog 49 #[.pointer (some ⟨t, 0, none⟩), .agg #[.int .u32 a, .int .i64 n]] w fun e w' => e = .returned (optP (atN N a n)) ∧ Below w.heap.size w w' := by
  unfold atN
  rcases hk : okP a n with _ | _
  · exact at_no_bool w _ a n hk
  · obtain ⟨_, n0, n1⟩ := okP_parts hk
    obtain ⟨m, rfl⟩ := Int.eq_ofNat_of_zero_le n0
    exact at_yes_bool w B t r s N L h a m a0 a1 hk
end Go.Proofs.Ytipecocalmmmbaa
