/- trie: drop, Delete at string. -/
import Derived.Test.YtipecocalmmmbaaT6s
namespace Go.Proofs.Ytipecocalmmmbaa
open Go.RowKit Go.Shelf
set_option linter.unusedVariables false
set_option linter.unusedSimpArgs false

attribute [local go_sem] Oper.semAt_some
attribute [local go_sem, local simp] wide_fn
attribute [local go_sem] encPN encMT

theorem arr_eql_str (o1 o2 : Option Nat) (w : World) : (binOp .eql 104 (.agg #[optP o1, optP o2]) (.agg #[.pointer none, .pointer none])).run Try.prog w = .ok (.bool (o1.isNone && o2.isNone)) w := by
  rcases o1 with _ | b1 <;> rcases o2 with _ | b2 <;> kernel_rfl
theorem arr_guard_str : Try.prog.eqGuardType Try.prog.depth 104 = false := by kernel_rfl
theorem arr_eqGuard_str (op : BinOp) (x y : Operand) (xs ys : Array Value) (w : World) : (eqGuard op 104 x y (.agg xs) (.agg ys)).run Try.prog w = .ok () w := run_eqGuard_agg w op _ x y xs ys arr_guard_str
set_option maxRecDepth 100000 in
set_option maxHeartbeats 8000000 in
theorem drop_zero_str (a : Int) (m : Nat) (hok : okP a m = true) (w : World) (B t r : Nat) (s : Int) (N : Int → Nat → Option Nat) (L : List TE) (b : Nat) (h : TrAt TRs NDs THs w B t r s N L) (hb : N (mk a m) m = some b) :
    Calls Try.prog 55 #[.pointer (some ⟨b, 0, none⟩), .agg #[.int .u32 a, .int .i64 m], .int .i64 m] w fun e w' => ∃ N', e = .returned (.bool (goneB N' (delT L a m) (mk a m) m)) ∧ DropS TRs NDs THs w w' B t r s N L a m m N' := by
  have HA := Lib.hid (newB w (.cells #[.int .u32 a, .int .i64 m] 32))
  have hX := Blk.new w 32 [.int .u32 a, .int .i64 m]
  obtain ⟨V, hV⟩ : ∃ V, w.alloc (.cells #[.int .u32 a, .int .i64 m] 32) = V := ⟨_, rfl⟩
  have hX : Blk V w.heap.size 32 [.int .u32 a, .int .i64 m] := hV ▸ hX
  rw [hV] at HA
  have hT := h.below HA.out
  have p1 : V.cell? ⟨w.heap.size, 1, none⟩ = some (.int .i64 m) := hX.cell 1 (by simp)
  have hD := drop_base hT hb hok
  obtain ⟨c0, c1, c2⟩ := hD.look hb
  have f0 : V.frozen? ⟨b, 0, none⟩ = false := (hT.node _ _ _ hb).f 0
  have b0 : V.cell? ⟨b, 0, none⟩ = some (optP ((atT L (mk a m) m).map TE.g)) := (hT.node _ _ _ hb).cell 0 (by simp)
  obtain ⟨o, ho⟩ : ∃ o, optP ((atT L (mk a m) m).map TE.g) = o := ⟨_, rfl⟩
  rw [ho] at b0
  obtain ⟨o1, h1⟩ : ∃ o, N (mk a m) (m + 1) = o := ⟨_, rfl⟩
  obtain ⟨o2, h2⟩ : ∃ o, N (mk a m + pw m) (m + 1) = o := ⟨_, rfl⟩
  rw [mk_self hok, at_del_same] at c0
  change (V.setCell ⟨b, 0, none⟩ (.pointer none)).cell? ⟨b, 0, none⟩ = some (.pointer none) at c0
  rw [h1] at c1
  rw [h2] at c2
  have HG := Lib.hid (show goneB N (delT L a m) (mk a m) m = (o1.isNone && o2.isNone) by unfold goneB; rw [h1, h2, mk_self hok, at_del_same]; rfl)
  have HD := Lib.hid (hD.of_below HA.out)
  have hE := fun (U : World) => arr_eql_str o1 o2 U
  obtain ⟨v1, hv1⟩ : ∃ v, optP o1 = v := ⟨_, rfl⟩
  obtain ⟨v2, hv2⟩ : ∃ v, optP o2 = v := ⟨_, rfl⟩
  obtain ⟨q, hq⟩ : ∃ q, (o1.isNone && o2.isNone) = q := ⟨_, rfl⟩
  rw [hv1, hv2, hq] at hE
  rw [hv1] at c1
  rw [hv2] at c2
  rw [hq] at HG
  have hEG := fun (op : BinOp) (x y : Operand) (xs ys : Array Value) (U : World) => arr_eqGuard_str op x y xs ys U
  clear hX hT h hb hD ho h1 h2 hv1 hv2 hq hok
  subst hV
  go_enter Try.func55, Try.ntmps55
  go_wp2_with fail
  go_ret
  exact ⟨N, by rw [HG.out]; rfl, HD.out⟩
set_option maxRecDepth 100000 in
set_option maxHeartbeats 8000000 in
theorem drop_go_str (a : Int) (m : Nat) (hok : okP a m = true) (hm : m ≤ 32) (a0 : 0 ≤ a) (a1 : a < 4294967296) (d : Nat) (hd : d < m)
    (ih : ∀ (w : World) (B t r : Nat) (s : Int) (N : Int → Nat → Option Nat) (L : List TE) (b : Nat), TrAt TRs NDs THs w B t r s N L → N (mk a ((d + 1 : Nat) : Int)) (d + 1) = some b → (∃ c, N (mk a m) m = some c) →
      Calls Try.prog 55 #[.pointer (some ⟨b, 0, none⟩), .agg #[.int .u32 a, .int .i64 m], .int .i64 ((d : Int) + 1)] w fun e w' => ∃ N', e = .returned (.bool (goneB N' (delT L a m) (mk a ((d + 1 : Nat) : Int)) (d + 1))) ∧ DropS TRs NDs THs w w' B t r s N L a m (d + 1) N')
    (w : World) (B t r : Nat) (s : Int) (N : Int → Nat → Option Nat) (L : List TE) (b : Nat) (h : TrAt TRs NDs THs w B t r s N L) (hb : N (mk a d) d = some b) (hc : ∃ c, N (mk a m) m = some c) :
    Calls Try.prog 55 #[.pointer (some ⟨b, 0, none⟩), .agg #[.int .u32 a, .int .i64 m], .int .i64 d] w fun e w' => ∃ N', e = .returned (.bool (goneB N' (delT L a m) (mk a d) d)) ∧ DropS TRs NDs THs w w' B t r s N L a m d N' := by
  have HA := Lib.hid (newB w (.cells #[.int .u32 a, .int .i64 m] 32))
  have hX := Blk.new w 32 [.int .u32 a, .int .i64 m]
  obtain ⟨V, hV⟩ : ∃ V, w.alloc (.cells #[.int .u32 a, .int .i64 m] 32) = V := ⟨_, rfl⟩
  have hX : Blk V w.heap.size 32 [.int .u32 a, .int .i64 m] := hV ▸ hX
  rw [hV] at HA
  have hT := h.below HA.out
  obtain ⟨b', hb'⟩ : ∃ b', N (mk a ((d + 1 : Nat) : Int)) (d + 1) = some b' := by
    obtain ⟨c, hc⟩ := hc
    exact hT.upto a0 a1 hc hm (by omega)
  have p0 : V.cell? ⟨w.heap.size, 0, none⟩ = some (.int .u32 a) := hX.cell 0 (by simp)
  have p1 : V.cell? ⟨w.heap.size, 1, none⟩ = some (.int .i64 m) := hX.cell 1 (by simp)
  have P0 : V.drew.cell? ⟨w.heap.size, 0, none⟩ = some (.int .u32 a) := p0
  obtain ⟨hk, hf⟩ := hT.kidA a0 a1 (by omega) hb
  rw [hb', optP_some] at hk
  have HIH := Lib.hid (fun (q : Nat) => ih (V.drewN q) B t r s N L b' (hT.kept fun _ _ _ => rfl) hb' hc)
  have HBit := Lib.hid (fun (U : World) => (bit_any a d U a0 a1).mono fun e w' (h : _ ∧ _) => (⟨h.1, h.2.symm⟩ : e = .returned (.int .i64 (bitP a d)) ∧ w' = U))
  have HTB := Lib.hid (show TrAt TRs NDs THs V B t r s N L ∧ N (mk a d) d = some b from ⟨hT, hb⟩)
  have hlt : ((d : Int) == (m : Int)) = false := by simp; omega
  have d0 : (0 : Int) ≤ (d : Int) := by omega
  have dm : (d : Int) ≤ 31 := by omega
  clear hX hT h hb ih hc
  rcases bit_cases a d with hbit | hbit
  · have HBB := Lib.hid hbit
    rw [hbit] at HBit hk hf
    simp only [kid, Int.toNat_zero, Int.toNat_one, Nat.reduceAdd] at hk hf
    have HK := Lib.hid (show ∀ q : Nat, (V.drewN q).cell? ⟨b, 1, none⟩ = some (.pointer (some ⟨b', 0, none⟩)) ∧ (V.drewN q).cell? ⟨w.heap.size, 0, none⟩ = some (.int .u32 a) ∧ (V.drewN q).cell? ⟨w.heap.size, 1, none⟩ = some (.int .i64 m) from fun q => ⟨hk, p0, p1⟩)
    subst hV
    go_enter Try.func55, Try.ntmps55
    go_wp2_with fail
    go_quiet ((go_at_call 38; exact Calls.quiet_of_same (HBit.out _)))
    go_wp2_with fail
    go_still_tail 6, (by kernel_rfl)
    change wpStill _ _ ((w.alloc (.cells #[.int .u32 a, .int .i64 m] 32)).drewN (nq + 1)) (fun a' => wpList _ _ _ _ a' ((w.alloc (.cells #[.int .u32 a, .int .i64 m] 32)).drewN (nq + 1))) _ _
    have HI := Lib.hid (HIH.out (nq + 1))
    obtain ⟨hk, p0, p1⟩ := HK.out (nq + 1)
    have HUB := Lib.hid (show Below w.heap.size w ((w.alloc (.cells #[.int .u32 a, .int .i64 m] 32)).drewN (nq + 1)) from HA.out.trans (below_dN _ _ _))
    have HUT := Lib.hid (show TrAt TRs NDs THs ((w.alloc (.cells #[.int .u32 a, .int .i64 m] 32)).drewN (nq + 1)) B t r s N L from HTB.out.1.kept fun _ _ _ => rfl)
    obtain ⟨U, hU⟩ : ∃ U, (w.alloc (.cells #[.int .u32 a, .int .i64 m] 32)).drewN (nq + 1) = U := ⟨_, rfl⟩
    rw [hU] at HI hk p0 p1 HUB HUT ⊢
    have hsz : w.heap.size < U.heap.size := by rw [← hU]; show _ < (w.alloc _).heap.size; rw [sz_alloc]; omega
    clear hU HK hbit
    repeat still_step
    refine wpStill_nil ?_
    go_wp2_with fail
    refine HI.out.mono ?_
    rintro e w2 ⟨N1, rfl, hD⟩
    have hbU : N (mk a d) d = some b := HTB.out.2
    have HDU := Lib.hid hD
    clear hD hk p0 p1
    rcases hg : goneB N1 (delT L a m) (mk a ((d + 1 : Nat) : Int)) (d + 1) with _ | _
    · have hD2 := DropS.up HUT.out hd HDU.out
      have hb2 := hbU
      clear hbU hg
      obtain ⟨c0, c1, c2⟩ := hD2.look hb2
      have HD := Lib.hid (hD2.of_below HUB.out)
      obtain ⟨o1, h1⟩ : ∃ o, N1 (mk a d) (d + 1) = o := ⟨_, rfl⟩
      obtain ⟨o2, h2⟩ : ∃ o, N1 (mk a d + pw d) (d + 1) = o := ⟨_, rfl⟩
      obtain ⟨o, ho⟩ : ∃ o, atT (delT L a m) (mk a d) d = o := ⟨_, rfl⟩
      have hG : goneB (N1) (delT L a m) (mk a d) d = (o.isNone && (o1.isNone && o2.isNone)) := by unfold goneB; rw [h1, h2, ho]
      rw [h1] at c1
      rw [h2] at c2
      rw [ho] at c0
      have hE := fun (U : World) => arr_eql_str o1 o2 U
      obtain ⟨v1, hv1⟩ : ∃ v, optP o1 = v := ⟨_, rfl⟩
      obtain ⟨v2, hv2⟩ : ∃ v, optP o2 = v := ⟨_, rfl⟩
      obtain ⟨q, hq⟩ : ∃ q, (o1.isNone && o2.isNone) = q := ⟨_, rfl⟩
      rw [hv1, hv2, hq] at hE
      rw [hv1] at c1
      rw [hv2] at c2
      rw [hq] at hG
      have hEG := fun (op : BinOp) (x y : Operand) (xs ys : Array Value) (U : World) => arr_eqGuard_str op x y xs ys U
      clear hD2 hb2 h1 h2 ho hv1 hv2 hq
      rcases o with _ | x
      · change (w2).cell? ⟨b, 0, none⟩ = some (.pointer none) at c0
        have HG := Lib.hid hG
        clear hG
        go_wp2_with fail
        go_ret
        exact ⟨_, by rw [HG.out]; rfl, HD.out⟩
      · change (w2).cell? ⟨b, 0, none⟩ = some (.pointer (some ⟨x.g, 0, none⟩)) at c0
        obtain ⟨xg, hxg⟩ : ∃ g, x.g = g := ⟨_, rfl⟩
        rw [hxg] at c0
        have HG := Lib.hid hG
        clear hG hxg hE hEG
        go_wp2_with fail
        go_ret
        exact ⟨_, by rw [HG.out]; rfl, HD.out⟩
    · have hD2 := DropS.cut HUT.out a0 a1 hd hm hbU HDU.out hg
      rw [HBB.out] at hD2
      change DropS TRs NDs THs U (w2.setCell ⟨b, 1, none⟩ (.pointer none)) B t r s N L a m d _ at hD2
      have hb2 := hbU
      obtain ⟨N2, hN2⟩ : ∃ N2, upd N1 (mk a ((d + 1 : Nat) : Int)) (d + 1) none = N2 := ⟨_, rfl⟩
      rw [hN2] at hD2
      have hbn : N1 (mk a d) d = some b := by rw [HDU.out.keep _ _ (by omega)]; exact hbU
      have f0 : w2.frozen? ⟨b, 1, none⟩ = false := (HDU.out.tr.node _ _ _ hbn).f 1
      have k0 : ∃ v, w2.cell? ⟨b, 1, none⟩ = some v := ⟨_, (HDU.out.tr.node _ _ _ hbn).cell 1 (by simp)⟩
      obtain ⟨v0, k0⟩ := k0
      clear hbU hg hbn hN2
      obtain ⟨c0, c1, c2⟩ := hD2.look hb2
      have HD := Lib.hid (hD2.of_below HUB.out)
      obtain ⟨o1, h1⟩ : ∃ o, N2 (mk a d) (d + 1) = o := ⟨_, rfl⟩
      obtain ⟨o2, h2⟩ : ∃ o, N2 (mk a d + pw d) (d + 1) = o := ⟨_, rfl⟩
      obtain ⟨o, ho⟩ : ∃ o, atT (delT L a m) (mk a d) d = o := ⟨_, rfl⟩
      have hG : goneB (N2) (delT L a m) (mk a d) d = (o.isNone && (o1.isNone && o2.isNone)) := by unfold goneB; rw [h1, h2, ho]
      rw [h1] at c1
      rw [h2] at c2
      rw [ho] at c0
      have hE := fun (U : World) => arr_eql_str o1 o2 U
      obtain ⟨v1, hv1⟩ : ∃ v, optP o1 = v := ⟨_, rfl⟩
      obtain ⟨v2, hv2⟩ : ∃ v, optP o2 = v := ⟨_, rfl⟩
      obtain ⟨q, hq⟩ : ∃ q, (o1.isNone && o2.isNone) = q := ⟨_, rfl⟩
      rw [hv1, hv2, hq] at hE
      rw [hv1] at c1
      rw [hv2] at c2
      rw [hq] at hG
      have hEG := fun (op : BinOp) (x y : Operand) (xs ys : Array Value) (U : World) => arr_eqGuard_str op x y xs ys U
      clear hD2 hb2 h1 h2 ho hv1 hv2 hq
      rcases o with _ | x
      · change (w2.setCell ⟨b, 1, none⟩ (.pointer none)).cell? ⟨b, 0, none⟩ = some (.pointer none) at c0
        have HG := Lib.hid hG
        clear hG
        go_wp2_with fail
        go_ret
        exact ⟨_, by rw [HG.out]; rfl, HD.out⟩
      · change (w2.setCell ⟨b, 1, none⟩ (.pointer none)).cell? ⟨b, 0, none⟩ = some (.pointer (some ⟨x.g, 0, none⟩)) at c0
        obtain ⟨xg, hxg⟩ : ∃ g, x.g = g := ⟨_, rfl⟩
        rw [hxg] at c0
        have HG := Lib.hid hG
        clear hG hxg hE hEG
        go_wp2_with fail
        go_ret
        exact ⟨_, by rw [HG.out]; rfl, HD.out⟩
  · have HBB := Lib.hid hbit
    rw [hbit] at HBit hk hf
    simp only [kid, Int.toNat_zero, Int.toNat_one, Nat.reduceAdd] at hk hf
    have HK := Lib.hid (show ∀ q : Nat, (V.drewN q).cell? ⟨b, 2, none⟩ = some (.pointer (some ⟨b', 0, none⟩)) ∧ (V.drewN q).cell? ⟨w.heap.size, 0, none⟩ = some (.int .u32 a) ∧ (V.drewN q).cell? ⟨w.heap.size, 1, none⟩ = some (.int .i64 m) from fun q => ⟨hk, p0, p1⟩)
    subst hV
    go_enter Try.func55, Try.ntmps55
    go_wp2_with fail
    go_quiet ((go_at_call 38; exact Calls.quiet_of_same (HBit.out _)))
    go_wp2_with fail
    go_still_tail 6, (by kernel_rfl)
    change wpStill _ _ ((w.alloc (.cells #[.int .u32 a, .int .i64 m] 32)).drewN (nq + 1)) (fun a' => wpList _ _ _ _ a' ((w.alloc (.cells #[.int .u32 a, .int .i64 m] 32)).drewN (nq + 1))) _ _
    have HI := Lib.hid (HIH.out (nq + 1))
    obtain ⟨hk, p0, p1⟩ := HK.out (nq + 1)
    have HUB := Lib.hid (show Below w.heap.size w ((w.alloc (.cells #[.int .u32 a, .int .i64 m] 32)).drewN (nq + 1)) from HA.out.trans (below_dN _ _ _))
    have HUT := Lib.hid (show TrAt TRs NDs THs ((w.alloc (.cells #[.int .u32 a, .int .i64 m] 32)).drewN (nq + 1)) B t r s N L from HTB.out.1.kept fun _ _ _ => rfl)
    obtain ⟨U, hU⟩ : ∃ U, (w.alloc (.cells #[.int .u32 a, .int .i64 m] 32)).drewN (nq + 1) = U := ⟨_, rfl⟩
    rw [hU] at HI hk p0 p1 HUB HUT ⊢
    have hsz : w.heap.size < U.heap.size := by rw [← hU]; show _ < (w.alloc _).heap.size; rw [sz_alloc]; omega
    clear hU HK hbit
    repeat still_step
    refine wpStill_nil ?_
    go_wp2_with fail
    refine HI.out.mono ?_
    rintro e w2 ⟨N1, rfl, hD⟩
    have hbU : N (mk a d) d = some b := HTB.out.2
    have HDU := Lib.hid hD
    clear hD hk p0 p1
    rcases hg : goneB N1 (delT L a m) (mk a ((d + 1 : Nat) : Int)) (d + 1) with _ | _
    · have hD2 := DropS.up HUT.out hd HDU.out
      have hb2 := hbU
      clear hbU hg
      obtain ⟨c0, c1, c2⟩ := hD2.look hb2
      have HD := Lib.hid (hD2.of_below HUB.out)
      obtain ⟨o1, h1⟩ : ∃ o, N1 (mk a d) (d + 1) = o := ⟨_, rfl⟩
      obtain ⟨o2, h2⟩ : ∃ o, N1 (mk a d + pw d) (d + 1) = o := ⟨_, rfl⟩
      obtain ⟨o, ho⟩ : ∃ o, atT (delT L a m) (mk a d) d = o := ⟨_, rfl⟩
      have hG : goneB (N1) (delT L a m) (mk a d) d = (o.isNone && (o1.isNone && o2.isNone)) := by unfold goneB; rw [h1, h2, ho]
      rw [h1] at c1
      rw [h2] at c2
      rw [ho] at c0
      have hE := fun (U : World) => arr_eql_str o1 o2 U
      obtain ⟨v1, hv1⟩ : ∃ v, optP o1 = v := ⟨_, rfl⟩
      obtain ⟨v2, hv2⟩ : ∃ v, optP o2 = v := ⟨_, rfl⟩
      obtain ⟨q, hq⟩ : ∃ q, (o1.isNone && o2.isNone) = q := ⟨_, rfl⟩
      rw [hv1, hv2, hq] at hE
      rw [hv1] at c1
      rw [hv2] at c2
      rw [hq] at hG
      have hEG := fun (op : BinOp) (x y : Operand) (xs ys : Array Value) (U : World) => arr_eqGuard_str op x y xs ys U
      clear hD2 hb2 h1 h2 ho hv1 hv2 hq
      rcases o with _ | x
      · change (w2).cell? ⟨b, 0, none⟩ = some (.pointer none) at c0
        have HG := Lib.hid hG
        clear hG
        go_wp2_with fail
        go_ret
        exact ⟨_, by rw [HG.out]; rfl, HD.out⟩
      · change (w2).cell? ⟨b, 0, none⟩ = some (.pointer (some ⟨x.g, 0, none⟩)) at c0
        obtain ⟨xg, hxg⟩ : ∃ g, x.g = g := ⟨_, rfl⟩
        rw [hxg] at c0
        have HG := Lib.hid hG
        clear hG hxg hE hEG
        go_wp2_with fail
        go_ret
        exact ⟨_, by rw [HG.out]; rfl, HD.out⟩
    · have hD2 := DropS.cut HUT.out a0 a1 hd hm hbU HDU.out hg
      rw [HBB.out] at hD2
      change DropS TRs NDs THs U (w2.setCell ⟨b, 2, none⟩ (.pointer none)) B t r s N L a m d _ at hD2
      have hb2 := hbU
      obtain ⟨N2, hN2⟩ : ∃ N2, upd N1 (mk a ((d + 1 : Nat) : Int)) (d + 1) none = N2 := ⟨_, rfl⟩
      rw [hN2] at hD2
      have hbn : N1 (mk a d) d = some b := by rw [HDU.out.keep _ _ (by omega)]; exact hbU
      have f0 : w2.frozen? ⟨b, 2, none⟩ = false := (HDU.out.tr.node _ _ _ hbn).f 2
      have k0 : ∃ v, w2.cell? ⟨b, 2, none⟩ = some v := ⟨_, (HDU.out.tr.node _ _ _ hbn).cell 2 (by simp)⟩
      obtain ⟨v0, k0⟩ := k0
      clear hbU hg hbn hN2
      obtain ⟨c0, c1, c2⟩ := hD2.look hb2
      have HD := Lib.hid (hD2.of_below HUB.out)
      obtain ⟨o1, h1⟩ : ∃ o, N2 (mk a d) (d + 1) = o := ⟨_, rfl⟩
      obtain ⟨o2, h2⟩ : ∃ o, N2 (mk a d + pw d) (d + 1) = o := ⟨_, rfl⟩
      obtain ⟨o, ho⟩ : ∃ o, atT (delT L a m) (mk a d) d = o := ⟨_, rfl⟩
      have hG : goneB (N2) (delT L a m) (mk a d) d = (o.isNone && (o1.isNone && o2.isNone)) := by unfold goneB; rw [h1, h2, ho]
      rw [h1] at c1
      rw [h2] at c2
      rw [ho] at c0
      have hE := fun (U : World) => arr_eql_str o1 o2 U
      obtain ⟨v1, hv1⟩ : ∃ v, optP o1 = v := ⟨_, rfl⟩
      obtain ⟨v2, hv2⟩ : ∃ v, optP o2 = v := ⟨_, rfl⟩
      obtain ⟨q, hq⟩ : ∃ q, (o1.isNone && o2.isNone) = q := ⟨_, rfl⟩
      rw [hv1, hv2, hq] at hE
      rw [hv1] at c1
      rw [hv2] at c2
      rw [hq] at hG
      have hEG := fun (op : BinOp) (x y : Operand) (xs ys : Array Value) (U : World) => arr_eqGuard_str op x y xs ys U
      clear hD2 hb2 h1 h2 ho hv1 hv2 hq
      rcases o with _ | x
      · change (w2.setCell ⟨b, 2, none⟩ (.pointer none)).cell? ⟨b, 0, none⟩ = some (.pointer none) at c0
        have HG := Lib.hid hG
        clear hG
        go_wp2_with fail
        go_ret
        exact ⟨_, by rw [HG.out]; rfl, HD.out⟩
      · change (w2.setCell ⟨b, 2, none⟩ (.pointer none)).cell? ⟨b, 0, none⟩ = some (.pointer (some ⟨x.g, 0, none⟩)) at c0
        obtain ⟨xg, hxg⟩ : ∃ g, x.g = g := ⟨_, rfl⟩
        rw [hxg] at c0
        have HG := Lib.hid hG
        clear hG hxg hE hEG
        go_wp2_with fail
        go_ret
        exact ⟨_, by rw [HG.out]; rfl, HD.out⟩
theorem drop_str (a : Int) (m : Nat) (hok : okP a m = true) (hm : m ≤ 32) (a0 : 0 ≤ a) (a1 : a < 4294967296) : ∀ (k d : Nat), d + k = m → ∀ (w : World) (B t r : Nat) (s : Int) (N : Int → Nat → Option Nat) (L : List TE) (b : Nat), TrAt TRs NDs THs w B t r s N L → N (mk a d) d = some b → (∃ c, N (mk a m) m = some c) →
    Calls Try.prog 55 #[.pointer (some ⟨b, 0, none⟩), .agg #[.int .u32 a, .int .i64 m], .int .i64 d] w fun e w' => ∃ N', e = .returned (.bool (goneB N' (delT L a m) (mk a d) d)) ∧ DropS TRs NDs THs w w' B t r s N L a m d N'
  | 0, d, hd, w, B, t, r, s, N, L, b, h, hb, _ => by
    obtain rfl : d = m := by omega
    exact drop_zero_str a d hok w B t r s N L b h hb
  | k + 1, d, hd, w, B, t, r, s, N, L, b, h, hb, hc => by
    refine drop_go_str a m hok hm a0 a1 d (by omega) (fun w B t r s N L b h hb hc => ?_) w B t r s N L b h hb hc
    have := drop_str a m hok hm a0 a1 k (d + 1) (by omega) w B t r s N L b h hb hc
    rwa [show (((d + 1 : Nat) : Int)) = (d : Int) + 1 from by omega] at this ⊢
set_option maxRecDepth 100000 in
set_option maxHeartbeats 8000000 in
theorem delete_str (w : World) (B t r : Nat) (N : Int → Nat → Option Nat) (L : List TE) (a n : Int) (h : TrAt TRs NDs THs w B t r L.length N L) (a0 : 0 ≤ a) (a1 : a < 4294967296) (hl : L.length ≤ 1000000) :
    Calls Try.prog 33 #[.pointer (some ⟨t, 0, none⟩), .agg #[.int .u32 a, .int .i64 n]] w fun e w' => ∃ N', e = .returned (.bool (atT L a n).isSome) ∧ SetR TRs NDs THs w w' B t r N L N' (delT L a n) := by
  have HA := Lib.hid (newB w (.cells #[.int .u32 a, .int .i64 n] 32))
  have hX := Blk.new w 32 [.int .u32 a, .int .i64 n]
  obtain ⟨V, hV⟩ : ∃ V, w.alloc (.cells #[.int .u32 a, .int .i64 n] 32) = V := ⟨_, rfl⟩
  have hX : Blk V w.heap.size 32 [.int .u32 a, .int .i64 n] := hV ▸ hX
  rw [hV] at HA
  have hT := h.below HA.out
  have HH := Lib.hid h
  have p0 : V.cell? ⟨w.heap.size, 0, none⟩ = some (.int .u32 a) := hX.cell 0 (by simp)
  have p1 : V.cell? ⟨w.heap.size, 1, none⟩ = some (.int .i64 n) := hX.cell 1 (by simp)
  have HX := Lib.hid hX
  have HT := Lib.hid hT
  have HV := Lib.hid hV
  have HG := Lib.hid (get_str V B t r _ N L hT a n a0 a1)
  have hll : (L.length : Int) ≤ 1000000 := by omega
  have hl0 : (0 : Int) ≤ (L.length : Int) := by omega
  clear hX hT hV h hl
  go_enter Try.func33, Try.ntmps33
  go_wp2_with fail
  rw [HV.out]
  refine HG.out.mono ?_
  rintro e w1 ⟨rfl, hb⟩
  have HB := Lib.hid (HA.out.trans (hb.mono HA.out.size))
  have HT1 := Lib.hid (HT.out.below hb)
  have hX1 := HX.out.next hb
  have q0 : w1.cell? ⟨w.heap.size, 0, none⟩ = some (.int .u32 a) := hX1.cell 0 (by simp)
  have q1 : w1.cell? ⟨w.heap.size, 1, none⟩ = some (.int .i64 n) := hX1.cell 1 (by simp)
  have hX1 := Lib.hid hX1
  clear hb p0 p1
  unfold gotV
  rcases hat : atT L a n with _ | x
  · have HR := Lib.hid (del_not HH.out HB.out hat)
    simp only [Option.isSome_none]
    have HAT := Lib.hid hat
    clear hat
    go_wp2_with fail
    go_ret
    exact ⟨N, by rw [HAT.out]; rfl, HR.out⟩
  · simp only [Option.isSome_some]
    obtain ⟨hx, ea, en⟩ := atT_some hat
    have ho := HT1.out.tl.ok x hx
    have hok := ho.ok
    rw [ea, en] at hok
    obtain ⟨m, rfl⟩ := Int.eq_ofNat_of_zero_le (okP_parts hok).2.1
    have hm32 : m ≤ 32 := by have := (okP_parts hok).2.2; omega
    obtain ⟨c, hc⟩ := (HT1.out.thing x hx).1
    rw [ea, en, Int.toNat_natCast] at hc
    have HAT := Lib.hid (show (atT L a m).isSome = true by rw [hat]; rfl)
    have HTD := Lib.hid (show TrAt TRs NDs THs w1.drew B t r L.length N L from HT1.out.drew)
    have HDR := Lib.hid (drop_str a m hok hm32 a0 a1 m 0 (by omega) w1.drew B t r _ N L r HTD.out (by rw [show mk a ((0 : Nat) : Int) = 0 from mk_zero a a0 a1]; exact HTD.out.root) ⟨c, by rw [mk_self hok]; exact hc⟩)
    have t0 : w1.cell? ⟨t, 0, none⟩ = some (.pointer (some ⟨r, 0, none⟩)) := HT1.out.tb.cell 0 (by simp)
    have T0 : w1.drew.cell? ⟨t, 0, none⟩ = some (.pointer (some ⟨r, 0, none⟩)) := t0
    have Q0 : w1.drew.cell? ⟨w.heap.size, 0, none⟩ = some (.int .u32 a) := q0
    have Q1 : w1.drew.cell? ⟨w.heap.size, 1, none⟩ = some (.int .i64 m) := q1
    have HBD := Lib.hid (show Below w.heap.size w w1.drew from HB.out.drew)
    clear hat hx ea en ho hok hc q0 q1 t0
    obtain ⟨s, hs⟩ : ∃ s : Int, (L.length : Int) = s := ⟨_, rfl⟩
    have HS := Lib.hid hs
    rw [hs] at hll hl0 HDR HTD
    clear hs
    go_wp2_with fail
    go_still_tail 5, (by kernel_rfl)
    change wpList _ _ _ _ _ w1.drew
    obtain ⟨U, hU⟩ : ∃ U, w1.drew = U := ⟨_, rfl⟩
    rw [hU] at HDR T0 Q0 Q1 HBD HTD ⊢
    clear hU
    go_wp2_with fail
    refine HDR.out.mono ?_
    rintro e w2 ⟨N', rfl, hD⟩
    have HD := Lib.hid (show SetR TRs NDs THs w (w2.setCell ⟨t, 1, none⟩ (.int .i64 (s - 1))) B t r N L N' (delT L a m) from by
      have := del_done HBD.out (by rw [HS.out]; exact HTD.out) HAT.out (by rw [HS.out]; exact hD)
      rw [HS.out] at this
      exact this)
    have t1 : w2.cell? ⟨t, 1, none⟩ = some (.int .i64 s) := hD.tr.tb.cell 1 (by simp)
    have f1 : w2.frozen? ⟨t, 1, none⟩ = false := hD.tr.tb.f 1
    clear hD T0 Q0 Q1
    go_wp2_with fail
    go_ret
    exact ⟨N', by rw [HAT.out]; rfl, HD.out⟩
end Go.Proofs.Ytipecocalmmmbaa
