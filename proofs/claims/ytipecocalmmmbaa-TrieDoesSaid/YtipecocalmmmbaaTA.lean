/- trie: drop and Delete at int. -/
import Derived.Test.YtipecocalmmmbaaT9
import Derived.StillTailTactics
import Derived.Laws.StructEq
namespace Go.Proofs.Ytipecocalmmmbaa
open Go.RowKit
set_option linter.unusedVariables false
set_option linter.unusedSimpArgs false

theorem arr_eql_int (o1 o2 : Option Nat) (w : World) : (binOp .eql 59 (.agg #[optP o1, optP o2]) (.agg #[.pointer none, .pointer none])).run Try.prog w = .ok (.bool (o1.isNone && o2.isNone)) w := by
  rcases o1 with _ | b1 <;> rcases o2 with _ | b2 <;> kernel_rfl
theorem arr_guard_int : Try.prog.eqGuardType Try.prog.depth 59 = false := by kernel_rfl
theorem arr_eqGuard_int (op : BinOp) (x y : Operand) (xs ys : Array Value) (w : World) : (eqGuard op 59 x y (.agg xs) (.agg ys)).run Try.prog w = .ok () w := run_eqGuard_agg w op _ x y xs ys arr_guard_int
theorem DropS.of_below {TR ND TH : TypeId} {w V w' : World} {B t r : Nat} {s : Int} {N N' : Int → Nat → Option Nat} {L : List TE} {a : Int} {m d : Nat} (hb : Below w.heap.size w V) (h : DropS TR ND TH V w' B t r s N L a m d N') : DropS TR ND TH w w' B t r s N L a m d N' :=
  ⟨h.tr, (Turns.of_below hb).trans h.turn, h.sub, h.keep⟩
theorem isNone_map (o : Option TE) : (o.map TE.g).isNone = o.isNone := by cases o <;> rfl
set_option maxRecDepth 100000 in
set_option maxHeartbeats 8000000 in
theorem drop_zero_int (a : Int) (m : Nat) (hok : okP a m = true) (w : World) (B t r : Nat) (s : Int) (N : Int → Nat → Option Nat) (L : List TE) (b : Nat) (h : TrAt TRi NDi THi w B t r s N L) (hb : N (mk a m) m = some b) :
    Calls Try.prog 41 #[.pointer (some ⟨b, 0, none⟩), .agg #[.int .u32 a, .int .i64 m], .int .i64 m] w fun e w' => ∃ N', e = .returned (.bool (goneB N' (delT L a m) (mk a m) m)) ∧ DropS TRi NDi THi w w' B t r s N L a m m N' := by
  have HA := Lib.hid (newB w (.cells #[.int .u32 a, .int .i64 m] 32))
  have hX := Blk.new w 32 [.int .u32 a, .int .i64 m]
  obtain ⟨V, hV⟩ : ∃ V, w.alloc (.cells #[.int .u32 a, .int .i64 m] 32) = V := ⟨_, rfl⟩
  have hX : Blk V w.heap.size 32 [.int .u32 a, .int .i64 m] := hV ▸ hX
  rw [hV] at HA
  have hT := h.below HA.out
  have p1 : V.cell? ⟨w.heap.size, 1, none⟩ = some (.int .i64 m) := hX.cell 1 (by simp)
  have hD := drop_base hT hb hok
  obtain ⟨c0, c1, c2⟩ := hD.look hb
  have f0 : V.frozen? ⟨b, 0, none⟩ = false := (hT.node _ _ _ hb).f 0
  have b0 : V.cell? ⟨b, 0, none⟩ = some (optP ((atT L (mk a m) m).map TE.g)) := (hT.node _ _ _ hb).cell 0 (by simp)
  obtain ⟨o, ho⟩ : ∃ o, optP ((atT L (mk a m) m).map TE.g) = o := ⟨_, rfl⟩
  rw [ho] at b0
  obtain ⟨o1, h1⟩ : ∃ o, N (mk a m) (m + 1) = o := ⟨_, rfl⟩
  obtain ⟨o2, h2⟩ : ∃ o, N (mk a m + pw m) (m + 1) = o := ⟨_, rfl⟩
  rw [mk_self hok, at_del_same] at c0
  change (V.setCell ⟨b, 0, none⟩ (.pointer none)).cell? ⟨b, 0, none⟩ = some (.pointer none) at c0
  rw [h1] at c1
  rw [h2] at c2
  have HG := Lib.hid (show goneB N (delT L a m) (mk a m) m = (o1.isNone && o2.isNone) by unfold goneB; rw [h1, h2, mk_self hok, at_del_same]; rfl)
  have HD := Lib.hid (hD.of_below HA.out)
  have hE := fun (U : World) => arr_eql_int o1 o2 U
  obtain ⟨v1, hv1⟩ : ∃ v, optP o1 = v := ⟨_, rfl⟩
  obtain ⟨v2, hv2⟩ : ∃ v, optP o2 = v := ⟨_, rfl⟩
  obtain ⟨q, hq⟩ : ∃ q, (o1.isNone && o2.isNone) = q := ⟨_, rfl⟩
  rw [hv1, hv2, hq] at hE
  rw [hv1] at c1
  rw [hv2] at c2
  rw [hq] at HG
  have hEG := fun (op : BinOp) (x y : Operand) (xs ys : Array Value) (U : World) => arr_eqGuard_int op x y xs ys U
  clear hX hT h hb hD ho h1 h2 hv1 hv2 hq hok
  subst hV
  go_enter Try.func41, Try.ntmps41
  go_wp2_with fail
  go_ret
  exact ⟨N, by rw [HG.out]; rfl, HD.out⟩
set_option maxRecDepth 100000 in
set_option maxHeartbeats 8000000 in
theorem drop_go_int (a : Int) (m : Nat) (hok : okP a m = true) (hm : m ≤ 32) (a0 : 0 ≤ a) (a1 : a < 4294967296) (d : Nat) (hd : d < m)
    (ih : ∀ (w : World) (B t r : Nat) (s : Int) (N : Int → Nat → Option Nat) (L : List TE) (b : Nat), TrAt TRi NDi THi w B t r s N L → N (mk a ((d + 1 : Nat) : Int)) (d + 1) = some b → (∃ c, N (mk a m) m = some c) →
      Calls Try.prog 41 #[.pointer (some ⟨b, 0, none⟩), .agg #[.int .u32 a, .int .i64 m], .int .i64 ((d : Int) + 1)] w fun e w' => ∃ N', e = .returned (.bool (goneB N' (delT L a m) (mk a ((d + 1 : Nat) : Int)) (d + 1))) ∧ DropS TRi NDi THi w w' B t r s N L a m (d + 1) N')
    (w : World) (B t r : Nat) (s : Int) (N : Int → Nat → Option Nat) (L : List TE) (b : Nat) (h : TrAt TRi NDi THi w B t r s N L) (hb : N (mk a d) d = some b) (hc : ∃ c, N (mk a m) m = some c) :
    Calls Try.prog 41 #[.pointer (some ⟨b, 0, none⟩), .agg #[.int .u32 a, .int .i64 m], .int .i64 d] w fun e w' => ∃ N', e = .returned (.bool (goneB N' (delT L a m) (mk a d) d)) ∧ DropS TRi NDi THi w w' B t r s N L a m d N' := by
  have HA := Lib.hid (newB w (.cells #[.int .u32 a, .int .i64 m] 32))
  have hX := Blk.new w 32 [.int .u32 a, .int .i64 m]
  obtain ⟨V, hV⟩ : ∃ V, w.alloc (.cells #[.int .u32 a, .int .i64 m] 32) = V := ⟨_, rfl⟩
  have hX : Blk V w.heap.size 32 [.int .u32 a, .int .i64 m] := hV ▸ hX
  rw [hV] at HA
  have hT := h.below HA.out
  obtain ⟨b', hb'⟩ : ∃ b', N (mk a ((d + 1 : Nat) : Int)) (d + 1) = some b' := by
    obtain ⟨c, hc⟩ := hc
    exact hT.upto a0 a1 hc hm (by omega)
  have p0 : V.cell? ⟨w.heap.size, 0, none⟩ = some (.int .u32 a) := hX.cell 0 (by simp)
  have p1 : V.cell? ⟨w.heap.size, 1, none⟩ = some (.int .i64 m) := hX.cell 1 (by simp)
  have P0 : V.drew.cell? ⟨w.heap.size, 0, none⟩ = some (.int .u32 a) := p0
  obtain ⟨hk, hf⟩ := hT.kidA a0 a1 (by omega) hb
  rw [hb', optP_some] at hk
  have HIH := Lib.hid (fun (q : Nat) => ih (V.drewN q) B t r s N L b' (hT.kept fun _ _ _ => rfl) hb' hc)
  have HBit := Lib.hid (fun (U : World) => (bit_any a d U a0 a1).mono fun e w' (h : _ ∧ _) => (⟨h.1, h.2.symm⟩ : e = .returned (.int .i64 (bitP a d)) ∧ w' = U))
  have HTB := Lib.hid (show TrAt TRi NDi THi V B t r s N L ∧ N (mk a d) d = some b from ⟨hT, hb⟩)
  have hlt : ((d : Int) == (m : Int)) = false := by simp; omega
  have d0 : (0 : Int) ≤ (d : Int) := by omega
  have dm : (d : Int) ≤ 31 := by omega
  clear hX hT h hb ih hc
  rcases bit_cases a d with hbit | hbit
  · have HBB := Lib.hid hbit
    rw [hbit] at HBit hk hf
    simp only [kid, Int.toNat_zero, Int.toNat_one, Nat.reduceAdd] at hk hf
    have HK := Lib.hid (show ∀ q : Nat, (V.drewN q).cell? ⟨b, 1, none⟩ = some (.pointer (some ⟨b', 0, none⟩)) ∧ (V.drewN q).cell? ⟨w.heap.size, 0, none⟩ = some (.int .u32 a) ∧ (V.drewN q).cell? ⟨w.heap.size, 1, none⟩ = some (.int .i64 m) from fun q => ⟨hk, p0, p1⟩)
    subst hV
    go_enter Try.func41, Try.ntmps41
    go_wp2_with fail
    go_quiet ((go_at_call 38; exact Calls.quiet_of_same (HBit.out _)))
    go_wp2_with fail
    go_still_tail 6, (by kernel_rfl)
    change wpStill _ _ ((w.alloc (.cells #[.int .u32 a, .int .i64 m] 32)).drewN (nq + 1)) (fun a' => wpList _ _ _ _ a' ((w.alloc (.cells #[.int .u32 a, .int .i64 m] 32)).drewN (nq + 1))) _ _
    have HI := Lib.hid (HIH.out (nq + 1))
    obtain ⟨hk, p0, p1⟩ := HK.out (nq + 1)
    have HUB := Lib.hid (show Below w.heap.size w ((w.alloc (.cells #[.int .u32 a, .int .i64 m] 32)).drewN (nq + 1)) from HA.out.trans (below_dN _ _ _))
    have HUT := Lib.hid (show TrAt TRi NDi THi ((w.alloc (.cells #[.int .u32 a, .int .i64 m] 32)).drewN (nq + 1)) B t r s N L from HTB.out.1.kept fun _ _ _ => rfl)
    obtain ⟨U, hU⟩ : ∃ U, (w.alloc (.cells #[.int .u32 a, .int .i64 m] 32)).drewN (nq + 1) = U := ⟨_, rfl⟩
    rw [hU] at HI hk p0 p1 HUB HUT ⊢
    have hsz : w.heap.size < U.heap.size := by rw [← hU]; show _ < (w.alloc _).heap.size; rw [sz_alloc]; omega
    clear hU HK hbit
    repeat still_step
    refine wpStill_nil ?_
    go_wp2_with fail
    refine HI.out.mono ?_
    rintro e w2 ⟨N1, rfl, hD⟩
    have hbU : N (mk a d) d = some b := HTB.out.2
    have HDU := Lib.hid hD
    clear hD hk p0 p1
    rcases hg : goneB N1 (delT L a m) (mk a ((d + 1 : Nat) : Int)) (d + 1) with _ | _
    · have hD2 := DropS.up HUT.out hd HDU.out
      have hb2 := hbU
      clear hbU hg
      obtain ⟨c0, c1, c2⟩ := hD2.look hb2
      have HD := Lib.hid (hD2.of_below HUB.out)
      obtain ⟨o1, h1⟩ : ∃ o, N1 (mk a d) (d + 1) = o := ⟨_, rfl⟩
      obtain ⟨o2, h2⟩ : ∃ o, N1 (mk a d + pw d) (d + 1) = o := ⟨_, rfl⟩
      obtain ⟨o, ho⟩ : ∃ o, atT (delT L a m) (mk a d) d = o := ⟨_, rfl⟩
      have hG : goneB (N1) (delT L a m) (mk a d) d = (o.isNone && (o1.isNone && o2.isNone)) := by unfold goneB; rw [h1, h2, ho]
      rw [h1] at c1
      rw [h2] at c2
      rw [ho] at c0
      have hE := fun (U : World) => arr_eql_int o1 o2 U
      obtain ⟨v1, hv1⟩ : ∃ v, optP o1 = v := ⟨_, rfl⟩
      obtain ⟨v2, hv2⟩ : ∃ v, optP o2 = v := ⟨_, rfl⟩
      obtain ⟨q, hq⟩ : ∃ q, (o1.isNone && o2.isNone) = q := ⟨_, rfl⟩
      rw [hv1, hv2, hq] at hE
      rw [hv1] at c1
      rw [hv2] at c2
      rw [hq] at hG
      have hEG := fun (op : BinOp) (x y : Operand) (xs ys : Array Value) (U : World) => arr_eqGuard_int op x y xs ys U
      clear hD2 hb2 h1 h2 ho hv1 hv2 hq
      rcases o with _ | x
      · change (w2).cell? ⟨b, 0, none⟩ = some (.pointer none) at c0
        have HG := Lib.hid hG
        clear hG
        go_wp2_with fail
        go_ret
        exact ⟨_, by rw [HG.out]; rfl, HD.out⟩
      · change (w2).cell? ⟨b, 0, none⟩ = some (.pointer (some ⟨x.g, 0, none⟩)) at c0
        obtain ⟨xg, hxg⟩ : ∃ g, x.g = g := ⟨_, rfl⟩
        rw [hxg] at c0
        have HG := Lib.hid hG
        clear hG hxg hE hEG
        go_wp2_with fail
        go_ret
        exact ⟨_, by rw [HG.out]; rfl, HD.out⟩
    · have hD2 := DropS.cut HUT.out a0 a1 hd hm hbU HDU.out hg
      rw [HBB.out] at hD2
      change DropS TRi NDi THi U (w2.setCell ⟨b, 1, none⟩ (.pointer none)) B t r s N L a m d _ at hD2
      have hb2 := hbU
      obtain ⟨N2, hN2⟩ : ∃ N2, upd N1 (mk a ((d + 1 : Nat) : Int)) (d + 1) none = N2 := ⟨_, rfl⟩
      rw [hN2] at hD2
      have hbn : N1 (mk a d) d = some b := by rw [HDU.out.keep _ _ (by omega)]; exact hbU
      have f0 : w2.frozen? ⟨b, 1, none⟩ = false := (HDU.out.tr.node _ _ _ hbn).f 1
      have k0 : ∃ v, w2.cell? ⟨b, 1, none⟩ = some v := ⟨_, (HDU.out.tr.node _ _ _ hbn).cell 1 (by simp)⟩
      obtain ⟨v0, k0⟩ := k0
      clear hbU hg hbn hN2
      obtain ⟨c0, c1, c2⟩ := hD2.look hb2
      have HD := Lib.hid (hD2.of_below HUB.out)
      obtain ⟨o1, h1⟩ : ∃ o, N2 (mk a d) (d + 1) = o := ⟨_, rfl⟩
      obtain ⟨o2, h2⟩ : ∃ o, N2 (mk a d + pw d) (d + 1) = o := ⟨_, rfl⟩
      obtain ⟨o, ho⟩ : ∃ o, atT (delT L a m) (mk a d) d = o := ⟨_, rfl⟩
      have hG : goneB (N2) (delT L a m) (mk a d) d = (o.isNone && (o1.isNone && o2.isNone)) := by unfold goneB; rw [h1, h2, ho]
      rw [h1] at c1
      rw [h2] at c2
      rw [ho] at c0
      have hE := fun (U : World) => arr_eql_int o1 o2 U
      obtain ⟨v1, hv1⟩ : ∃ v, optP o1 = v := ⟨_, rfl⟩
      obtain ⟨v2, hv2⟩ : ∃ v, optP o2 = v := ⟨_, rfl⟩
      obtain ⟨q, hq⟩ : ∃ q, (o1.isNone && o2.isNone) = q := ⟨_, rfl⟩
      rw [hv1, hv2, hq] at hE
      rw [hv1] at c1
      rw [hv2] at c2
      rw [hq] at hG
      have hEG := fun (op : BinOp) (x y : Operand) (xs ys : Array Value) (U : World) => arr_eqGuard_int op x y xs ys U
      clear hD2 hb2 h1 h2 ho hv1 hv2 hq
      rcases o with _ | x
      · change (w2.setCell ⟨b, 1, none⟩ (.pointer none)).cell? ⟨b, 0, none⟩ = some (.pointer none) at c0
        have HG := Lib.hid hG
        clear hG
        go_wp2_with fail
        go_ret
        exact ⟨_, by rw [HG.out]; rfl, HD.out⟩
      · change (w2.setCell ⟨b, 1, none⟩ (.pointer none)).cell? ⟨b, 0, none⟩ = some (.pointer (some ⟨x.g, 0, none⟩)) at c0
        obtain ⟨xg, hxg⟩ : ∃ g, x.g = g := ⟨_, rfl⟩
        rw [hxg] at c0
        have HG := Lib.hid hG
        clear hG hxg hE hEG
        go_wp2_with fail
        go_ret
        exact ⟨_, by rw [HG.out]; rfl, HD.out⟩
  · have HBB := Lib.hid hbit
    rw [hbit] at HBit hk hf
    simp only [kid, Int.toNat_zero, Int.toNat_one, Nat.reduceAdd] at hk hf
    have HK := Lib.hid (show ∀ q : Nat, (V.drewN q).cell? ⟨b, 2, none⟩ = some (.pointer (some ⟨b', 0, none⟩)) ∧ (V.drewN q).cell? ⟨w.heap.size, 0, none⟩ = some (.int .u32 a) ∧ (V.drewN q).cell? ⟨w.heap.size, 1, none⟩ = some (.int .i64 m) from fun q => ⟨hk, p0, p1⟩)
    subst hV
    go_enter Try.func41, Try.ntmps41
    go_wp2_with fail
    go_quiet ((go_at_call 38; exact Calls.quiet_of_same (HBit.out _)))
    go_wp2_with fail
    go_still_tail 6, (by kernel_rfl)
    change wpStill _ _ ((w.alloc (.cells #[.int .u32 a, .int .i64 m] 32)).drewN (nq + 1)) (fun a' => wpList _ _ _ _ a' ((w.alloc (.cells #[.int .u32 a, .int .i64 m] 32)).drewN (nq + 1))) _ _
    have HI := Lib.hid (HIH.out (nq + 1))
    obtain ⟨hk, p0, p1⟩ := HK.out (nq + 1)
    have HUB := Lib.hid (show Below w.heap.size w ((w.alloc (.cells #[.int .u32 a, .int .i64 m] 32)).drewN (nq + 1)) from HA.out.trans (below_dN _ _ _))
    have HUT := Lib.hid (show TrAt TRi NDi THi ((w.alloc (.cells #[.int .u32 a, .int .i64 m] 32)).drewN (nq + 1)) B t r s N L from HTB.out.1.kept fun _ _ _ => rfl)
    obtain ⟨U, hU⟩ : ∃ U, (w.alloc (.cells #[.int .u32 a, .int .i64 m] 32)).drewN (nq + 1) = U := ⟨_, rfl⟩
    rw [hU] at HI hk p0 p1 HUB HUT ⊢
    have hsz : w.heap.size < U.heap.size := by rw [← hU]; show _ < (w.alloc _).heap.size; rw [sz_alloc]; omega
    clear hU HK hbit
    repeat still_step
    refine wpStill_nil ?_
    go_wp2_with fail
    refine HI.out.mono ?_
    rintro e w2 ⟨N1, rfl, hD⟩
    have hbU : N (mk a d) d = some b := HTB.out.2
    have HDU := Lib.hid hD
    clear hD hk p0 p1
    rcases hg : goneB N1 (delT L a m) (mk a ((d + 1 : Nat) : Int)) (d + 1) with _ | _
    · have hD2 := DropS.up HUT.out hd HDU.out
      have hb2 := hbU
      clear hbU hg
      obtain ⟨c0, c1, c2⟩ := hD2.look hb2
      have HD := Lib.hid (hD2.of_below HUB.out)
      obtain ⟨o1, h1⟩ : ∃ o, N1 (mk a d) (d + 1) = o := ⟨_, rfl⟩
      obtain ⟨o2, h2⟩ : ∃ o, N1 (mk a d + pw d) (d + 1) = o := ⟨_, rfl⟩
      obtain ⟨o, ho⟩ : ∃ o, atT (delT L a m) (mk a d) d = o := ⟨_, rfl⟩
      have hG : goneB (N1) (delT L a m) (mk a d) d = (o.isNone && (o1.isNone && o2.isNone)) := by unfold goneB; rw [h1, h2, ho]
      rw [h1] at c1
      rw [h2] at c2
      rw [ho] at c0
      have hE := fun (U : World) => arr_eql_int o1 o2 U
      obtain ⟨v1, hv1⟩ : ∃ v, optP o1 = v := ⟨_, rfl⟩
      obtain ⟨v2, hv2⟩ : ∃ v, optP o2 = v := ⟨_, rfl⟩
      obtain ⟨q, hq⟩ : ∃ q, (o1.isNone && o2.isNone) = q := ⟨_, rfl⟩
      rw [hv1, hv2, hq] at hE
      rw [hv1] at c1
      rw [hv2] at c2
      rw [hq] at hG
      have hEG := fun (op : BinOp) (x y : Operand) (xs ys : Array Value) (U : World) => arr_eqGuard_int op x y xs ys U
      clear hD2 hb2 h1 h2 ho hv1 hv2 hq
      rcases o with _ | x
      · change (w2).cell? ⟨b, 0, none⟩ = some (.pointer none) at c0
        have HG := Lib.hid hG
        clear hG
        go_wp2_with fail
        go_ret
        exact ⟨_, by rw [HG.out]; rfl, HD.out⟩
      · change (w2).cell? ⟨b, 0, none⟩ = some (.pointer (some ⟨x.g, 0, none⟩)) at c0
        obtain ⟨xg, hxg⟩ : ∃ g, x.g = g := ⟨_, rfl⟩
        rw [hxg] at c0
        have HG := Lib.hid hG
        clear hG hxg hE hEG
        go_wp2_with fail
        go_ret
        exact ⟨_, by rw [HG.out]; rfl, HD.out⟩
    · have hD2 := DropS.cut HUT.out a0 a1 hd hm hbU HDU.out hg
      rw [HBB.out] at hD2
      change DropS TRi NDi THi U (w2.setCell ⟨b, 2, none⟩ (.pointer none)) B t r s N L a m d _ at hD2
      have hb2 := hbU
      obtain ⟨N2, hN2⟩ : ∃ N2, upd N1 (mk a ((d + 1 : Nat) : Int)) (d + 1) none = N2 := ⟨_, rfl⟩
      rw [hN2] at hD2
      have hbn : N1 (mk a d) d = some b := by rw [HDU.out.keep _ _ (by omega)]; exact hbU
      have f0 : w2.frozen? ⟨b, 2, none⟩ = false := (HDU.out.tr.node _ _ _ hbn).f 2
      have k0 : ∃ v, w2.cell? ⟨b, 2, none⟩ = some v := ⟨_, (HDU.out.tr.node _ _ _ hbn).cell 2 (by simp)⟩
      obtain ⟨v0, k0⟩ := k0
      clear hbU hg hbn hN2
      obtain ⟨c0, c1, c2⟩ := hD2.look hb2
      have HD := Lib.hid (hD2.of_below HUB.out)
      obtain ⟨o1, h1⟩ : ∃ o, N2 (mk a d) (d + 1) = o := ⟨_, rfl⟩
      obtain ⟨o2, h2⟩ : ∃ o, N2 (mk a d + pw d) (d + 1) = o := ⟨_, rfl⟩
      obtain ⟨o, ho⟩ : ∃ o, atT (delT L a m) (mk a d) d = o := ⟨_, rfl⟩
      have hG : goneB (N2) (delT L a m) (mk a d) d = (o.isNone && (o1.isNone && o2.isNone)) := by unfold goneB; rw [h1, h2, ho]
      rw [h1] at c1
      rw [h2] at c2
      rw [ho] at c0
      have hE := fun (U : World) => arr_eql_int o1 o2 U
      obtain ⟨v1, hv1⟩ : ∃ v, optP o1 = v := ⟨_, rfl⟩
      obtain ⟨v2, hv2⟩ : ∃ v, optP o2 = v := ⟨_, rfl⟩
      obtain ⟨q, hq⟩ : ∃ q, (o1.isNone && o2.isNone) = q := ⟨_, rfl⟩
      rw [hv1, hv2, hq] at hE
      rw [hv1] at c1
      rw [hv2] at c2
      rw [hq] at hG
      have hEG := fun (op : BinOp) (x y : Operand) (xs ys : Array Value) (U : World) => arr_eqGuard_int op x y xs ys U
      clear hD2 hb2 h1 h2 ho hv1 hv2 hq
      rcases o with _ | x
      · change (w2.setCell ⟨b, 2, none⟩ (.pointer none)).cell? ⟨b, 0, none⟩ = some (.pointer none) at c0
        have HG := Lib.hid hG
        clear hG
        go_wp2_with fail
        go_ret
        exact ⟨_, by rw [HG.out]; rfl, HD.out⟩
      · change (w2.setCell ⟨b, 2, none⟩ (.pointer none)).cell? ⟨b, 0, none⟩ = some (.pointer (some ⟨x.g, 0, none⟩)) at c0
        obtain ⟨xg, hxg⟩ : ∃ g, x.g = g := ⟨_, rfl⟩
        rw [hxg] at c0
        have HG := Lib.hid hG
        clear hG hxg hE hEG
        go_wp2_with fail
        go_ret
        exact ⟨_, by rw [HG.out]; rfl, HD.out⟩
end Go.Proofs.Ytipecocalmmmbaa
