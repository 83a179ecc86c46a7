/- update: Same of what is the same; the document's. / update: the document's Same of what is the same. / update: what must come of every program, in numbers. -/
import Derived.Test.YtpeagakpmjnelaaDoorUpC
import Derived.Test.YtpeagakpmjnelaaDoorUqB
import Derived.Test.YtpeagakpmjnelaaDoorAI
import Derived.KernelRfl
namespace Go.Proofs.YtpeagakpmjnelaaDoor.Ax
open Go.RowKit
set_option maxRecDepth 100000
set_option linter.unusedVariables false
set_option linter.unusedSimpArgs false

set_option maxHeartbeats 2000000 in
theorem equalNl_yes (p q : Option Addr) (l : List Nl) (n c d : Nat) (w : World) (h1 : NlsAt w p l) (h2 : NlsAt w q l) (hn : l.length = n) (hm : n ≤ maxLen) :
    Calls Tryd.prog 53 #[.slice p n c, .slice q n d] w fun e w' => e = .returned (.bool true) ∧ Below w.heap.size w w' := by
  unfold maxLen at hm
  have H1 := Lib.hid h1
  have H2 := Lib.hid h2
  have HN := Lib.hid hn
  clear h1 h2 hn
  go_enter Tryd.func53, Tryd.ntmps53
  go_wp2_with fail
  go_loopw [13] (fun i wr => ∃ k : Nat, k ≤ n ∧ i = .int .i64 k ∧ Below w.heap.size w wr) (fun i _ => n - (intOf i).toNat)
  case atStart => exact ⟨0, Nat.zero_le _, rfl, Below.refl _ _⟩
  case round =>
    obtain ⟨k, hk, rfl, hB⟩ := hrel
    have HB := Lib.hid hB
    clear hB
    by_cases hlt : k < n
    · obtain ⟨b, off, rfl, ⟨c0, c1, c2⟩, _⟩ := nl_cell (H1.out.below HB.out) HN.out hlt
      obtain ⟨b2, off2, rfl, ⟨d0, d1, d2⟩, _⟩ := nl_cell (H2.out.below HB.out) HN.out hlt
      obtain ⟨x, hx⟩ : ∃ x, l.getD k Nl.none = x := ⟨_, rfl⟩
      rw [hx] at c0 c1 c2 d0 d1 d2
      obtain ⟨id, a, ln⟩ := x
      simp only at c0 c1 c2 d0 d1 d2
      have hg := nl_eqGuard
      have hq := nl_neq id a ln id a ln
      have hz : (!(id == id && (a == a && ln == ln))) = false := by simp
      rw [hz] at hq
      clear hx hz
      have hS : wr.drew.cell? ⟨b, off + k * 3, none⟩ = some (.int .i64 id) ∧ wr.drew.cell? ⟨b, off + k * 3 + 1, none⟩ = some (.int .u32 a) ∧ wr.drew.cell? ⟨b, off + k * 3 + 2, none⟩ = some (.int .i64 ln) ∧ wr.drew.cell? ⟨b2, off2 + k * 3, none⟩ = some (.int .i64 id) ∧ wr.drew.cell? ⟨b2, off2 + k * 3 + 1, none⟩ = some (.int .u32 a) ∧ wr.drew.cell? ⟨b2, off2 + k * 3 + 2, none⟩ = some (.int .i64 ln) := ⟨c0, c1, c2, d0, d1, d2⟩
      go_wp2_with fail
      clear c0 c1 c2 d0 d1 d2
      go_region_held (fun w' => w'.cell? ⟨b, off + k * 3, none⟩ = some (.int .i64 id) ∧ w'.cell? ⟨b, off + k * 3 + 1, none⟩ = some (.int .u32 a) ∧ w'.cell? ⟨b, off + k * 3 + 2, none⟩ = some (.int .i64 ln) ∧ w'.cell? ⟨b2, off2 + k * 3, none⟩ = some (.int .i64 id) ∧ w'.cell? ⟨b2, off2 + k * 3 + 1, none⟩ = some (.int .u32 a) ∧ w'.cell? ⟨b2, off2 + k * 3 + 2, none⟩ = some (.int .i64 ln)) (with_reducible assumption) (fail)
      go_wp2_with fail
      go_roundw
      case rel => exact ⟨k + 1, by omega, by go_num, HB.out.drew⟩
      case measure => simp [intOf]; omega
    · obtain rfl : k = n := by omega
      go_wp2
      go_ret
      exact ⟨rfl, HB.out⟩
set_option maxHeartbeats 8000000 in
theorem sameU_yes (u : Upd) (l m : ULoc) (w : World) (h1 : UpAt w u l) (h2 : UpAt w u m) :
    Calls Tryd.prog 26 #[.agg (updL u l).toArray, .agg (updL u m).toArray] w fun e w' => e = .returned (.bool true) ∧ Below w.heap.size w w' := by
  obtain ⟨W, hW⟩ : ∃ W, (w.alloc (.cells (updL u l).toArray 29)).alloc (.cells (updL u m).toArray 29) = W := ⟨_, rfl⟩
  obtain ⟨P, hP⟩ : ∃ P, w.heap.size = P := ⟨_, rfl⟩
  have hb : Below w.heap.size w W := by rw [← hW]; exact two_below _ _ _
  have K1 : Blk W P 29 (updL u l) := by rw [← hW, ← hP]; exact (Blk.new w 29 (updL u l)).alloc _
  have K2 : Blk W (P + 1) 29 (updL u m) := by rw [← hW, ← hP, ← sz_alloc w (.cells (updL u l).toArray 29)]; exact Blk.new _ 29 (updL u m)
  have HK1 := Lib.hid K1
  have HK2 := Lib.hid K2
  have hgn : m.gn = l.gn := h2.gn.symm.trans h1.gn
  have hrn : m.rn = l.rn := h2.rn.symm.trans h1.rn
  have HG := Lib.hid (fun (U : World) (hU : Below W.heap.size W U) => equalNl_yes l.gp m.gp u.gone l.gn l.gc m.gc U ((h1.gone.below hb).below hU) ((h2.gone.below hb).below hU) h1.gn (Nat.le_trans h1.gc h1.gm))
  have HR := Lib.hid (fun (U : World) (hU : Below W.heap.size W U) => equalNl_yes l.rp m.rp u.come l.rn l.rc m.rc U ((h1.come.below hb).below hU) ((h2.come.below hb).below hU) h1.rn (Nat.le_trans h1.rc h1.rm))
  have HSA := Lib.hid (fun (U : World) (hU : Below W.heap.size W U) => sameA_yes u.a l.l m.l U ((h1.at_.below hb).below hU) ((h2.at_.below hb).below hU))
  have hpn : m.l.pn = l.l.pn := h2.at_.pn.symm.trans h1.at_.pn
  have hcn : m.l.cn = l.l.cn := h2.at_.cn.symm.trans h1.at_.cn
  have HB := Lib.hid hb
  have HW := Lib.hid hW
  have HP := Lib.hid hP
  obtain ⟨gone, come, ⟨origin, path, next, med, pref, comms⟩, soft⟩ := u
  obtain ⟨gp, gn, gc, rp, rn, rc, ⟨pp, pn, pc, cp, cn, cc⟩⟩ := l
  obtain ⟨gp2, gn2, gc2, rp2, rn2, rc2, ⟨pp2, pn2, pc2, cp2, cn2, cc2⟩⟩ := m
  simp only [updL, atL, List.cons_append, List.nil_append] at *
  subst hgn hrn hpn hcn
  clear h1 h2 hW hP hb K1 K2
  have HC := Lib.hid (fun (U : World) (hU : Below W.heap.size W U) => And.intro (HK1.out.next hU) (HK2.out.next hU))
  have a0 := HK1.out.cell 0 (by simp)
  have a8 := HK1.out.cell 8 (by simp)
  have b0 := HK2.out.cell 0 (by simp)
  have b8 := HK2.out.cell 8 (by simp)
  rcases soft with _ | _
  all_goals
    go_enter Tryd.func26, Tryd.ntmps26
    rw [← HW.out] at a0 a8 b0 b8
    rw [← HP.out] at a0 a8 b0 b8
    go_wp2_with fail
    rw [HW.out, HP.out]
    refine (HG.out W (Below.refl _ _)).mono ?_
    rintro e w1 ⟨rfl, hb⟩
    have HB1 := Lib.hid hb
    have a1 := (HC.out w1 hb).1.cell 1 (by simp)
    have b1 := (HC.out w1 hb).2.cell 1 (by simp)
    clear hb a0 a8 b0 b8
    go_wp2_with fail
    refine (HR.out w1 HB1.out).mono ?_
    rintro e w2 ⟨rfl, hb⟩
    have hb := HB1.out.trans (hb.mono HB1.out.size)
    have HB2 := Lib.hid hb
    have a2 := (HC.out w2 hb).1.cell 2 (by simp)
    have a3 := (HC.out w2 hb).1.cell 3 (by simp)
    have a4 := (HC.out w2 hb).1.cell 4 (by simp)
    have a5 := (HC.out w2 hb).1.cell 5 (by simp)
    have a6 := (HC.out w2 hb).1.cell 6 (by simp)
    have a7 := (HC.out w2 hb).1.cell 7 (by simp)
    have b2 := (HC.out w2 hb).2.cell 2 (by simp)
    have b3 := (HC.out w2 hb).2.cell 3 (by simp)
    have b4 := (HC.out w2 hb).2.cell 4 (by simp)
    have b5 := (HC.out w2 hb).2.cell 5 (by simp)
    have b6 := (HC.out w2 hb).2.cell 6 (by simp)
    have b7 := (HC.out w2 hb).2.cell 7 (by simp)
    clear hb a1 b1
    go_wp2_with fail
    refine (HSA.out w2 HB2.out).mono ?_
    rintro e w3 ⟨rfl, hb⟩
    have HB3 := Lib.hid (HB.out.trans ((HB2.out.trans (hb.mono HB2.out.size)).mono HB.out.size))
    clear hb a2 a3 a4 a5 a6 a7 b2 b3 b4 b5 b6 b7
    go_wp2_with fail
    go_ret
    exact ⟨rfl, HB3.out⟩
end Go.Proofs.YtpeagakpmjnelaaDoor.Ax
namespace Go.Proofs.YtpeagakpmjnelaaDoor.Ax
open Go.RowKit
set_option maxRecDepth 100000
set_option linter.unusedVariables false
set_option linter.unusedSimpArgs false

set_option maxHeartbeats 8000000 in
theorem rsameU_yes (u : Upd) (l m : ULoc) (w : World) (h1 : UpAt w u l) (h2 : UpAt w u m) :
    Calls Tryd.prog 14 #[.agg (updL u l).toArray, .agg (updL u m).toArray] w fun e w' => e = .returned (.bool true) ∧ Below w.heap.size w w' := by
  obtain ⟨W, hW⟩ : ∃ W, (w.alloc (.cells (updL u l).toArray 29)).alloc (.cells (updL u m).toArray 29) = W := ⟨_, rfl⟩
  obtain ⟨P, hP⟩ : ∃ P, w.heap.size = P := ⟨_, rfl⟩
  have hb : Below w.heap.size w W := by rw [← hW]; exact two_below _ _ _
  have K1 : Blk W P 29 (updL u l) := by rw [← hW, ← hP]; exact (Blk.new w 29 (updL u l)).alloc _
  have K2 : Blk W (P + 1) 29 (updL u m) := by rw [← hW, ← hP, ← sz_alloc w (.cells (updL u l).toArray 29)]; exact Blk.new _ 29 (updL u m)
  have HK1 := Lib.hid K1
  have HK2 := Lib.hid K2
  have hgn : m.gn = l.gn := h2.gn.symm.trans h1.gn
  have hrn : m.rn = l.rn := h2.rn.symm.trans h1.rn
  have HG := Lib.hid (fun (U : World) (hU : Below W.heap.size W U) => rsameNl_yes l.gp m.gp u.gone l.gn l.gc m.gc U ((h1.gone.below hb).below hU) ((h2.gone.below hb).below hU) h1.gn (Nat.le_trans h1.gc h1.gm))
  have HR := Lib.hid (fun (U : World) (hU : Below W.heap.size W U) => rsameNl_yes l.rp m.rp u.come l.rn l.rc m.rc U ((h1.come.below hb).below hU) ((h2.come.below hb).below hU) h1.rn (Nat.le_trans h1.rc h1.rm))
  have HSA := Lib.hid (fun (U : World) (hU : Below W.heap.size W U) => rsame_yes u.a l.l m.l U ((h1.at_.below hb).below hU) ((h2.at_.below hb).below hU))
  have hpn : m.l.pn = l.l.pn := h2.at_.pn.symm.trans h1.at_.pn
  have hcn : m.l.cn = l.l.cn := h2.at_.cn.symm.trans h1.at_.cn
  have HB := Lib.hid hb
  have HW := Lib.hid hW
  have HP := Lib.hid hP
  obtain ⟨gone, come, ⟨origin, path, next, med, pref, comms⟩, soft⟩ := u
  obtain ⟨gp, gn, gc, rp, rn, rc, ⟨pp, pn, pc, cp, cn, cc⟩⟩ := l
  obtain ⟨gp2, gn2, gc2, rp2, rn2, rc2, ⟨pp2, pn2, pc2, cp2, cn2, cc2⟩⟩ := m
  simp only [updL, atL, List.cons_append, List.nil_append] at *
  subst hgn hrn hpn hcn
  clear h1 h2 hW hP hb K1 K2
  have HC := Lib.hid (fun (U : World) (hU : Below W.heap.size W U) => And.intro (HK1.out.next hU) (HK2.out.next hU))
  have a0 := HK1.out.cell 0 (by simp)
  have a8 := HK1.out.cell 8 (by simp)
  have b0 := HK2.out.cell 0 (by simp)
  have b8 := HK2.out.cell 8 (by simp)
  rcases soft with _ | _
  all_goals
    go_enter Tryd.func14, Tryd.ntmps14
    rw [← HW.out] at a0 a8 b0 b8
    rw [← HP.out] at a0 a8 b0 b8
    go_wp2_with fail
    rw [HW.out, HP.out]
    refine (HG.out W (Below.refl _ _)).mono ?_
    rintro e w1 ⟨rfl, hb⟩
    have HB1 := Lib.hid hb
    have a1 := (HC.out w1 hb).1.cell 1 (by simp)
    have b1 := (HC.out w1 hb).2.cell 1 (by simp)
    clear hb a0 a8 b0 b8
    go_wp2_with fail
    refine (HR.out w1 HB1.out).mono ?_
    rintro e w2 ⟨rfl, hb⟩
    have hb := HB1.out.trans (hb.mono HB1.out.size)
    have HB2 := Lib.hid hb
    have a2 := (HC.out w2 hb).1.cell 2 (by simp)
    have a3 := (HC.out w2 hb).1.cell 3 (by simp)
    have a4 := (HC.out w2 hb).1.cell 4 (by simp)
    have a5 := (HC.out w2 hb).1.cell 5 (by simp)
    have a6 := (HC.out w2 hb).1.cell 6 (by simp)
    have a7 := (HC.out w2 hb).1.cell 7 (by simp)
    have b2 := (HC.out w2 hb).2.cell 2 (by simp)
    have b3 := (HC.out w2 hb).2.cell 3 (by simp)
    have b4 := (HC.out w2 hb).2.cell 4 (by simp)
    have b5 := (HC.out w2 hb).2.cell 5 (by simp)
    have b6 := (HC.out w2 hb).2.cell 6 (by simp)
    have b7 := (HC.out w2 hb).2.cell 7 (by simp)
    clear hb a1 b1
    go_wp2_with fail
    refine (HSA.out w2 HB2.out).mono ?_
    rintro e w3 ⟨rfl, hb⟩
    have HB3 := Lib.hid (HB.out.trans ((HB2.out.trans (hb.mono HB2.out.size)).mono HB.out.size))
    clear hb a2 a3 a4 a5 a6 a7 b2 b3 b4 b5 b6 b7
    go_wp2_with fail
    go_ret
    exact ⟨rfl, HB3.out⟩
end Go.Proofs.YtpeagakpmjnelaaDoor.Ax
namespace Go.Proofs.YtpeagakpmjnelaaDoor.Ax
open Go.RowKit
set_option maxRecDepth 100000
set_option linter.unusedVariables false
set_option linter.unusedSimpArgs false

def lvX : Nl := ⟨0, 167772160, 8⟩
def lvW : At := ⟨0, [], 1, -1, 200, []⟩
def lvU : Upd := ⟨[lvX], [lvX], lvW, false⟩
def lvT : Upd := ⟨[lvX], [], At.zero, true⟩
theorem lv_ok : okU lvU true false = true := by decide +kernel
theorem lv_got : getU (bodyL lvU true false) true false = (lvU, 0, 0) := by kernel_rfl
theorem lv_zok : okU Upd.zero true true = true := by decide +kernel
theorem lv_zero : bodyL Upd.zero true true = [0, 0, 0, 0] := by decide +kernel
theorem lv_cut : getU [0, 1] true true = (Upd.zero, 3, 1) := by kernel_rfl
theorem lv_soft : getU [0, 0, 0, 0, 8, 10] true false = (lvT, 0, 0) := by kernel_rfl
theorem lv_odd : getU [0, 1, 33, 0, 0] true false = (Upd.zero, 3, 10) := by kernel_rfl
theorem lv_size : 0 < sizeN lvX false := by decide +kernel
theorem lv_fit : fitV 1 (4073 - (putA lvW true).length) (sizeN lvX false) = 1 := by decide +kernel
theorem lv_okA : okA lvW true = true := by decide +kernel
theorem lv_no : okU lvT true false = false := by decide +kernel
theorem lv_len : (bodyL lvU true false).length = 29 := by decide +kernel
end Go.Proofs.YtpeagakpmjnelaaDoor.Ax
