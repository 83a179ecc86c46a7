/- update: told. -/
import Derived.Test.YtpeagakpmjnelaaDoorUpB
namespace Go.Proofs.YtpeagakpmjnelaaDoor.Ax
open Go.RowKit
set_option maxRecDepth 100000
set_option linter.unusedVariables false
set_option linter.unusedSimpArgs false

def toldU (goes comes : List Nl) (r : At × Int) : Upd := if comes.length = 0 then ⟨goes, [], At.zero, false⟩ else if r.2 = 1 then ⟨goes, comes, r.1, false⟩ else ⟨goes ++ comes, [], At.zero, true⟩
def Loc.zero : Loc := ⟨none, 0, 0, none, 0, 0⟩
/-- An update that comes back. -/
def UTo (w w' : World) (e : Ending) (u : Upd) : Prop := ∃ ul, e = .returned (.agg (updL u ul).toArray) ∧ UOwn w' u ul ∧ Below w.heap.size w w'
set_option maxHeartbeats 8000000 in
theorem told_any (gp : Option Addr) (goes : List Nl) (gn gc B1 : Nat) (rp : Option Addr) (comes : List Nl) (rn rc B2 : Nat) (sp : Option Addr) (said : List Int) (sn sc : Nat) (four : Bool) (w : World) (ht : Tab w)
    (hg : NlsOwn w B1 gp gn gc goes) (hr : NlsOwn w B2 rp rn rc comes) (hs : BytesAt w sp said) (hsn : said.length = sn) (hsl : sn ≤ 1000000) (hg1 : gn ≤ 100000) (hr1 : rn ≤ 100000) :
    Calls Tryd.prog 38 #[.slice gp gn gc, .slice rp rn rc, .slice sp sn sc, .bool four] w fun e w' => UTo w w' e (toldU goes comes (getA said four)) := by
  have HG := Lib.hid hg
  have HR := Lib.hid hr
  have HGA := Lib.hid (fun (U : World) (hU : Below w.heap.size w U) => getO_any four sp said sn sc U (ht.below hU) (hs.below hU) hsn hsl)
  have HTU := Lib.hid (show toldU goes comes (getA said four) = if rn = 0 then ⟨goes, [], At.zero, false⟩ else if (getA said four).2 = 1 then ⟨goes, comes, (getA said four).1, false⟩ else ⟨goes ++ comes, [], At.zero, true⟩ by unfold toldU; rw [hr.len])
  obtain ⟨⟨a, ver⟩, hga⟩ : ∃ r, getA said four = r := ⟨_, rfl⟩
  rw [hga] at HGA HTU
  obtain ⟨R, hR⟩ : ∃ R, toldU goes comes (getA said four) = R := ⟨_, rfl⟩
  rw [hga] at hR ⊢
  rw [hR] at HTU ⊢
  have hgc := hg.cap
  clear hg hr hs hsn hga hR ht
  go_enter Tryd.func38, Tryd.ntmps38
  by_cases h0 : rn = 0
  · subst h0
    rw [if_pos rfl] at HTU
    have HX := Lib.hid (Blk.new w 29 [.slice gp gn gc, .slice none 0 0, .int .i64 0, .slice none 0 0, .int .u32 0, .int .i64 0, .int .i64 0, .slice none 0 0, .bool false])
    have HB := Lib.hid (newB w (.cells #[.slice gp gn gc, .slice none 0 0, .int .i64 0, .slice none 0 0, .int .u32 0, .int .i64 0, .int .i64 0, .slice none 0 0, .bool false] 29))
    go_wp2_with fail
    have x0 := HX.out.cell 0 (by simp)
    have x1 := HX.out.cell 1 (by simp)
    have x2 := HX.out.cell 2 (by simp)
    have x3 := HX.out.cell 3 (by simp)
    have x4 := HX.out.cell 4 (by simp)
    have x5 := HX.out.cell 5 (by simp)
    have x6 := HX.out.cell 6 (by simp)
    have x7 := HX.out.cell 7 (by simp)
    have x8 := HX.out.cell 8 (by simp)
    exact bodyPost_ret (v := .agg #[.slice gp gn gc, .slice none 0 0, .int .i64 0, .slice none 0 0, .int .u32 0, .int .i64 0, .int .i64 0, .slice none 0 0, .bool false]) (by simp [results, Tryd.results38, go_sem, x0, x1, x2, x3, x4, x5, x6, x7, x8]) rfl ⟨⟨gp, gn, gc, none, 0, 0, Loc.zero⟩, by rw [HTU.out]; rfl, by rw [HTU.out]; exact ⟨⟨_, HG.out.below HB.out⟩, ⟨0, NlsOwn.nil _ _⟩, 0, zeroOwn _ _⟩, HB.out⟩
  · have hr0 : ((rn : Int) == 0) = false := by simp; omega
    rw [if_neg h0] at HTU
    have HX := Lib.hid (Blk.new w 29 [.slice none 0 0, .slice none 0 0, .int .i64 0, .slice none 0 0, .int .u32 0, .int .i64 0, .int .i64 0, .slice none 0 0, .bool false])
    have hb := newB w (.cells #[.slice none 0 0, .slice none 0 0, .int .i64 0, .slice none 0 0, .int .u32 0, .int .i64 0, .int .i64 0, .slice none 0 0, .bool false] 29)
    obtain ⟨V, hV⟩ : ∃ V, w.alloc (.cells #[.slice none 0 0, .slice none 0 0, .int .i64 0, .slice none 0 0, .int .u32 0, .int .i64 0, .int .i64 0, .slice none 0 0, .bool false] 29) = V := ⟨_, rfl⟩
    obtain ⟨P, hP⟩ : ∃ P, w.heap.size = P := ⟨_, rfl⟩
    rw [hV] at hb
    have HX : Hid (Blk V P 29 [.slice none 0 0, .slice none 0 0, .int .i64 0, .slice none 0 0, .int .u32 0, .int .i64 0, .int .i64 0, .slice none 0 0, .bool false]) := hV ▸ hP ▸ HX
    have HB := Lib.hid hb
    have HV := Lib.hid hV
    have HP := Lib.hid hP
    clear hb hV hP
    go_wp2_with fail
    rw [HV.out, HP.out]
    refine (HGA.out V HB.out).mono ?_
    rintro e w2 ⟨l, Ba, rfl, ha, hb⟩
    have HA := Lib.hid ha
    have HB2 := Lib.hid (HB.out.trans (hb.mono HB.out.size))
    have HX2 := Lib.hid (HX.out.next hb)
    clear ha hb
    obtain ⟨origin, path, next, med, pref, comms⟩ := a
    obtain ⟨pp, pn, pc, cp, cn, cc⟩ := l
    simp only [atL] at *
    have HX3 := Lib.hid (HX2.out.alloc (.cells #[.int .i64 origin, .slice pp pn pc, .int .u32 next, .int .i64 med, .int .i64 pref, .slice cp cn cc] 27))
    have HB3 := Lib.hid (HB2.out.alloc HB2.out.size (.cells #[.int .i64 origin, .slice pp pn pc, .int .u32 next, .int .i64 med, .int .i64 pref, .slice cp cn cc] 27))
    have HA3 := Lib.hid (HA.out.below (newB w2 (.cells #[.int .i64 origin, .slice pp pn pc, .int .u32 next, .int .i64 med, .int .i64 pref, .slice cp cn cc] 27)))
    obtain ⟨q, hqq⟩ : ∃ q, w2.heap.size = q := ⟨_, rfl⟩
    have e0 := (Blk.new w2 27 [.int .i64 origin, .slice pp pn pc, .int .u32 next, .int .i64 med, .int .i64 pref, .slice cp cn cc])
    have b0 := e0.cell 0 (by simp)
    have b1 := e0.cell 1 (by simp)
    have b2 := e0.cell 2 (by simp)
    have b3 := e0.cell 3 (by simp)
    have b4 := e0.cell 4 (by simp)
    have b5 := e0.cell 5 (by simp)
    clear e0 hqq
    by_cases hv : ver = 1
    · subst hv
      rw [if_pos rfl] at HTU
      have p0 : (w2.alloc (.cells #[.int .i64 origin, .slice pp pn pc, .int .u32 next, .int .i64 med, .int .i64 pref, .slice cp cn cc] 27)).cell? ⟨P, 0, none⟩ = some (.slice none 0 0) := HX3.out.cell 0 (by simp)
      have p1 : (w2.alloc (.cells #[.int .i64 origin, .slice pp pn pc, .int .u32 next, .int .i64 med, .int .i64 pref, .slice cp cn cc] 27)).cell? ⟨P, 1, none⟩ = some (.slice none 0 0) := HX3.out.cell 1 (by simp)
      have p2 : (w2.alloc (.cells #[.int .i64 origin, .slice pp pn pc, .int .u32 next, .int .i64 med, .int .i64 pref, .slice cp cn cc] 27)).cell? ⟨P, 2, none⟩ = some (.int .i64 0) := HX3.out.cell 2 (by simp)
      have p3 : (w2.alloc (.cells #[.int .i64 origin, .slice pp pn pc, .int .u32 next, .int .i64 med, .int .i64 pref, .slice cp cn cc] 27)).cell? ⟨P, 3, none⟩ = some (.slice none 0 0) := HX3.out.cell 3 (by simp)
      have p4 : (w2.alloc (.cells #[.int .i64 origin, .slice pp pn pc, .int .u32 next, .int .i64 med, .int .i64 pref, .slice cp cn cc] 27)).cell? ⟨P, 4, none⟩ = some (.int .u32 0) := HX3.out.cell 4 (by simp)
      have p5 : (w2.alloc (.cells #[.int .i64 origin, .slice pp pn pc, .int .u32 next, .int .i64 med, .int .i64 pref, .slice cp cn cc] 27)).cell? ⟨P, 5, none⟩ = some (.int .i64 0) := HX3.out.cell 5 (by simp)
      have p6 : (w2.alloc (.cells #[.int .i64 origin, .slice pp pn pc, .int .u32 next, .int .i64 med, .int .i64 pref, .slice cp cn cc] 27)).cell? ⟨P, 6, none⟩ = some (.int .i64 0) := HX3.out.cell 6 (by simp)
      have p7 : (w2.alloc (.cells #[.int .i64 origin, .slice pp pn pc, .int .u32 next, .int .i64 med, .int .i64 pref, .slice cp cn cc] 27)).cell? ⟨P, 7, none⟩ = some (.slice none 0 0) := HX3.out.cell 7 (by simp)
      have p8 : (w2.alloc (.cells #[.int .i64 origin, .slice pp pn pc, .int .u32 next, .int .i64 med, .int .i64 pref, .slice cp cn cc] 27)).cell? ⟨P, 8, none⟩ = some (.bool false) := HX3.out.cell 8 (by simp)
      have f0 : (w2.alloc (.cells #[.int .i64 origin, .slice pp pn pc, .int .u32 next, .int .i64 med, .int .i64 pref, .slice cp cn cc] 27)).frozen? ⟨P, 0, none⟩ = false := HX3.out.f 0
      have f1 : (w2.alloc (.cells #[.int .i64 origin, .slice pp pn pc, .int .u32 next, .int .i64 med, .int .i64 pref, .slice cp cn cc] 27)).frozen? ⟨P, 1, none⟩ = false := HX3.out.f 1
      have f2 : (w2.alloc (.cells #[.int .i64 origin, .slice pp pn pc, .int .u32 next, .int .i64 med, .int .i64 pref, .slice cp cn cc] 27)).frozen? ⟨P, 2, none⟩ = false := HX3.out.f 2
      have f3 : (w2.alloc (.cells #[.int .i64 origin, .slice pp pn pc, .int .u32 next, .int .i64 med, .int .i64 pref, .slice cp cn cc] 27)).frozen? ⟨P, 3, none⟩ = false := HX3.out.f 3
      have f4 : (w2.alloc (.cells #[.int .i64 origin, .slice pp pn pc, .int .u32 next, .int .i64 med, .int .i64 pref, .slice cp cn cc] 27)).frozen? ⟨P, 4, none⟩ = false := HX3.out.f 4
      have f5 : (w2.alloc (.cells #[.int .i64 origin, .slice pp pn pc, .int .u32 next, .int .i64 med, .int .i64 pref, .slice cp cn cc] 27)).frozen? ⟨P, 5, none⟩ = false := HX3.out.f 5
      have f6 : (w2.alloc (.cells #[.int .i64 origin, .slice pp pn pc, .int .u32 next, .int .i64 med, .int .i64 pref, .slice cp cn cc] 27)).frozen? ⟨P, 6, none⟩ = false := HX3.out.f 6
      have f7 : (w2.alloc (.cells #[.int .i64 origin, .slice pp pn pc, .int .u32 next, .int .i64 med, .int .i64 pref, .slice cp cn cc] 27)).frozen? ⟨P, 7, none⟩ = false := HX3.out.f 7
      have f8 : (w2.alloc (.cells #[.int .i64 origin, .slice pp pn pc, .int .u32 next, .int .i64 med, .int .i64 pref, .slice cp cn cc] 27)).frozen? ⟨P, 8, none⟩ = false := HX3.out.f 8
      go_wp2_with fail
      have t0 := at9_0 HX3.out (.slice gp gn gc)
      have t1 := at9_1 HX3.out (.slice gp gn gc) (.slice rp rn rc)
      have t2 := at9_2 HX3.out (.slice gp gn gc) (.slice rp rn rc) (.int .i64 origin)
      have t3 := at9_3 HX3.out (.slice gp gn gc) (.slice rp rn rc) (.int .i64 origin) (.slice pp pn pc)
      have t4 := at9_4 HX3.out (.slice gp gn gc) (.slice rp rn rc) (.int .i64 origin) (.slice pp pn pc) (.int .u32 next)
      have t5 := at9_5 HX3.out (.slice gp gn gc) (.slice rp rn rc) (.int .i64 origin) (.slice pp pn pc) (.int .u32 next) (.int .i64 med)
      have t6 := at9_6 HX3.out (.slice gp gn gc) (.slice rp rn rc) (.int .i64 origin) (.slice pp pn pc) (.int .u32 next) (.int .i64 med) (.int .i64 pref)
      have t7 := at9_7 HX3.out (.slice gp gn gc) (.slice rp rn rc) (.int .i64 origin) (.slice pp pn pc) (.int .u32 next) (.int .i64 med) (.int .i64 pref) (.slice cp cn cc)
      have t8 := at9_8 HX3.out (.slice gp gn gc) (.slice rp rn rc) (.int .i64 origin) (.slice pp pn pc) (.int .u32 next) (.int .i64 med) (.int .i64 pref) (.slice cp cn cc) (.bool false)
      exact bodyPost_ret (v := .agg #[.slice gp gn gc, .slice rp rn rc, .int .i64 origin, .slice pp pn pc, .int .u32 next, .int .i64 med, .int .i64 pref, .slice cp cn cc, .bool false]) (by simp [results, Tryd.results38, go_sem, t0, t1, t2, t3, t4, t5, t6, t7, t8]) rfl ⟨⟨gp, gn, gc, rp, rn, rc, ⟨pp, pn, pc, cp, cn, cc⟩⟩, by rw [HTU.out]; rfl, by rw [HTU.out]; exact UOwn.past (w := (w2.alloc (.cells #[.int .i64 origin, .slice pp pn pc, .int .u32 next, .int .i64 med, .int .i64 pref, .slice cp cn cc] 27))) ⟨⟨_, HG.out.below HB3.out⟩, ⟨_, HR.out.below HB3.out⟩, _, HA3.out⟩ HX3.out ne_upd (gb9 _ _ _ _ _ _ _ _ _ _ _), below9 HB3.out (Nat.le_of_eq HP.out) _ _ _ _ _ _ _ _ _⟩
    · have hv1 : (ver == 1) = false := by simpa using hv
      rw [if_neg hv] at HTU
      have hgi : (gn : Int) ≤ (gc : Int) := by omega
      have HG3 := Lib.hid (HG.out.below HB3.out)
      have HR3 := Lib.hid (HR.out.below HB3.out)
      go_wp2_with (first
        | (refine wpList_appFull rfl _ _ rfl gp gn goes HG3.out.at HG3.out.len rfl rp rn rc comes HR3.out.at HR3.out.len rfl (by omega) hg1 hr1 ?_; intro C w4 h4 b4; have HX4 := Lib.hid (HX3.out.next b4.out); have p0 : w4.cell? ⟨P, 0, none⟩ = some (.slice none 0 0) := HX4.out.cell 0 (by simp); have p1 : w4.cell? ⟨P, 1, none⟩ = some (.slice none 0 0) := HX4.out.cell 1 (by simp); have p2 : w4.cell? ⟨P, 2, none⟩ = some (.int .i64 0) := HX4.out.cell 2 (by simp); have p3 : w4.cell? ⟨P, 3, none⟩ = some (.slice none 0 0) := HX4.out.cell 3 (by simp); have p4 : w4.cell? ⟨P, 4, none⟩ = some (.int .u32 0) := HX4.out.cell 4 (by simp); have p5 : w4.cell? ⟨P, 5, none⟩ = some (.int .i64 0) := HX4.out.cell 5 (by simp); have p6 : w4.cell? ⟨P, 6, none⟩ = some (.int .i64 0) := HX4.out.cell 6 (by simp); have p7 : w4.cell? ⟨P, 7, none⟩ = some (.slice none 0 0) := HX4.out.cell 7 (by simp); have p8 : w4.cell? ⟨P, 8, none⟩ = some (.bool false) := HX4.out.cell 8 (by simp); have f0 : w4.frozen? ⟨P, 0, none⟩ = false := HX4.out.f 0; have f1 : w4.frozen? ⟨P, 1, none⟩ = false := HX4.out.f 1; have f2 : w4.frozen? ⟨P, 2, none⟩ = false := HX4.out.f 2; have f3 : w4.frozen? ⟨P, 3, none⟩ = false := HX4.out.f 3; have f4 : w4.frozen? ⟨P, 4, none⟩ = false := HX4.out.f 4; have f5 : w4.frozen? ⟨P, 5, none⟩ = false := HX4.out.f 5; have f6 : w4.frozen? ⟨P, 6, none⟩ = false := HX4.out.f 6; have f7 : w4.frozen? ⟨P, 7, none⟩ = false := HX4.out.f 7; have f8 : w4.frozen? ⟨P, 8, none⟩ = false := HX4.out.f 8))
      have t0 := at9_0 HX4.out (.slice (some ⟨w2.heap.size + 1, 0, none⟩) (gn + rn) C)
      have t1 := at9_1 HX4.out (.slice (some ⟨w2.heap.size + 1, 0, none⟩) (gn + rn) C) (.slice none 0 0)
      have t2 := at9_2 HX4.out (.slice (some ⟨w2.heap.size + 1, 0, none⟩) (gn + rn) C) (.slice none 0 0) (.int .i64 0)
      have t3 := at9_3 HX4.out (.slice (some ⟨w2.heap.size + 1, 0, none⟩) (gn + rn) C) (.slice none 0 0) (.int .i64 0) (.slice none 0 0)
      have t4 := at9_4 HX4.out (.slice (some ⟨w2.heap.size + 1, 0, none⟩) (gn + rn) C) (.slice none 0 0) (.int .i64 0) (.slice none 0 0) (.int .u32 0)
      have t5 := at9_5 HX4.out (.slice (some ⟨w2.heap.size + 1, 0, none⟩) (gn + rn) C) (.slice none 0 0) (.int .i64 0) (.slice none 0 0) (.int .u32 0) (.int .i64 0)
      have t6 := at9_6 HX4.out (.slice (some ⟨w2.heap.size + 1, 0, none⟩) (gn + rn) C) (.slice none 0 0) (.int .i64 0) (.slice none 0 0) (.int .u32 0) (.int .i64 0) (.int .i64 0)
      have t7 := at9_7 HX4.out (.slice (some ⟨w2.heap.size + 1, 0, none⟩) (gn + rn) C) (.slice none 0 0) (.int .i64 0) (.slice none 0 0) (.int .u32 0) (.int .i64 0) (.int .i64 0) (.slice none 0 0)
      have t8 := at9_8 HX4.out (.slice (some ⟨w2.heap.size + 1, 0, none⟩) (gn + rn) C) (.slice none 0 0) (.int .i64 0) (.slice none 0 0) (.int .u32 0) (.int .i64 0) (.int .i64 0) (.slice none 0 0) (.bool true)
      have HB4 := Lib.hid (HB3.out.trans (b4.out.mono HB3.out.size))
      have hsz : (w2.alloc (.cells #[.int .i64 origin, .slice pp pn pc, .int .u32 next, .int .i64 med, .int .i64 pref, .slice cp cn cc] 27)).heap.size = w2.heap.size + 1 := sz_alloc _ _
      rw [hsz] at h4
      exact bodyPost_ret (v := .agg #[.slice (some ⟨w2.heap.size + 1, 0, none⟩) (gn + rn) C, .slice none 0 0, .int .i64 0, .slice none 0 0, .int .u32 0, .int .i64 0, .int .i64 0, .slice none 0 0, .bool true]) (by simp [results, Tryd.results38, go_sem, t0, t1, t2, t3, t4, t5, t6, t7, t8]) rfl ⟨⟨(some ⟨w2.heap.size + 1, 0, none⟩), gn + rn, C, none, 0, 0, Loc.zero⟩, by rw [HTU.out]; rfl, by rw [HTU.out]; exact UOwn.past (w := w4) ⟨⟨_, h4.out⟩, ⟨0, NlsOwn.nil _ _⟩, 0, zeroOwn _ _⟩ HX4.out ne_upd (gb9 _ _ _ _ _ _ _ _ _ _ _), below9 HB4.out (Nat.le_of_eq HP.out) _ _ _ _ _ _ _ _ _⟩
end Go.Proofs.YtpeagakpmjnelaaDoor.Ax
