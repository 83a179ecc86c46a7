/- the document's meter: a source's last reports in numbers; rate. -/
import Derived.Test.YtgididkpgncdjaaZV
namespace Go.Proofs.Ytgididkpgncdjaa
open Go.RowKit Go.Maps
set_option linter.unusedVariables false
set_option linter.unusedSimpArgs false
set_option maxRecDepth 100000

/-- A report as it stands there, and a source's last two. -/
structure Rp where
  intro ::
  src : Int
  seq : Int
  p : Option Addr
  L : List Ct
  n : Nat
  cap : Nat
structure Lz where
  intro ::
  i : Int
  R : Rp
  t : Int
  W : Rp
  u : Int
def Rp.zero : Rp := ⟨0, 0, none, [], 0, 0⟩
def Lz.zero : Lz := ⟨0, Rp.zero, 0, Rp.zero, 0⟩
def lzC (z : Lz) : List Value := [.int .i64 z.i, .int .i64 z.R.src, .int .i64 z.R.seq, .slice z.R.p z.R.n z.R.cap, .int .i64 z.t, .int .i64 z.W.src, .int .i64 z.W.seq, .slice z.W.p z.W.n z.W.cap, .int .i64 z.u]
def rrate (i t u a b : Int) : Int := if i < 2 ∨ a < 0 ∨ b < a ∨ t ≤ u then 0 else (b - a) / (t - u)
theorem countL_no {L : List Ct} {p : Pf} (h : L.any (fun x => x.p == p) = false) : countL L p = -1 := by
  induction L with
  | nil => rfl
  | cons x t ih =>
    rw [List.any_cons, Bool.or_eq_false_iff] at h
    rw [countL, if_neg (by simpa using h.1), ih h.2]
theorem countL_mem {L : List Ct} (hu : Uniq L) {x : Ct} (hx : x ∈ L) : countL L x.p = x.c := by
  unfold Uniq at hu
  induction L with
  | nil => cases hx
  | cons y t ih =>
    rw [List.map_cons, List.nodup_cons] at hu
    rw [countL]
    rcases List.mem_cons.1 hx with rfl | hm
    · rw [if_pos rfl]
    · rw [if_neg (show ¬ y.p = x.p from fun e => hu.1 (e ▸ List.mem_map_of_mem hm)), ih hu.2 hm]
theorem countL_fill {L : List Ct} (hu : Uniq L) (p : Pf) : countL L p = (fillT L p).getD (-1) := by
  rcases hf : fillT L p with _ | c
  · have h := fillT_has L p
    rw [hf] at h
    rw [countL_no h.symm]; rfl
  · exact countL_mem hu (fillT_in hf)
theorem rates_at {v : Mv} (hv : OkMv v) {now : Int} {L : List Ct} (hu : Uniq L) (hL : ∀ x ∈ L, 0 ≤ x.c ∧ x.c ≤ 9007199254740991) (p : Pf) : (fillT (ratesV v now L) p).getD 0 = match fillT L p with | none => 0 | some c => rateC v now ⟨p, c⟩ := by
  have hur : Uniq (ratesV v now L) := (ratesV_p v now L).nodup hu
  have hin : ∀ r, (⟨p, r⟩ : Ct) ∈ ratesV v now L → ∃ c, (⟨p, c⟩ : Ct) ∈ L ∧ 0 < rateC v now ⟨p, c⟩ ∧ r = rateC v now ⟨p, c⟩ := fun r hr => by
    unfold ratesV at hr
    obtain ⟨x, hx, he⟩ := List.mem_filterMap.1 hr
    split at he
    · rename_i h0
      obtain ⟨xp, xc⟩ := x
      simp only [Option.some.injEq, Ct.intro.injEq] at he
      obtain ⟨rfl, rfl⟩ := he
      exact ⟨xc, hx, h0, rfl⟩
    · cases he
  rcases hf : fillT L p with _ | c
  · rcases hg : fillT (ratesV v now L) p with _ | r
    · rfl
    · obtain ⟨c, hc, _⟩ := hin r (fillT_in hg)
      rw [fillT_mem hu hc] at hf
      cases hf
  · have hm := fillT_in hf
    have hb := rateC_le hv (now := now) (hL _ hm).1 (hL _ hm).2
    by_cases h0 : 0 < rateC v now ⟨p, c⟩
    · have hmem : (⟨p, rateC v now ⟨p, c⟩⟩ : Ct) ∈ ratesV v now L := by
        unfold ratesV
        exact List.mem_filterMap.2 ⟨⟨p, c⟩, hm, by rw [if_pos h0]⟩
      rw [fillT_mem hur hmem]
      rfl
    · rcases hg : fillT (ratesV v now L) p with _ | r
      · show (0 : Int) = rateC v now ⟨p, c⟩
        omega
      · obtain ⟨c2, hc2, h2, _⟩ := hin r (fillT_in hg)
        rw [fillT_mem hu hc2] at hf
        cases hf
        exact absurd h2 h0
/-- A source, and the document's. -/
structure RelZ (v : Mv) (z : Lz) : Prop where
  intro ::
  h : v.h = decide (0 < z.i)
  q : v.q = z.R.seq
  a : v.a = z.t
  L : v.L = z.R.L
  R : z.i = 2 → ∃ v0 : Mv, OkMv v0 ∧ v0.L = z.W.L ∧ v0.a = z.u ∧ v.R = ratesV v0 z.t z.R.L
  no : z.i ≠ 2 → v.R = []
  i0 : 0 ≤ z.i
  i2 : z.i ≤ 2
theorem relZ_zero : RelZ Mv.zero Lz.zero := ⟨by decide, rfl, rfl, rfl, fun h => absurd (show (0 : Int) = 2 from h) (by decide), fun _ => rfl, by decide, by decide⟩
theorem rel_rate {v : Mv} {z : Lz} (h : RelZ v z) (hv : OkMv v) (p : Pf) : rateAt v p = rrate z.i z.t z.u (countL z.W.L p) (countL z.R.L p) := by
  by_cases h2 : z.i = 2
  · obtain ⟨v0, hv0, hL0, ha0, hR⟩ := h.R h2
    have huR : Uniq z.R.L := h.L ▸ hv.uL
    have huW : Uniq z.W.L := hL0 ▸ hv0.uL
    have hc : ∀ x ∈ z.R.L, 0 ≤ x.c ∧ x.c ≤ 9007199254740991 := fun x hx => (hv.inL x (h.L ▸ hx)).2
    unfold rateAt
    rw [hR, rates_at hv0 huR hc p, countL_fill huR, countL_fill huW, h2]
    unfold rrate
    rcases hf : fillT z.R.L p with _ | c
    · rw [if_pos]
      by_cases hn : (fillT z.W.L p).getD (-1) < 0
      · exact .inr (.inl hn)
      · right; right; left
        show (-1 : Int) < _
        omega
    · unfold rateC
      rw [hL0, ha0]
      dsimp only
      rcases hg : fillT z.W.L p with _ | n
      · simp
      · have hn0 := (hv0.inL _ (hL0 ▸ fillT_in hg)).2.1
        have hn0 : 0 ≤ n := hn0
        simp only [Option.getD_some]
        by_cases hcond : z.t ≤ z.u ∨ c < n
        · rw [if_pos hcond, if_pos (by omega)]
        · rw [if_neg hcond, if_neg (by omega)]
  · unfold rateAt rrate
    rw [h.no h2, if_pos (.inl (by have := h.i2; omega))]
    rfl
/-- .. in a world. -/
structure LzAt (w : World) (z : Lz) : Prop where
  intro ::
  r : CtsAt w z.R.p z.R.L
  rn : z.R.L.length = z.R.n
  rm : z.R.n ≤ 1024
  wat : CtsAt w z.W.p z.W.L
  wn : z.W.L.length = z.W.n
  wm : z.W.n ≤ 1024
  rc : ∀ x ∈ z.R.L, 0 ≤ x.c ∧ x.c ≤ 9007199254740991
  wc : ∀ x ∈ z.W.L, 0 ≤ x.c ∧ x.c ≤ 9007199254740991
  t0 : 0 ≤ z.t
  t1 : z.t ≤ 9007199254740991
  u0 : 0 ≤ z.u
  u1 : z.u ≤ 9007199254740991
theorem LzAt.below {w w' : World} {z : Lz} (h : LzAt w z) (hb : Below w.heap.size w w') : LzAt w' z := ⟨h.r.below hb, h.rn, h.rm, h.wat.below hb, h.wn, h.wm, h.rc, h.wc, h.t0, h.t1, h.u0, h.u1⟩
theorem countL_bd {L : List Ct} (h : ∀ x ∈ L, 0 ≤ x.c ∧ x.c ≤ 9007199254740991) (p : Pf) : -1 ≤ countL L p ∧ countL L p ≤ 9007199254740991 := by
  induction L with
  | nil => exact ⟨Int.le_refl _, by show (-1 : Int) ≤ 9007199254740991; decide⟩
  | cons x t ih =>
    rw [countL]
    split
    · have := h x List.mem_cons_self; omega
    · exact ih fun y hy => h y (List.mem_cons_of_mem _ hy)
theorem lz_boxes {w : World} {g : Nat} {T : TypeId} {i rs rq t ws wq u : Int} {rp wp : Option Addr} {rn rc wn wc : Nat} (H : Blk w g T [.int .i64 i, .int .i64 rs, .int .i64 rq, .slice rp rn rc, .int .i64 t, .int .i64 ws, .int .i64 wq, .slice wp wn wc, .int .i64 u]) :
    (w.cell? ⟨g, 0, none⟩ = some (.int .i64 i) ∧ w.cell? ⟨g, 1, none⟩ = some (.int .i64 rs) ∧ w.cell? ⟨g, 2, none⟩ = some (.int .i64 rq) ∧ w.cell? ⟨g, 3, none⟩ = some (.slice rp rn rc) ∧ w.cell? ⟨g, 4, none⟩ = some (.int .i64 t)) ∧ w.cell? ⟨g, 5, none⟩ = some (.int .i64 ws) ∧ w.cell? ⟨g, 6, none⟩ = some (.int .i64 wq) ∧ w.cell? ⟨g, 7, none⟩ = some (.slice wp wn wc) ∧ w.cell? ⟨g, 8, none⟩ = some (.int .i64 u) :=
  ⟨⟨H.cell 0 (by simp), H.cell 1 (by simp), H.cell 2 (by simp), H.cell 3 (by simp), H.cell 4 (by simp)⟩, H.cell 5 (by simp), H.cell 6 (by simp), H.cell 7 (by simp), H.cell 8 (by simp)⟩
set_option maxHeartbeats 8000000 in
theorem rrate_any (w : World) (z : Lz) (hz : LzAt w z) (p : Pf) :
    Calls Try.prog 36 #[.agg #[.int .i64 z.i, .int .i64 z.R.src, .int .i64 z.R.seq, .slice z.R.p z.R.n z.R.cap, .int .i64 z.t, .int .i64 z.W.src, .int .i64 z.W.seq, .slice z.W.p z.W.n z.W.cap, .int .i64 z.u], .agg #[.int .u32 p.a, .int .i64 p.n]] w fun e w' => e = .returned (.int .i64 (rrate z.i z.t z.u (countL z.W.L p) (countL z.R.L p))) ∧ Below w.heap.size w w' := by
  have ba := countL_bd hz.wc p
  have bb := countL_bd hz.rc p
  have hz1 := hz.t0; have hz2 := hz.t1; have hz3 := hz.u0; have hz4 := hz.u1
  have hcw := fun (u : World) (hu : Below w.heap.size w u) => rcount_any u z.W.src z.W.seq z.W.p z.W.L z.W.n z.W.cap (hz.wat.below hu) hz.wn (by have := hz.wm; unfold maxLen; omega) p
  have hcr := fun (u : World) (hu : Below w.heap.size w u) => rcount_any u z.R.src z.R.seq z.R.p z.R.L z.R.n z.R.cap (hz.r.below hu) hz.rn (by have := hz.rm; unfold maxLen; omega) p
  obtain ⟨A, hA⟩ : ∃ A, countL z.W.L p = A := ⟨_, rfl⟩
  obtain ⟨Bc, hBc⟩ : ∃ A, countL z.R.L p = A := ⟨_, rfl⟩
  rw [hA] at ba hcw ⊢
  rw [hBc] at bb hcr ⊢
  obtain ⟨pa, pn⟩ := p
  obtain ⟨i, ⟨rs, rq, rp, rL, rn, rc⟩, t, ⟨ws, wq, wp, wL, wn, wc⟩, u⟩ := z
  dsimp only at hcw hcr hz1 hz2 hz3 hz4 ⊢
  have HCW := Lib.hid hcw
  have HCR := Lib.hid hcr
  have hb1 := newB w (.cells #[.int .i64 i, .int .i64 rs, .int .i64 rq, .slice rp rn rc, .int .i64 t, .int .i64 ws, .int .i64 wq, .slice wp wn wc, .int .i64 u] 33)
  have hx1 := Blk.new w 33 [.int .i64 i, .int .i64 rs, .int .i64 rq, .slice rp rn rc, .int .i64 t, .int .i64 ws, .int .i64 wq, .slice wp wn wc, .int .i64 u]
  have hb2 := newB (w.alloc (.cells #[.int .i64 i, .int .i64 rs, .int .i64 rq, .slice rp rn rc, .int .i64 t, .int .i64 ws, .int .i64 wq, .slice wp wn wc, .int .i64 u] 33)) (.cells #[.int .u32 pa, .int .i64 pn] 25)
  have hx2 := Blk.new (w.alloc (.cells #[.int .i64 i, .int .i64 rs, .int .i64 rq, .slice rp rn rc, .int .i64 t, .int .i64 ws, .int .i64 wq, .slice wp wn wc, .int .i64 u] 33)) 25 [.int .u32 pa, .int .i64 pn]
  rw [sz_alloc] at hx2
  have hx1 := hx1.next hb2
  have hb := hb1.trans (hb2.mono hb1.size)
  obtain ⟨S, hS0⟩ : ∃ S, w.heap.size = S := ⟨_, rfl⟩
  obtain ⟨U, hU⟩ : ∃ U, (w.alloc (.cells #[.int .i64 i, .int .i64 rs, .int .i64 rq, .slice rp rn rc, .int .i64 t, .int .i64 ws, .int .i64 wq, .slice wp wn wc, .int .i64 u] 33)).alloc (.cells #[.int .u32 pa, .int .i64 pn] 25) = U := ⟨_, rfl⟩
  rw [hU] at hx1 hx2 hb
  rw [hS0] at hx1 hx2
  have HX := Lib.hid hx1
  have HX2 := Lib.hid hx2
  have HB := Lib.hid hb
  have HU := Lib.hid hU
  have HSE := Lib.hid hS0
  have HSS := Lib.hid (fun (v : World) (hv : Below U.heap.size U v) => show v.cell? ⟨S, 1, none⟩ = some (.int .i64 rs) ∧ v.cell? ⟨S, 2, none⟩ = some (.int .i64 rq) ∧ v.cell? ⟨S, 3, none⟩ = some (.slice rp rn rc) ∧ v.cell? ⟨S, 5, none⟩ = some (.int .i64 ws) ∧ v.cell? ⟨S, 6, none⟩ = some (.int .i64 wq) ∧ v.cell? ⟨S, 7, none⟩ = some (.slice wp wn wc) ∧ v.cell? ⟨S + 1, 0, none⟩ = some (.int .u32 pa) ∧ v.cell? ⟨S + 1, 1, none⟩ = some (.int .i64 pn) from by
    obtain ⟨⟨_, k1, k2, k3, _⟩, k5, k6, k7, _⟩ := lz_boxes (HX.out.next hv)
    exact ⟨k1, k2, k3, k5, k6, k7, (HX2.out.next hv).cell 0 (by simp), (HX2.out.next hv).cell 1 (by simp)⟩)
  have BB : Hid (Below U.heap.size U U.drew) := Lib.hid (Below.refl _ _).drew
  have hS := HSS.out _ BB.out
  obtain ⟨V, hV⟩ : ∃ V, rrate i t u A Bc = V := ⟨_, rfl⟩
  have HV := Lib.hid hV
  rw [hV]
  clear hz hcw hcr hb1 hb2 hx1 hx2 hb hU hA hBc hV hS0
  go_enter Try.func36, Try.ntmps36
  go_wp2_with fail
  rw [HU.out, HSE.out]
  go_region_held_law (fun W => W.cell? ⟨S, 1, none⟩ = some (.int .i64 rs) ∧ W.cell? ⟨S, 2, none⟩ = some (.int .i64 rq) ∧ W.cell? ⟨S, 3, none⟩ = some (.slice rp rn rc) ∧ W.cell? ⟨S, 5, none⟩ = some (.int .i64 ws) ∧ W.cell? ⟨S, 6, none⟩ = some (.int .i64 wq) ∧ W.cell? ⟨S, 7, none⟩ = some (.slice wp wn wc) ∧ W.cell? ⟨S + 1, 0, none⟩ = some (.int .u32 pa) ∧ W.cell? ⟨S + 1, 1, none⟩ = some (.int .i64 pn)) (with_reducible assumption) (first
    | (go_at_call 50; (with_reducible refine (HCW.out _ (HB.out.trans (BB.out.mono HB.out.size))).mono ?_); rintro e v ⟨rfl, hb⟩; have BB := Lib.hid (BB.out.trans (hb.mono BB.out.size)); have hS := HSS.out _ BB.out; clear hb)
    | (go_at_call 50; (with_reducible refine (HCR.out _ (HB.out.trans (BB.out.mono HB.out.size))).mono ?_); rintro e v ⟨rfl, hb⟩; have BB := Lib.hid (BB.out.trans (hb.mono BB.out.size)); have hS := HSS.out _ BB.out; clear hb))
  all_goals
    clear hS
    obtain ⟨⟨k0, _, _, _, k4⟩, _, _, _, k8⟩ := lz_boxes (HX.out.next BB.out)
    have HBB := Lib.hid (HB.out.trans (BB.out.mono HB.out.size))
    unfold rrate at HV
    by_cases c1 : i < 2
    · have t1 : decide (i < 2) = true := decide_eq_true c1
      have HVV := Lib.hid (show V = 0 from by rw [← HV.out, if_pos (.inl c1)])
      go_wp2_with fail
      go_ret
      exact ⟨by rw [HVV.out]; rfl, HBB.out⟩
    have t1 : decide (i < 2) = false := decide_eq_false c1
    by_cases c2 : A < 0
    · have t2 : decide (A < 0) = true := decide_eq_true c2
      have HVV := Lib.hid (show V = 0 from by rw [← HV.out, if_pos (.inr (.inl c2))])
      go_wp2_with fail
      go_ret
      exact ⟨by rw [HVV.out]; rfl, HBB.out⟩
    have t2 : decide (A < 0) = false := decide_eq_false c2
    by_cases c3 : Bc < A
    · have t3 : decide (Bc < A) = true := decide_eq_true c3
      have HVV := Lib.hid (show V = 0 from by rw [← HV.out, if_pos (.inr (.inr (.inl c3)))])
      go_wp2_with fail
      go_ret
      exact ⟨by rw [HVV.out]; rfl, HBB.out⟩
    have t3 : decide (Bc < A) = false := decide_eq_false c3
    by_cases c4 : t ≤ u
    · have t4 : decide (t ≤ u) = true := decide_eq_true c4
      have HVV := Lib.hid (show V = 0 from by rw [← HV.out, if_pos (.inr (.inr (.inr c4)))])
      go_wp2_with fail
      go_ret
      exact ⟨by rw [HVV.out]; rfl, HBB.out⟩
    have t4 : decide (t ≤ u) = false := decide_eq_false c4
    have HVV := Lib.hid (show V = (Bc - A) / (t - u) from by rw [← HV.out, if_neg (by omega)])
    have w1 : wrap64 (Bc - A) = Bc - A := IntWalk.wrap64_in _ (by omega)
    have w2 : wrap64 (t - u) = t - u := IntWalk.wrap64_in _ (by omega)
    have hd : t - u ≠ 0 := by omega
    have hq := IntWalk.i64_quo (Bc - A) (t - u) (by omega)
    obtain ⟨D, hD⟩ : ∃ D, t - u = D := ⟨_, rfl⟩
    obtain ⟨Z, hZ⟩ : ∃ Z, Bc - A = Z := ⟨_, rfl⟩
    rw [hD] at w2 hd hq HVV
    rw [hZ] at w1 hq HVV
    clear c1 c2 c3 c4
    go_wp2_with fail
    go_ret
    exact ⟨by rw [HVV.out]; rfl, HBB.out⟩
end Go.Proofs.Ytgididkpgncdjaa
