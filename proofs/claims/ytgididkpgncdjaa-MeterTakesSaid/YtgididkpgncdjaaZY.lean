/- the document's meter: Take. -/
import Derived.Test.YtgididkpgncdjaaZX
import Derived.Test.YtgididkpgncdjaaZF
import Derived.Deep.RegionLaw
namespace Go.Proofs.Ytgididkpgncdjaa
open Go.RowKit Go.Maps
set_option linter.unusedVariables false
set_option linter.unusedSimpArgs false
set_option maxRecDepth 100000

/-- What a source's last two are behind one more. -/
def thenZ (z : Lz) (r : Rp) (now : Int) : Lz := if 0 < z.i then ⟨2, r, now, z.R, z.t⟩ else ⟨1, r, now, Rp.zero, 0⟩
theorem rel_then {v : Mv} {z : Lz} (h : RelZ v z) (hv : OkMv v) (src seq : Int) (q : Option Addr) (L : List Ct) (n c9 : Nat) (now : Int) : RelZ (thenV v seq L now) (thenZ z ⟨src, seq, q, L, n, c9⟩ now) := by
  unfold thenZ
  by_cases h0 : 0 < z.i
  · rw [if_pos h0]
    exact ⟨rfl, rfl, rfl, rfl, fun _ => ⟨v, hv, h.L, h.a, rfl⟩, fun h2 => absurd rfl h2, show (0 : Int) ≤ 2 by decide, show (2 : Int) ≤ 2 by decide⟩
  · rw [if_neg h0]
    have hh : v.h = false := by rw [h.h]; exact decide_eq_false h0
    have hz := hv.no hh
    subst hz
    exact ⟨rfl, rfl, rfl, rfl, fun h2 => absurd (show (1 : Int) = 2 from h2) (by decide), fun _ => rates_none now L, show (0 : Int) ≤ 1 by decide, show (1 : Int) ≤ 2 by decide⟩
/-- What stands of the sources behind a Take: those that stood, or one heard anew. -/
def KeepZ (src seq : Int) (q : Option Addr) (L : List Ct) (n c9 : Nat) (now : Int) (Z Z' : Nat → Lz) : Prop := ∀ P : Lz → Prop, (∀ i, i < 16 → P (Z i)) → (okRep src seq L = true → isCap now = true → ∀ z, P z → P (thenZ z ⟨src, seq, q, L, n, c9⟩ now)) → ∀ i, i < 16 → P (Z' i)
theorem LAt.turnsN {α : Type} {c : α → List Value} {ok : α → Prop} {zero : α} {sz : Nat} {w w' : World} {p : Option Addr} {l : List α} (h : LAt c ok zero sz w p l) {x : Nat} (hT : Turns (fun k => k = x) w w') (hp : l ≠ [] → ∀ b off, p = some ⟨b, off, none⟩ → b ≠ x) : LAt c ok zero sz w' p l := by
  by_cases hl : l = []
  · subst hl; exact LAt.nil _ _ _ _ _ _
  · exact h.turns hT (fun b off e => hp hl b off e)
theorem RfM.heard {w : World} {x : Nat} {Z : Nat → Lz} (H : RfM w x Z) {i : Nat} (hi : i < 16) (z : Lz) (hz : LzAt w z) (hne : Off x z.R ∧ Off x z.W) : RfM (((((((((w.setCell ⟨x, i * 9, none⟩ (.int .i64 z.i)).setCell ⟨x, i * 9 + 1, none⟩ (.int .i64 z.R.src)).setCell ⟨x, i * 9 + 2, none⟩ (.int .i64 z.R.seq)).setCell ⟨x, i * 9 + 3, none⟩ (.slice z.R.p z.R.n z.R.cap)).setCell ⟨x, i * 9 + 4, none⟩ (.int .i64 z.t)).setCell ⟨x, i * 9 + 5, none⟩ (.int .i64 z.W.src)).setCell ⟨x, i * 9 + 6, none⟩ (.int .i64 z.W.seq)).setCell ⟨x, i * 9 + 7, none⟩ (.slice z.W.p z.W.n z.W.cap)).setCell ⟨x, i * 9 + 8, none⟩ (.int .i64 z.u)) x (setV Z i z) ∧ Turns (fun k => k = x) w (((((((((w.setCell ⟨x, i * 9, none⟩ (.int .i64 z.i)).setCell ⟨x, i * 9 + 1, none⟩ (.int .i64 z.R.src)).setCell ⟨x, i * 9 + 2, none⟩ (.int .i64 z.R.seq)).setCell ⟨x, i * 9 + 3, none⟩ (.slice z.R.p z.R.n z.R.cap)).setCell ⟨x, i * 9 + 4, none⟩ (.int .i64 z.t)).setCell ⟨x, i * 9 + 5, none⟩ (.int .i64 z.W.src)).setCell ⟨x, i * 9 + 6, none⟩ (.int .i64 z.W.seq)).setCell ⟨x, i * 9 + 7, none⟩ (.slice z.W.p z.W.n z.W.cap)).setCell ⟨x, i * 9 + 8, none⟩ (.int .i64 z.u)) := by
  have hT : Turns (fun k => k = x) w (((((((((w.setCell ⟨x, i * 9, none⟩ (.int .i64 z.i)).setCell ⟨x, i * 9 + 1, none⟩ (.int .i64 z.R.src)).setCell ⟨x, i * 9 + 2, none⟩ (.int .i64 z.R.seq)).setCell ⟨x, i * 9 + 3, none⟩ (.slice z.R.p z.R.n z.R.cap)).setCell ⟨x, i * 9 + 4, none⟩ (.int .i64 z.t)).setCell ⟨x, i * 9 + 5, none⟩ (.int .i64 z.W.src)).setCell ⟨x, i * 9 + 6, none⟩ (.int .i64 z.W.seq)).setCell ⟨x, i * 9 + 7, none⟩ (.slice z.W.p z.W.n z.W.cap)).setCell ⟨x, i * 9 + 8, none⟩ (.int .i64 z.u)) := ((((((((((Turns.refl (fun k => k = x) w).setCell (p := ⟨x, i * 9, none⟩) (.inl rfl) (.int .i64 z.i)).setCell (p := ⟨x, i * 9 + 1, none⟩) (.inl rfl) (.int .i64 z.R.src)).setCell (p := ⟨x, i * 9 + 2, none⟩) (.inl rfl) (.int .i64 z.R.seq)).setCell (p := ⟨x, i * 9 + 3, none⟩) (.inl rfl) (.slice z.R.p z.R.n z.R.cap)).setCell (p := ⟨x, i * 9 + 4, none⟩) (.inl rfl) (.int .i64 z.t)).setCell (p := ⟨x, i * 9 + 5, none⟩) (.inl rfl) (.int .i64 z.W.src)).setCell (p := ⟨x, i * 9 + 6, none⟩) (.inl rfl) (.int .i64 z.W.seq)).setCell (p := ⟨x, i * 9 + 7, none⟩) (.inl rfl) (.slice z.W.p z.W.n z.W.cap)).setCell (p := ⟨x, i * 9 + 8, none⟩) (.inl rfl) (.int .i64 z.u))
  have hs := (((((((((H.blk.set (i * 9) (.int .i64 z.i)).set (i * 9 + 1) (.int .i64 z.R.src)).set (i * 9 + 2) (.int .i64 z.R.seq)).set (i * 9 + 3) (.slice z.R.p z.R.n z.R.cap)).set (i * 9 + 4) (.int .i64 z.t)).set (i * 9 + 5) (.int .i64 z.W.src)).set (i * 9 + 6) (.int .i64 z.W.seq)).set (i * 9 + 7) (.slice z.W.p z.W.n z.W.cap)).set (i * 9 + 8) (.int .i64 z.u))
  rw [rmC_set Z i hi z] at hs
  refine ⟨⟨hs, fun j hj => ?_, fun j hj => ?_⟩, hT⟩
  · by_cases e : j = i
    · subst e
      rw [setV_self]
      exact ⟨hz.r.turnsN hT hne.1, hz.rn, hz.rm, hz.wat.turnsN hT hne.2, hz.wn, hz.wm, hz.rc, hz.wc, hz.t0, hz.t1, hz.u0, hz.u1⟩
    · rw [setV_ne _ _ e]
      have h := H.at_ j hj
      exact ⟨h.r.turnsN hT (H.ne j hj).1, h.rn, h.rm, h.wat.turnsN hT (H.ne j hj).2, h.wn, h.wm, h.rc, h.wc, h.t0, h.t1, h.u0, h.u1⟩
  · by_cases e : j = i
    · subst e
      rw [setV_self]; exact hne
    · rw [setV_ne _ _ e]; exact H.ne j hj
set_option maxHeartbeats 16000000 in
theorem rtakeM_any (w : World) (x : Nat) (Z : Nat → Lz) (H : RfM w x Z) (V : Nat → Mv) (hrel : RelV V Z) (hok : OkV V) (src seq : Int) (q : Option Addr) (L : List Ct) (n c9 : Nat) (hl : CtsAt w q L) (hn : L.length = n) (hm : n ≤ maxLen) (now : Int) (hoff : L ≠ [] → ∀ b off, q = some ⟨b, off, none⟩ → b ≠ x) :
    Calls Try.prog 13 #[.pointer (some ⟨x, 0, none⟩), .agg #[.int .i64 src, .int .i64 seq, .slice q n c9], .int .i64 now] w fun e w' => e = .returned (.int .i64 (takeE V src seq L now)) ∧ Turns (fun k => k = x) w w' ∧ ∃ Z', RfM w' x Z' ∧ RelV (takeV V src seq L now) Z' ∧ KeepZ src seq q L n c9 now Z Z' := by
  have hb1 := newB w (.cells #[.int .i64 src, .int .i64 seq, .slice q n c9] 31)
  have hx1 := Blk.new w 31 [.int .i64 src, .int .i64 seq, .slice q n c9]
  obtain ⟨S, hS0⟩ : ∃ S, w.heap.size = S := ⟨_, rfl⟩
  obtain ⟨W1, hW⟩ : ∃ W, w.alloc (.cells #[.int .i64 src, .int .i64 seq, .slice q n c9] 31) = W := ⟨_, rfl⟩
  rw [hW] at hb1 hx1
  rw [hS0] at hx1
  have HX := Lib.hid hx1
  have HW := Lib.hid hW
  have HSE := Lib.hid hS0
  have HB1 := Lib.hid hb1
  have HK := Lib.hid (H.below hb1)
  have HL := Lib.hid (hl.below hb1)
  have HN := Lib.hid hn
  have HREL := Lib.hid hrel
  have HOK := Lib.hid hok
  have HOFF := Lib.hid hoff
  have HXL := Lib.hid H.blk.lt
  obtain ⟨E, hE⟩ : ∃ E, takeE V src seq L now = E := ⟨_, rfl⟩
  have HEE := Lib.hid hE
  have HE := Lib.hid (show E = if !(okRep src seq L && isCap now) then 1 else if (V src.toNat).h && decide (seq ≤ (V src.toNat).q) then 170 else 0 from hE ▸ rfl)
  have HNO := Lib.hid (fun (hne : E ≠ 0) (U : World) (hU : Below W1.heap.size W1 U) => show Turns (fun k => k = x) w U ∧ ∃ Z', RfM U x Z' ∧ RelV (takeV V src seq L now) Z' ∧ KeepZ src seq q L n c9 now Z Z' from by
    rw [take_no (hE ▸ hne)]
    exact ⟨.of_below (hb1.trans (hU.mono hb1.size)), Z, HK.out.below hU, hrel, fun P h _ => h⟩)
  rw [hE]
  have hck := rmcheck_any src seq q L n c9 W1 HL.out hn hm
  have hrp : okRep src seq L = true → 0 ≤ src ∧ src < 16 ∧ n ≤ 1024 := fun h => by
    unfold okRep isR at h
    simp only [Bool.and_eq_true, decide_eq_true_eq] at h
    omega
  obtain ⟨o1, ho1⟩ : ∃ o, okRep src seq L = o := ⟨_, rfl⟩
  have HO1 := Lib.hid ho1
  rw [ho1] at hck HE hrp
  obtain ⟨x0, x1, x2⟩ := rrep_boxes hx1
  have HCK := Lib.hid hck
  clear H hb1 hx1 hl hn hW hE hS0 ho1 hm hrel hok hoff hck
  go_enter Try.func13, Try.ntmps13
  go_wp2_with fail
  rw [HW.out, HSE.out]
  refine HCK.out.mono ?_
  rintro e U ⟨rfl, hb⟩
  have HU := Lib.hid hb
  have HX2 := Lib.hid (HX.out.next hb)
  have HK2 := Lib.hid (HK.out.below hb)
  have HL2 := Lib.hid (HL.out.below hb)
  clear hb x0 x1 x2 HX HK HL HCK
  rcases o1 with _ | _
  · obtain rfl : E = 1 := by rw [HE.out]; rfl
    go_wp2_with fail
    go_ret
    exact ⟨rfl, HNO.out (by decide) _ HU.out⟩
  by_cases hn0 : now < 0
  · have t1 : decide (now < 0) = true := decide_eq_true hn0
    obtain rfl : E = 1 := by
      rw [HE.out]
      rw [show isCap now = false from by rw [Bool.eq_false_iff]; intro h; have := (isCap_iff now).1 h; omega]
      rfl
    go_wp2_with fail
    go_ret
    exact ⟨rfl, HNO.out (by decide) _ HU.out⟩
  have t1 : decide (now < 0) = false := decide_eq_false hn0
  by_cases hn1 : 9007199254740991 < now
  · have t2 : decide (9007199254740991 < now) = true := decide_eq_true hn1
    obtain rfl : E = 1 := by
      rw [HE.out]
      rw [show isCap now = false from by rw [Bool.eq_false_iff]; intro h; have := (isCap_iff now).1 h; omega]
      rfl
    go_wp2_with fail
    go_ret
    exact ⟨rfl, HNO.out (by decide) _ HU.out⟩
  have t2 : decide (9007199254740991 < now) = false := decide_eq_false hn1
  have hcap : isCap now = true := (isCap_iff now).2 (by omega)
  obtain ⟨s0, s16, h1024⟩ := hrp rfl
  obtain ⟨s, rfl⟩ := Int.eq_ofNat_of_zero_le s0
  have hs : s < 16 := by omega
  have HE2 := Lib.hid (show E = if (V s).h && decide (seq ≤ (V s).q) then 170 else 0 from by have h := HE.out; rw [hcap] at h; exact h)
  have hr := HREL.out s hs
  rw [hr.h, hr.q] at HE2
  have HRS := Lib.hid hr
  have HSS := Lib.hid (fun (u : World) (hu : Below U.heap.size U u) => (HK2.out.below hu).src hs)
  have HAT := Lib.hid (HK2.out.at_ s hs)
  have HNE := Lib.hid (HK2.out.ne s hs)
  obtain ⟨⟨zi, ⟨rs, rq, rp, rL, rn, rc⟩, t, ⟨ws, wq, wp, wL, wn, wc⟩, uu⟩, hz⟩ : ∃ z, Z s = z := ⟨_, rfl⟩
  rw [hz] at HSS HE2 HAT HRS HNE
  dsimp only at HSS HE2
  have HZ := Lib.hid hz
  have hxb := Blk.new U 33 [.int .i64 zi, .int .i64 rs, .int .i64 rq, .slice rp rn rc, .int .i64 t, .int .i64 ws, .int .i64 wq, .slice wp wn wc, .int .i64 uu]
  have hbq := newB U (.cells #[.int .i64 zi, .int .i64 rs, .int .i64 rq, .slice rp rn rc, .int .i64 t, .int .i64 ws, .int .i64 wq, .slice wp wn wc, .int .i64 uu] 33)
  obtain ⟨X, hX0⟩ : ∃ X, U.heap.size = X := ⟨_, rfl⟩
  obtain ⟨Q, hQ⟩ : ∃ Q, (U.alloc (.cells #[.int .i64 zi, .int .i64 rs, .int .i64 rq, .slice rp rn rc, .int .i64 t, .int .i64 ws, .int .i64 wq, .slice wp wn wc, .int .i64 uu] 33)).drew = Q := ⟨_, rfl⟩
  have hbq := hbq.drew
  have hxb := hxb.drew
  rw [hQ] at hbq hxb
  rw [hX0] at hxb
  have HQ := Lib.hid hQ
  have HXE := Lib.hid hX0
  have HXB := Lib.hid hxb
  have HBQ := Lib.hid hbq
  have HFS := Lib.hid (fun (u : World) (hu : Below U.heap.size U u) => (rrep_boxes (HX2.out.next hu)).1)
  have hS := And.intro (HFS.out U.drew (Below.refl _ _).drew) (HSS.out U.drew (Below.refl _ _).drew)
  have hS2 := And.intro (HFS.out _ ((newB U (.cells #[.int .i64 zi, .int .i64 rs, .int .i64 rq, .slice rp rn rc, .int .i64 t, .int .i64 ws, .int .i64 wq, .slice wp wn wc, .int .i64 uu] 33)).drew)) (HSS.out _ ((newB U (.cells #[.int .i64 zi, .int .i64 rs, .int .i64 rq, .slice rp rn rc, .int .i64 t, .int .i64 ws, .int .i64 wq, .slice wp wn wc, .int .i64 uu] 33)).drew))
  have g0 := (rrep_boxes HX2.out).1
  clear hr hz hbq hxb hQ hX0 hrp hn0 hn1 g0
  go_wp2_with fail
  go_region_held_law (fun W => W.cell? ⟨S, 0, none⟩ = some (.int .i64 (s : Int)) ∧ ((W.cell? ⟨x, s * 9, none⟩ = some (.int .i64 zi) ∧ W.cell? ⟨x, s * 9 + 1, none⟩ = some (.int .i64 rs) ∧ W.cell? ⟨x, s * 9 + 2, none⟩ = some (.int .i64 rq) ∧ W.cell? ⟨x, s * 9 + 3, none⟩ = some (.slice rp rn rc) ∧ W.cell? ⟨x, s * 9 + 4, none⟩ = some (.int .i64 t)) ∧ W.cell? ⟨x, s * 9 + 5, none⟩ = some (.int .i64 ws) ∧ W.cell? ⟨x, s * 9 + 6, none⟩ = some (.int .i64 wq) ∧ W.cell? ⟨x, s * 9 + 7, none⟩ = some (.slice wp wn wc) ∧ W.cell? ⟨x, s * 9 + 8, none⟩ = some (.int .i64 uu))) (first | with_reducible assumption | exact And.intro (HFS.out _ ((Below.refl _ _).drew.alloc (Nat.le_refl _) _)) (HSS.out _ ((Below.refl _ _).drew.alloc (Nat.le_refl _) _))) (fail)
  all_goals
    clear hS hS2
    rw [HQ.out, HXE.out]
    have HXS := Lib.hid (HX2.out.next HBQ.out)
    obtain ⟨⟨y0, y1, y2, y3, y4⟩, y5, y6, y7, y8⟩ := lz_boxes HXB.out
    obtain ⟨x0, x1, x2⟩ := rrep_boxes HXS.out
    have HKQ := Lib.hid (HK2.out.below HBQ.out)
    change Q.cell? ⟨X, 1 + 1, none⟩ = some (.int .i64 rq) at y2
    have hcases : (0 < zi ∧ seq ≤ rq) ∨ ¬ (0 < zi ∧ seq ≤ rq) := Classical.em _
    rcases hcases with ⟨hz0, hz1⟩ | hno
    · have t3 : decide (0 < zi) = true := decide_eq_true hz0
      have t4 : decide (seq ≤ rq) = true := decide_eq_true hz1
      obtain rfl : E = 170 := by rw [HE2.out, t3, t4]; rfl
      go_wp2_with fail
      go_ret
      exact ⟨rfl, HNO.out (by decide) _ (HU.out.trans (HBQ.out.mono HU.out.size))⟩
    obtain rfl : E = 0 := by
      rw [HE2.out]
      rw [if_neg]
      intro h
      simp only [Bool.and_eq_true, decide_eq_true_eq] at h
      exact hno h
    have hi0 := HRS.out.i0
    have hi2 := HRS.out.i2
    dsimp only at hi0 hi2
    have hz3 : (decide (0 < zi) = false) ∨ (decide (0 < zi) = true ∧ decide (seq ≤ rq) = false) := by
      by_cases h : 0 < zi
      · exact .inr ⟨decide_eq_true h, decide_eq_false (fun h2 => hno ⟨h, h2⟩)⟩
      · exact .inl (decide_eq_false h)
    rcases hz3 with t3 | ⟨t3, t4⟩
    all_goals
      go_wp2_with fail
      clear x0 x1 x2 y0 y1 y2 y3 y4 y5 y6 y7 y8
      go_loopw [8, 9] (fun nv iv wr => ∃ (k : Nat) (N : Int), k ≤ 16 ∧ iv = .int .i64 k ∧ nv = .int .i64 N ∧ 0 ≤ N ∧ N ≤ n + 1024 * (others s k : Int) ∧ Below Q.heap.size Q wr) (fun _ iv _ => 16 - (intOf iv).toNat)
      case atStart => exact ⟨0, n, Nat.zero_le _, rfl, rfl, by omega, by unfold others; simp, Below.refl _ _⟩
      case round =>
        obtain ⟨k, N, hk, rfl, rfl, hN0, hN, hB⟩ := hrel
        have HB := Lib.hid hB
        have HKK := Lib.hid (HKQ.out.below hB)
        have HXK := Lib.hid (HXS.out.next hB)
        obtain ⟨x0, x1, x2⟩ := rrep_boxes HXK.out
        clear hB
        by_cases hlt : k < 16
        · have hlt' : (k : Int) < 16 := by omega
          have k0 : (0 : Int) ≤ (k : Int) := by omega
          have ho16 : others s k ≤ 16 := by unfold others; split <;> omega
          obtain ⟨⟨_, _, _, z3, _⟩, _⟩ := HKK.out.src hlt
          have hzm := (HKK.out.at_ k hlt).rm
          change wr.cell? ⟨x, k * 9 + 1 + 2, none⟩ = _ at z3
          obtain ⟨zp, hzp⟩ : ∃ a, (Z k).R.p = a := ⟨_, rfl⟩
          obtain ⟨zn, hzn⟩ : ∃ a, (Z k).R.n = a := ⟨_, rfl⟩
          obtain ⟨zc, hzc⟩ : ∃ a, (Z k).R.cap = a := ⟨_, rfl⟩
          rw [hzp, hzn, hzc] at z3
          rw [hzn] at hzm
          clear hzp hzn hzc
          by_cases he : k = s
          · subst he
            have t5 : ((k : Int) != (k : Int)) = false := by simp
            have hoth : others k (k + 1) = others k k := by unfold others; rw [if_pos (by omega), if_neg (by omega)]; omega
            go_wp2_with fail
            go_roundw
            case rel => exact ⟨k + 1, N, by omega, by go_num, rfl, hN0, by rw [hoth]; exact hN, HB.out⟩
            case measure => simp [intOf]; omega
          · have t5 : ((k : Int) != (s : Int)) = true := by simp; omega
            have hoth : others s (k + 1) = others s k + 1 := by unfold others; split <;> split <;> omega
            have w1 : wrap64 (N + (zn : Int)) = N + zn := IntWalk.wrap64_in _ (by omega)
            go_wp2_with fail
            go_roundw
            case rel => exact ⟨k + 1, N + zn, by omega, by go_num, rfl, by omega, by rw [hoth]; omega, HB.out⟩
            case measure => simp [intOf]; omega
        · obtain rfl : k = 16 := by omega
          have ho : others s 16 = 15 := by unfold others; rw [if_pos hs]
          rw [ho] at hN
          have t6 : decide (16384 < N) = false := decide_eq_false (by omega)
          have hyb := HXB.out.next HB.out
          obtain ⟨⟨y0, y1, y2, y3, y4⟩, y5, y6, y7, y8⟩ := lz_boxes hyb
          have HYB := Lib.hid hyb
          have z0 : ∀ o : Obj, (wr.alloc o).cell? ⟨X, 0, none⟩ = some (.int .i64 zi) := fun o => kept (newB wr o) y0
          have z1 : ∀ o : Obj, (wr.alloc o).cell? ⟨X, 1, none⟩ = some (.int .i64 rs) := fun o => kept (newB wr o) y1
          have z2 : ∀ o : Obj, (wr.alloc o).cell? ⟨X, 2, none⟩ = some (.int .i64 rq) := fun o => kept (newB wr o) y2
          have z3 : ∀ o : Obj, (wr.alloc o).cell? ⟨X, 3, none⟩ = some (.slice rp rn rc) := fun o => kept (newB wr o) y3
          have z4 : ∀ o : Obj, (wr.alloc o).cell? ⟨X, 4, none⟩ = some (.int .i64 t) := fun o => kept (newB wr o) y4
          clear hyb y0 y1 y2 y3 y4 y5 y6 y7 y8
          -- TAIL
          have hnow0 : 0 ≤ now := by have := of_decide_eq_false t1; omega
          have hnow1 : now ≤ 9007199254740991 := by have := of_decide_eq_false t2; omega
          go_wp2_with fail
          by_cases hzz : 0 < zi
          rotate_left
          · first
            | exact absurd (of_decide_eq_true t3) hzz
            | (have HIF := Lib.hid (show (if 0 < zi then (⟨2, ⟨(s : Int), seq, q, L, n, c9⟩, now, ⟨rs, rq, rp, rL, rn, rc⟩, t⟩ : Lz) else ⟨1, ⟨(s : Int), seq, q, L, n, c9⟩, now, Rp.zero, 0⟩) = ⟨1, ⟨(s : Int), seq, q, L, n, c9⟩, now, Rp.zero, 0⟩ from if_neg hzz)
               have hby := newB wr (.cells #[.int .i64 1, .int .i64 (s : Int), .int .i64 seq, .slice q n c9, .int .i64 now, .int .i64 0, .int .i64 0, .slice none 0 0, .int .i64 0] 33)
               have hyy := Blk.new wr 33 [.int .i64 1, .int .i64 (s : Int), .int .i64 seq, .slice q n c9, .int .i64 now, .int .i64 0, .int .i64 0, .slice none 0 0, .int .i64 0]
               obtain ⟨Y, hY0⟩ : ∃ Y, wr.heap.size = Y := ⟨_, rfl⟩
               obtain ⟨WN, hWN⟩ : ∃ W, wr.alloc (.cells #[.int .i64 1, .int .i64 (s : Int), .int .i64 seq, .slice q n c9, .int .i64 now, .int .i64 0, .int .i64 0, .slice none 0 0, .int .i64 0] 33) = W := ⟨_, rfl⟩
               rw [hWN] at hby hyy
               rw [hY0] at hyy
               have hbN := HB.out.trans (hby.mono HB.out.size)
               have hkD := HKQ.out.below hbN
               have hxD := HXS.out.next hbN
               have hatD : LzAt WN ⟨1, ⟨(s : Int), seq, q, L, n, c9⟩, now, Rp.zero, 0⟩ := ⟨((HL2.out.below HBQ.out).below hbN), HN.out, h1024, LAt.nil _ _ _ _ _ _, rfl, show (0 : Nat) ≤ 1024 by decide, (fun y hy => by have ho := HO1.out; unfold okRep at ho; simp only [Bool.and_eq_true] at ho; have h := (distT_iff L [] ho.2.2.2).1 y hy; unfold fineCt at h; simp only [Bool.and_eq_true] at h; exact (isCap_iff _).1 h.2), (fun y hy => by cases hy), hnow0, hnow1, Int.le_refl _, show (0 : Int) ≤ 9007199254740991 by decide⟩
               have hneD : Off x (⟨1, ⟨(s : Int), seq, q, L, n, c9⟩, now, Rp.zero, 0⟩ : Lz).R ∧ Off x (⟨1, ⟨(s : Int), seq, q, L, n, c9⟩, now, Rp.zero, 0⟩ : Lz).W := ⟨HOFF.out, fun h => absurd rfl h⟩
               obtain ⟨hrf, hTF⟩ := hkD.heard hs ⟨1, ⟨(s : Int), seq, q, L, n, c9⟩, now, Rp.zero, 0⟩ hatD hneD
               have HRF := Lib.hid (show RfM ((((((((((WN.setCell ⟨x, s * 9, none⟩ (.int .i64 1)).setCell ⟨x, s * 9 + 1, none⟩ (.int .i64 (s : Int))).setCell ⟨x, s * 9 + 2, none⟩ (.int .i64 seq)).setCell ⟨x, s * 9 + 3, none⟩ (.slice q n c9)).setCell ⟨x, s * 9 + 4, none⟩ (.int .i64 now)).setCell ⟨x, s * 9 + 5, none⟩ (.int .i64 0)).setCell ⟨x, s * 9 + 6, none⟩ (.int .i64 0)).setCell ⟨x, s * 9 + 7, none⟩ (.slice none 0 0)).setCell ⟨x, s * 9 + 8, none⟩ (.int .i64 0))).drew x (setV Z s ⟨1, ⟨(s : Int), seq, q, L, n, c9⟩, now, Rp.zero, 0⟩) from hrf.below (Below.refl _ _).drew)
               have HTF := Lib.hid (show Turns (fun k => k = x) WN ((((((((((WN.setCell ⟨x, s * 9, none⟩ (.int .i64 1)).setCell ⟨x, s * 9 + 1, none⟩ (.int .i64 (s : Int))).setCell ⟨x, s * 9 + 2, none⟩ (.int .i64 seq)).setCell ⟨x, s * 9 + 3, none⟩ (.slice q n c9)).setCell ⟨x, s * 9 + 4, none⟩ (.int .i64 now)).setCell ⟨x, s * 9 + 5, none⟩ (.int .i64 0)).setCell ⟨x, s * 9 + 6, none⟩ (.int .i64 0)).setCell ⟨x, s * 9 + 7, none⟩ (.slice none 0 0)).setCell ⟨x, s * 9 + 8, none⟩ (.int .i64 0))).drew from hTF.trans (.of_below (Below.refl _ _).drew))
               have hSx : S ≠ x := fun e => by have h1 := HXL.out; have h2 := HSE.out; omega
               have hYx : Y ≠ x := fun e => by have h1 := HXL.out; have h2 := HB1.out.size; have h3 := HU.out.size; have h4 := HBQ.out.size; have h5 := HB.out.size; omega
               have hxC := hxD.of_same (hTF.block S hxD.lt hSx)
               have hyC := hyy.of_same (hTF.block Y hyy.lt hYx)
               have hS : WN.cell? ⟨S, 0, none⟩ = some (.int .i64 (s : Int)) ∧ ((WN.cell? ⟨Y, 0, none⟩ = some (.int .i64 1) ∧ WN.cell? ⟨Y, 1, none⟩ = some (.int .i64 (s : Int)) ∧ WN.cell? ⟨Y, 2, none⟩ = some (.int .i64 seq) ∧ WN.cell? ⟨Y, 3, none⟩ = some (.slice q n c9) ∧ WN.cell? ⟨Y, 4, none⟩ = some (.int .i64 now)) ∧ WN.cell? ⟨Y, 5, none⟩ = some (.int .i64 0) ∧ WN.cell? ⟨Y, 6, none⟩ = some (.int .i64 0) ∧ WN.cell? ⟨Y, 7, none⟩ = some (.slice none 0 0) ∧ WN.cell? ⟨Y, 8, none⟩ = some (.int .i64 0)) := ⟨(rrep_boxes hxD).1, lz_boxes hyy⟩
               have hSC : (((((((((WN.setCell ⟨x, s * 9, none⟩ (.int .i64 1)).setCell ⟨x, s * 9 + 1, none⟩ (.int .i64 (s : Int))).setCell ⟨x, s * 9 + 2, none⟩ (.int .i64 seq)).setCell ⟨x, s * 9 + 3, none⟩ (.slice q n c9)).setCell ⟨x, s * 9 + 4, none⟩ (.int .i64 now)).setCell ⟨x, s * 9 + 5, none⟩ (.int .i64 0)).setCell ⟨x, s * 9 + 6, none⟩ (.int .i64 0)).setCell ⟨x, s * 9 + 7, none⟩ (.slice none 0 0)).setCell ⟨x, s * 9 + 8, none⟩ (.int .i64 0)).cell? ⟨S, 0, none⟩ = some (.int .i64 (s : Int)) ∧ (((((((((((WN.setCell ⟨x, s * 9, none⟩ (.int .i64 1)).setCell ⟨x, s * 9 + 1, none⟩ (.int .i64 (s : Int))).setCell ⟨x, s * 9 + 2, none⟩ (.int .i64 seq)).setCell ⟨x, s * 9 + 3, none⟩ (.slice q n c9)).setCell ⟨x, s * 9 + 4, none⟩ (.int .i64 now)).setCell ⟨x, s * 9 + 5, none⟩ (.int .i64 0)).setCell ⟨x, s * 9 + 6, none⟩ (.int .i64 0)).setCell ⟨x, s * 9 + 7, none⟩ (.slice none 0 0)).setCell ⟨x, s * 9 + 8, none⟩ (.int .i64 0)).cell? ⟨Y, 0, none⟩ = some (.int .i64 1) ∧ (((((((((WN.setCell ⟨x, s * 9, none⟩ (.int .i64 1)).setCell ⟨x, s * 9 + 1, none⟩ (.int .i64 (s : Int))).setCell ⟨x, s * 9 + 2, none⟩ (.int .i64 seq)).setCell ⟨x, s * 9 + 3, none⟩ (.slice q n c9)).setCell ⟨x, s * 9 + 4, none⟩ (.int .i64 now)).setCell ⟨x, s * 9 + 5, none⟩ (.int .i64 0)).setCell ⟨x, s * 9 + 6, none⟩ (.int .i64 0)).setCell ⟨x, s * 9 + 7, none⟩ (.slice none 0 0)).setCell ⟨x, s * 9 + 8, none⟩ (.int .i64 0)).cell? ⟨Y, 1, none⟩ = some (.int .i64 (s : Int)) ∧ (((((((((WN.setCell ⟨x, s * 9, none⟩ (.int .i64 1)).setCell ⟨x, s * 9 + 1, none⟩ (.int .i64 (s : Int))).setCell ⟨x, s * 9 + 2, none⟩ (.int .i64 seq)).setCell ⟨x, s * 9 + 3, none⟩ (.slice q n c9)).setCell ⟨x, s * 9 + 4, none⟩ (.int .i64 now)).setCell ⟨x, s * 9 + 5, none⟩ (.int .i64 0)).setCell ⟨x, s * 9 + 6, none⟩ (.int .i64 0)).setCell ⟨x, s * 9 + 7, none⟩ (.slice none 0 0)).setCell ⟨x, s * 9 + 8, none⟩ (.int .i64 0)).cell? ⟨Y, 2, none⟩ = some (.int .i64 seq) ∧ (((((((((WN.setCell ⟨x, s * 9, none⟩ (.int .i64 1)).setCell ⟨x, s * 9 + 1, none⟩ (.int .i64 (s : Int))).setCell ⟨x, s * 9 + 2, none⟩ (.int .i64 seq)).setCell ⟨x, s * 9 + 3, none⟩ (.slice q n c9)).setCell ⟨x, s * 9 + 4, none⟩ (.int .i64 now)).setCell ⟨x, s * 9 + 5, none⟩ (.int .i64 0)).setCell ⟨x, s * 9 + 6, none⟩ (.int .i64 0)).setCell ⟨x, s * 9 + 7, none⟩ (.slice none 0 0)).setCell ⟨x, s * 9 + 8, none⟩ (.int .i64 0)).cell? ⟨Y, 3, none⟩ = some (.slice q n c9) ∧ (((((((((WN.setCell ⟨x, s * 9, none⟩ (.int .i64 1)).setCell ⟨x, s * 9 + 1, none⟩ (.int .i64 (s : Int))).setCell ⟨x, s * 9 + 2, none⟩ (.int .i64 seq)).setCell ⟨x, s * 9 + 3, none⟩ (.slice q n c9)).setCell ⟨x, s * 9 + 4, none⟩ (.int .i64 now)).setCell ⟨x, s * 9 + 5, none⟩ (.int .i64 0)).setCell ⟨x, s * 9 + 6, none⟩ (.int .i64 0)).setCell ⟨x, s * 9 + 7, none⟩ (.slice none 0 0)).setCell ⟨x, s * 9 + 8, none⟩ (.int .i64 0)).cell? ⟨Y, 4, none⟩ = some (.int .i64 now)) ∧ (((((((((WN.setCell ⟨x, s * 9, none⟩ (.int .i64 1)).setCell ⟨x, s * 9 + 1, none⟩ (.int .i64 (s : Int))).setCell ⟨x, s * 9 + 2, none⟩ (.int .i64 seq)).setCell ⟨x, s * 9 + 3, none⟩ (.slice q n c9)).setCell ⟨x, s * 9 + 4, none⟩ (.int .i64 now)).setCell ⟨x, s * 9 + 5, none⟩ (.int .i64 0)).setCell ⟨x, s * 9 + 6, none⟩ (.int .i64 0)).setCell ⟨x, s * 9 + 7, none⟩ (.slice none 0 0)).setCell ⟨x, s * 9 + 8, none⟩ (.int .i64 0)).cell? ⟨Y, 5, none⟩ = some (.int .i64 0) ∧ (((((((((WN.setCell ⟨x, s * 9, none⟩ (.int .i64 1)).setCell ⟨x, s * 9 + 1, none⟩ (.int .i64 (s : Int))).setCell ⟨x, s * 9 + 2, none⟩ (.int .i64 seq)).setCell ⟨x, s * 9 + 3, none⟩ (.slice q n c9)).setCell ⟨x, s * 9 + 4, none⟩ (.int .i64 now)).setCell ⟨x, s * 9 + 5, none⟩ (.int .i64 0)).setCell ⟨x, s * 9 + 6, none⟩ (.int .i64 0)).setCell ⟨x, s * 9 + 7, none⟩ (.slice none 0 0)).setCell ⟨x, s * 9 + 8, none⟩ (.int .i64 0)).cell? ⟨Y, 6, none⟩ = some (.int .i64 0) ∧ (((((((((WN.setCell ⟨x, s * 9, none⟩ (.int .i64 1)).setCell ⟨x, s * 9 + 1, none⟩ (.int .i64 (s : Int))).setCell ⟨x, s * 9 + 2, none⟩ (.int .i64 seq)).setCell ⟨x, s * 9 + 3, none⟩ (.slice q n c9)).setCell ⟨x, s * 9 + 4, none⟩ (.int .i64 now)).setCell ⟨x, s * 9 + 5, none⟩ (.int .i64 0)).setCell ⟨x, s * 9 + 6, none⟩ (.int .i64 0)).setCell ⟨x, s * 9 + 7, none⟩ (.slice none 0 0)).setCell ⟨x, s * 9 + 8, none⟩ (.int .i64 0)).cell? ⟨Y, 7, none⟩ = some (.slice none 0 0) ∧ (((((((((WN.setCell ⟨x, s * 9, none⟩ (.int .i64 1)).setCell ⟨x, s * 9 + 1, none⟩ (.int .i64 (s : Int))).setCell ⟨x, s * 9 + 2, none⟩ (.int .i64 seq)).setCell ⟨x, s * 9 + 3, none⟩ (.slice q n c9)).setCell ⟨x, s * 9 + 4, none⟩ (.int .i64 now)).setCell ⟨x, s * 9 + 5, none⟩ (.int .i64 0)).setCell ⟨x, s * 9 + 6, none⟩ (.int .i64 0)).setCell ⟨x, s * 9 + 7, none⟩ (.slice none 0 0)).setCell ⟨x, s * 9 + 8, none⟩ (.int .i64 0)).cell? ⟨Y, 8, none⟩ = some (.int .i64 0)) := ⟨(rrep_boxes hxC).1, lz_boxes hyC⟩
               have f0 := hkD.blk.f (s * 9)
               have f1 := hkD.blk.f (s * 9 + 1)
               have f2 := hkD.blk.f (s * 9 + 2)
               have f3 := hkD.blk.f (s * 9 + 3)
               have f4 := hkD.blk.f (s * 9 + 4)
               have f5 := hkD.blk.f (s * 9 + 5)
               have f6 := hkD.blk.f (s * 9 + 6)
               have f7 := hkD.blk.f (s * 9 + 7)
               have f8 := hkD.blk.f (s * 9 + 8)
               obtain ⟨⟨k0, k1, k2, k3, k4⟩, k5, k6, k7, k8⟩ := hkD.src hs
               have HWN := Lib.hid hWN
               have HYE := Lib.hid hY0
               have HTT := Lib.hid ((((Turns.of_below (S := fun k => k = x) (HB1.out.trans (HU.out.mono HB1.out.size))).trans (.of_below HBQ.out)).trans (.of_below hbN)).trans HTF.out)
               have HREL2 := Lib.hid (show RelV (takeV V (s : Int) seq L now) (setV Z s ⟨1, ⟨(s : Int), seq, q, L, n, c9⟩, now, Rp.zero, 0⟩) from by
                 unfold takeV
                 rw [if_pos HEE.out]
                 intro i hi
                 show RelZ (setV V s _ i) _
                 by_cases e : i = s
                 · subst e
                   rw [setV_self, setV_self]
                   have h := rel_then HRS.out (HOK.out _ hs) (i : Int) seq q L n c9 now
                   unfold thenZ at h
                   rw [HIF.out] at h
                   exact h
                 · rw [setV_ne _ _ e, setV_ne _ _ e]; exact HREL.out i hi)
               have HKZ := Lib.hid (show KeepZ (s : Int) seq q L n c9 now Z (setV Z s ⟨1, ⟨(s : Int), seq, q, L, n, c9⟩, now, Rp.zero, 0⟩) from fun P h ht j hj => by
                 by_cases e : j = s
                 · subst e
                   rw [setV_self]
                   have h2 := ht HO1.out hcap (Z j) (h j hj)
                   rw [HZ.out] at h2
                   unfold thenZ at h2
                   dsimp only at h2
                   rw [HIF.out] at h2
                   exact h2
                 · rw [setV_ne _ _ e]; exact h j hj)
               rw [HWN.out, HYE.out]
               clear hby hyy hY0 hWN hbN hkD hxD hatD hneD hrf hTF hSx hYx hxC hyC z0 z1 z2 z3 z4 x0 x1 x2
               obtain ⟨q0, ⟨q1, q2, q3, q4, q5⟩, q6, q7, q8, q9⟩ := hS
               obtain ⟨r0, ⟨r1, r2, r3, r4, r5⟩, r6, r7, r8, r9⟩ := hSC
               go_region_law (fail)
               all_goals
                 clear f0 f1 f2 f3 f4 f5 f6 f7 f8 k0 k1 k2 k3 k4 k5 k6 k7 k8
                 go_wp2_with fail
                 go_ret
                 exact ⟨rfl, HTT.out, _, HRF.out, HREL2.out, HKZ.out⟩)
          · first
            | exact absurd hzz (of_decide_eq_false t3)
            | (have HIF := Lib.hid (show (if 0 < zi then (⟨2, ⟨(s : Int), seq, q, L, n, c9⟩, now, ⟨rs, rq, rp, rL, rn, rc⟩, t⟩ : Lz) else ⟨1, ⟨(s : Int), seq, q, L, n, c9⟩, now, Rp.zero, 0⟩) = ⟨2, ⟨(s : Int), seq, q, L, n, c9⟩, now, ⟨rs, rq, rp, rL, rn, rc⟩, t⟩ from if_pos hzz)
               have hby := newB wr (.cells #[.int .i64 2, .int .i64 (s : Int), .int .i64 seq, .slice q n c9, .int .i64 now, .int .i64 rs, .int .i64 rq, .slice rp rn rc, .int .i64 t] 33)
               have hyy := Blk.new wr 33 [.int .i64 2, .int .i64 (s : Int), .int .i64 seq, .slice q n c9, .int .i64 now, .int .i64 rs, .int .i64 rq, .slice rp rn rc, .int .i64 t]
               obtain ⟨Y, hY0⟩ : ∃ Y, wr.heap.size = Y := ⟨_, rfl⟩
               obtain ⟨WN, hWN⟩ : ∃ W, wr.alloc (.cells #[.int .i64 2, .int .i64 (s : Int), .int .i64 seq, .slice q n c9, .int .i64 now, .int .i64 rs, .int .i64 rq, .slice rp rn rc, .int .i64 t] 33) = W := ⟨_, rfl⟩
               rw [hWN] at hby hyy
               rw [hY0] at hyy
               have hbN := HB.out.trans (hby.mono HB.out.size)
               have hkD := HKQ.out.below hbN
               have hxD := HXS.out.next hbN
               have hatD : LzAt WN ⟨2, ⟨(s : Int), seq, q, L, n, c9⟩, now, ⟨rs, rq, rp, rL, rn, rc⟩, t⟩ := ⟨((HL2.out.below HBQ.out).below hbN), HN.out, h1024, ((HAT.out.below HBQ.out).below hbN).r, ((HAT.out.below HBQ.out).below hbN).rn, ((HAT.out.below HBQ.out).below hbN).rm, (fun y hy => by have ho := HO1.out; unfold okRep at ho; simp only [Bool.and_eq_true] at ho; have h := (distT_iff L [] ho.2.2.2).1 y hy; unfold fineCt at h; simp only [Bool.and_eq_true] at h; exact (isCap_iff _).1 h.2), ((HAT.out.below HBQ.out).below hbN).rc, hnow0, hnow1, ((HAT.out.below HBQ.out).below hbN).t0, ((HAT.out.below HBQ.out).below hbN).t1⟩
               have hneD : Off x (⟨2, ⟨(s : Int), seq, q, L, n, c9⟩, now, ⟨rs, rq, rp, rL, rn, rc⟩, t⟩ : Lz).R ∧ Off x (⟨2, ⟨(s : Int), seq, q, L, n, c9⟩, now, ⟨rs, rq, rp, rL, rn, rc⟩, t⟩ : Lz).W := ⟨HOFF.out, HNE.out.1⟩
               obtain ⟨hrf, hTF⟩ := hkD.heard hs ⟨2, ⟨(s : Int), seq, q, L, n, c9⟩, now, ⟨rs, rq, rp, rL, rn, rc⟩, t⟩ hatD hneD
               have HRF := Lib.hid (show RfM ((((((((((WN.setCell ⟨x, s * 9, none⟩ (.int .i64 2)).setCell ⟨x, s * 9 + 1, none⟩ (.int .i64 (s : Int))).setCell ⟨x, s * 9 + 2, none⟩ (.int .i64 seq)).setCell ⟨x, s * 9 + 3, none⟩ (.slice q n c9)).setCell ⟨x, s * 9 + 4, none⟩ (.int .i64 now)).setCell ⟨x, s * 9 + 5, none⟩ (.int .i64 rs)).setCell ⟨x, s * 9 + 6, none⟩ (.int .i64 rq)).setCell ⟨x, s * 9 + 7, none⟩ (.slice rp rn rc)).setCell ⟨x, s * 9 + 8, none⟩ (.int .i64 t))).drew x (setV Z s ⟨2, ⟨(s : Int), seq, q, L, n, c9⟩, now, ⟨rs, rq, rp, rL, rn, rc⟩, t⟩) from hrf.below (Below.refl _ _).drew)
               have HTF := Lib.hid (show Turns (fun k => k = x) WN ((((((((((WN.setCell ⟨x, s * 9, none⟩ (.int .i64 2)).setCell ⟨x, s * 9 + 1, none⟩ (.int .i64 (s : Int))).setCell ⟨x, s * 9 + 2, none⟩ (.int .i64 seq)).setCell ⟨x, s * 9 + 3, none⟩ (.slice q n c9)).setCell ⟨x, s * 9 + 4, none⟩ (.int .i64 now)).setCell ⟨x, s * 9 + 5, none⟩ (.int .i64 rs)).setCell ⟨x, s * 9 + 6, none⟩ (.int .i64 rq)).setCell ⟨x, s * 9 + 7, none⟩ (.slice rp rn rc)).setCell ⟨x, s * 9 + 8, none⟩ (.int .i64 t))).drew from hTF.trans (.of_below (Below.refl _ _).drew))
               have hSx : S ≠ x := fun e => by have h1 := HXL.out; have h2 := HSE.out; omega
               have hYx : Y ≠ x := fun e => by have h1 := HXL.out; have h2 := HB1.out.size; have h3 := HU.out.size; have h4 := HBQ.out.size; have h5 := HB.out.size; omega
               have hxC := hxD.of_same (hTF.block S hxD.lt hSx)
               have hyC := hyy.of_same (hTF.block Y hyy.lt hYx)
               have hS : WN.cell? ⟨S, 0, none⟩ = some (.int .i64 (s : Int)) ∧ ((WN.cell? ⟨Y, 0, none⟩ = some (.int .i64 2) ∧ WN.cell? ⟨Y, 1, none⟩ = some (.int .i64 (s : Int)) ∧ WN.cell? ⟨Y, 2, none⟩ = some (.int .i64 seq) ∧ WN.cell? ⟨Y, 3, none⟩ = some (.slice q n c9) ∧ WN.cell? ⟨Y, 4, none⟩ = some (.int .i64 now)) ∧ WN.cell? ⟨Y, 5, none⟩ = some (.int .i64 rs) ∧ WN.cell? ⟨Y, 6, none⟩ = some (.int .i64 rq) ∧ WN.cell? ⟨Y, 7, none⟩ = some (.slice rp rn rc) ∧ WN.cell? ⟨Y, 8, none⟩ = some (.int .i64 t)) := ⟨(rrep_boxes hxD).1, lz_boxes hyy⟩
               have hSC : (((((((((WN.setCell ⟨x, s * 9, none⟩ (.int .i64 2)).setCell ⟨x, s * 9 + 1, none⟩ (.int .i64 (s : Int))).setCell ⟨x, s * 9 + 2, none⟩ (.int .i64 seq)).setCell ⟨x, s * 9 + 3, none⟩ (.slice q n c9)).setCell ⟨x, s * 9 + 4, none⟩ (.int .i64 now)).setCell ⟨x, s * 9 + 5, none⟩ (.int .i64 rs)).setCell ⟨x, s * 9 + 6, none⟩ (.int .i64 rq)).setCell ⟨x, s * 9 + 7, none⟩ (.slice rp rn rc)).setCell ⟨x, s * 9 + 8, none⟩ (.int .i64 t)).cell? ⟨S, 0, none⟩ = some (.int .i64 (s : Int)) ∧ (((((((((((WN.setCell ⟨x, s * 9, none⟩ (.int .i64 2)).setCell ⟨x, s * 9 + 1, none⟩ (.int .i64 (s : Int))).setCell ⟨x, s * 9 + 2, none⟩ (.int .i64 seq)).setCell ⟨x, s * 9 + 3, none⟩ (.slice q n c9)).setCell ⟨x, s * 9 + 4, none⟩ (.int .i64 now)).setCell ⟨x, s * 9 + 5, none⟩ (.int .i64 rs)).setCell ⟨x, s * 9 + 6, none⟩ (.int .i64 rq)).setCell ⟨x, s * 9 + 7, none⟩ (.slice rp rn rc)).setCell ⟨x, s * 9 + 8, none⟩ (.int .i64 t)).cell? ⟨Y, 0, none⟩ = some (.int .i64 2) ∧ (((((((((WN.setCell ⟨x, s * 9, none⟩ (.int .i64 2)).setCell ⟨x, s * 9 + 1, none⟩ (.int .i64 (s : Int))).setCell ⟨x, s * 9 + 2, none⟩ (.int .i64 seq)).setCell ⟨x, s * 9 + 3, none⟩ (.slice q n c9)).setCell ⟨x, s * 9 + 4, none⟩ (.int .i64 now)).setCell ⟨x, s * 9 + 5, none⟩ (.int .i64 rs)).setCell ⟨x, s * 9 + 6, none⟩ (.int .i64 rq)).setCell ⟨x, s * 9 + 7, none⟩ (.slice rp rn rc)).setCell ⟨x, s * 9 + 8, none⟩ (.int .i64 t)).cell? ⟨Y, 1, none⟩ = some (.int .i64 (s : Int)) ∧ (((((((((WN.setCell ⟨x, s * 9, none⟩ (.int .i64 2)).setCell ⟨x, s * 9 + 1, none⟩ (.int .i64 (s : Int))).setCell ⟨x, s * 9 + 2, none⟩ (.int .i64 seq)).setCell ⟨x, s * 9 + 3, none⟩ (.slice q n c9)).setCell ⟨x, s * 9 + 4, none⟩ (.int .i64 now)).setCell ⟨x, s * 9 + 5, none⟩ (.int .i64 rs)).setCell ⟨x, s * 9 + 6, none⟩ (.int .i64 rq)).setCell ⟨x, s * 9 + 7, none⟩ (.slice rp rn rc)).setCell ⟨x, s * 9 + 8, none⟩ (.int .i64 t)).cell? ⟨Y, 2, none⟩ = some (.int .i64 seq) ∧ (((((((((WN.setCell ⟨x, s * 9, none⟩ (.int .i64 2)).setCell ⟨x, s * 9 + 1, none⟩ (.int .i64 (s : Int))).setCell ⟨x, s * 9 + 2, none⟩ (.int .i64 seq)).setCell ⟨x, s * 9 + 3, none⟩ (.slice q n c9)).setCell ⟨x, s * 9 + 4, none⟩ (.int .i64 now)).setCell ⟨x, s * 9 + 5, none⟩ (.int .i64 rs)).setCell ⟨x, s * 9 + 6, none⟩ (.int .i64 rq)).setCell ⟨x, s * 9 + 7, none⟩ (.slice rp rn rc)).setCell ⟨x, s * 9 + 8, none⟩ (.int .i64 t)).cell? ⟨Y, 3, none⟩ = some (.slice q n c9) ∧ (((((((((WN.setCell ⟨x, s * 9, none⟩ (.int .i64 2)).setCell ⟨x, s * 9 + 1, none⟩ (.int .i64 (s : Int))).setCell ⟨x, s * 9 + 2, none⟩ (.int .i64 seq)).setCell ⟨x, s * 9 + 3, none⟩ (.slice q n c9)).setCell ⟨x, s * 9 + 4, none⟩ (.int .i64 now)).setCell ⟨x, s * 9 + 5, none⟩ (.int .i64 rs)).setCell ⟨x, s * 9 + 6, none⟩ (.int .i64 rq)).setCell ⟨x, s * 9 + 7, none⟩ (.slice rp rn rc)).setCell ⟨x, s * 9 + 8, none⟩ (.int .i64 t)).cell? ⟨Y, 4, none⟩ = some (.int .i64 now)) ∧ (((((((((WN.setCell ⟨x, s * 9, none⟩ (.int .i64 2)).setCell ⟨x, s * 9 + 1, none⟩ (.int .i64 (s : Int))).setCell ⟨x, s * 9 + 2, none⟩ (.int .i64 seq)).setCell ⟨x, s * 9 + 3, none⟩ (.slice q n c9)).setCell ⟨x, s * 9 + 4, none⟩ (.int .i64 now)).setCell ⟨x, s * 9 + 5, none⟩ (.int .i64 rs)).setCell ⟨x, s * 9 + 6, none⟩ (.int .i64 rq)).setCell ⟨x, s * 9 + 7, none⟩ (.slice rp rn rc)).setCell ⟨x, s * 9 + 8, none⟩ (.int .i64 t)).cell? ⟨Y, 5, none⟩ = some (.int .i64 rs) ∧ (((((((((WN.setCell ⟨x, s * 9, none⟩ (.int .i64 2)).setCell ⟨x, s * 9 + 1, none⟩ (.int .i64 (s : Int))).setCell ⟨x, s * 9 + 2, none⟩ (.int .i64 seq)).setCell ⟨x, s * 9 + 3, none⟩ (.slice q n c9)).setCell ⟨x, s * 9 + 4, none⟩ (.int .i64 now)).setCell ⟨x, s * 9 + 5, none⟩ (.int .i64 rs)).setCell ⟨x, s * 9 + 6, none⟩ (.int .i64 rq)).setCell ⟨x, s * 9 + 7, none⟩ (.slice rp rn rc)).setCell ⟨x, s * 9 + 8, none⟩ (.int .i64 t)).cell? ⟨Y, 6, none⟩ = some (.int .i64 rq) ∧ (((((((((WN.setCell ⟨x, s * 9, none⟩ (.int .i64 2)).setCell ⟨x, s * 9 + 1, none⟩ (.int .i64 (s : Int))).setCell ⟨x, s * 9 + 2, none⟩ (.int .i64 seq)).setCell ⟨x, s * 9 + 3, none⟩ (.slice q n c9)).setCell ⟨x, s * 9 + 4, none⟩ (.int .i64 now)).setCell ⟨x, s * 9 + 5, none⟩ (.int .i64 rs)).setCell ⟨x, s * 9 + 6, none⟩ (.int .i64 rq)).setCell ⟨x, s * 9 + 7, none⟩ (.slice rp rn rc)).setCell ⟨x, s * 9 + 8, none⟩ (.int .i64 t)).cell? ⟨Y, 7, none⟩ = some (.slice rp rn rc) ∧ (((((((((WN.setCell ⟨x, s * 9, none⟩ (.int .i64 2)).setCell ⟨x, s * 9 + 1, none⟩ (.int .i64 (s : Int))).setCell ⟨x, s * 9 + 2, none⟩ (.int .i64 seq)).setCell ⟨x, s * 9 + 3, none⟩ (.slice q n c9)).setCell ⟨x, s * 9 + 4, none⟩ (.int .i64 now)).setCell ⟨x, s * 9 + 5, none⟩ (.int .i64 rs)).setCell ⟨x, s * 9 + 6, none⟩ (.int .i64 rq)).setCell ⟨x, s * 9 + 7, none⟩ (.slice rp rn rc)).setCell ⟨x, s * 9 + 8, none⟩ (.int .i64 t)).cell? ⟨Y, 8, none⟩ = some (.int .i64 t)) := ⟨(rrep_boxes hxC).1, lz_boxes hyC⟩
               have f0 := hkD.blk.f (s * 9)
               have f1 := hkD.blk.f (s * 9 + 1)
               have f2 := hkD.blk.f (s * 9 + 2)
               have f3 := hkD.blk.f (s * 9 + 3)
               have f4 := hkD.blk.f (s * 9 + 4)
               have f5 := hkD.blk.f (s * 9 + 5)
               have f6 := hkD.blk.f (s * 9 + 6)
               have f7 := hkD.blk.f (s * 9 + 7)
               have f8 := hkD.blk.f (s * 9 + 8)
               obtain ⟨⟨k0, k1, k2, k3, k4⟩, k5, k6, k7, k8⟩ := hkD.src hs
               have HWN := Lib.hid hWN
               have HYE := Lib.hid hY0
               have HTT := Lib.hid ((((Turns.of_below (S := fun k => k = x) (HB1.out.trans (HU.out.mono HB1.out.size))).trans (.of_below HBQ.out)).trans (.of_below hbN)).trans HTF.out)
               have HREL2 := Lib.hid (show RelV (takeV V (s : Int) seq L now) (setV Z s ⟨2, ⟨(s : Int), seq, q, L, n, c9⟩, now, ⟨rs, rq, rp, rL, rn, rc⟩, t⟩) from by
                 unfold takeV
                 rw [if_pos HEE.out]
                 intro i hi
                 show RelZ (setV V s _ i) _
                 by_cases e : i = s
                 · subst e
                   rw [setV_self, setV_self]
                   have h := rel_then HRS.out (HOK.out _ hs) (i : Int) seq q L n c9 now
                   unfold thenZ at h
                   rw [HIF.out] at h
                   exact h
                 · rw [setV_ne _ _ e, setV_ne _ _ e]; exact HREL.out i hi)
               have HKZ := Lib.hid (show KeepZ (s : Int) seq q L n c9 now Z (setV Z s ⟨2, ⟨(s : Int), seq, q, L, n, c9⟩, now, ⟨rs, rq, rp, rL, rn, rc⟩, t⟩) from fun P h ht j hj => by
                 by_cases e : j = s
                 · subst e
                   rw [setV_self]
                   have h2 := ht HO1.out hcap (Z j) (h j hj)
                   rw [HZ.out] at h2
                   unfold thenZ at h2
                   dsimp only at h2
                   rw [HIF.out] at h2
                   exact h2
                 · rw [setV_ne _ _ e]; exact h j hj)
               rw [HWN.out, HYE.out]
               clear hby hyy hY0 hWN hbN hkD hxD hatD hneD hrf hTF hSx hYx hxC hyC z0 z1 z2 z3 z4 x0 x1 x2
               obtain ⟨q0, ⟨q1, q2, q3, q4, q5⟩, q6, q7, q8, q9⟩ := hS
               obtain ⟨r0, ⟨r1, r2, r3, r4, r5⟩, r6, r7, r8, r9⟩ := hSC
               go_region_law (fail)
               all_goals
                 clear f0 f1 f2 f3 f4 f5 f6 f7 f8 k0 k1 k2 k3 k4 k5 k6 k7 k8
                 go_wp2_with fail
                 go_ret
                 exact ⟨rfl, HTT.out, _, HRF.out, HREL2.out, HKZ.out⟩)
end Go.Proofs.Ytgididkpgncdjaa
