/- fsm: FsmUps's walk. -/
import Derived.Test.YtbacnjijfffobaaHQ
namespace Go.Proofs.Ytbacnjijfffobaa
open Go.RowKit

theorem row_ne {W : World} {base : Nat} {e t : TypeId} {size g : Nat} {v : Value} {k : Nat} {xs vs : List Value} (h : W.ownsRow base e size v k xs) (hb : Blk W g t vs) (ht : t ≠ e) : v.ownBlock ≠ some g := fun e' => by
  rcases h.2 with ⟨rfl, _⟩ | ⟨g', cap, cur, rfl, _, hgb, _⟩
  · simp [Value.ownBlock] at e'
  · have : g' = g := by simpa [Value.ownBlock] using e'
    subst this
    obtain ⟨cs, h1, _⟩ := hb
    rw [hgb] at h1
    injection h1 with h1
    injection h1 with _ h2
    exact ht h2.symm
theorem row_set {W : World} {base : Nat} {e t : TypeId} {size g : Nat} {v : Value} {k : Nat} {xs vs : List Value} (h : W.ownsRow base e size v k xs) (hb : Blk W g t vs) (ht : t ≠ e) (i : Nat) (u : Value) : (W.setCell ⟨g, i, none⟩ u).ownsRow base e size v k xs :=
  h.kept (row := some g) ⟨rfl, rfl, rfl, by simp [World.setCell], fun k _ hk => Below.heap_setCell _ _ _ k (fun e => hk (by rw [e]))⟩ (.inr (row_ne h hb ht))
set_option maxRecDepth 100000 in
set_option maxHeartbeats 40000000 in
theorem ups_walk (w : World) (o : Op) (r : Int) (p : Option Addr) (l : List Ev) (N cap : Nat) (hl : EvsAt w p l) (hN : l.length = N) :
    Calls Try.prog 3 #[loV o r, .slice p N cap] w fun e w' => e = .returned (.bool true) ∧ Below w.heap.size w w' := by
  obtain ⟨oa, oh, oi, of, op⟩ := o
  have HCK := Lib.hid (fun (U : World) => rfcheck_any ⟨oa, oh, oi, of, op⟩ r U)
  unfold loV at HCK
  unfold loV
  dsimp only at *
  have HEV := Lib.hid hl
  have HNN := Lib.hid hN
  clear hl hN
  rcases hok : okL ⟨oa, oh, oi, of, op⟩ r with _ | _
  · rw [hok] at HCK
    clear hok
    have HBL := Lib.hid (Blk.new w 26 [.int .i64 oa, .int .i64 oh, .int .u32 oi, .bool of, .int .i64 op, .int .i64 r])
    have HA := Lib.hid (newB w (.cells #[.int .i64 oa, .int .i64 oh, .int .u32 oi, .bool of, .int .i64 op, .int .i64 r] 26))
    go_enter Try.func3, Try.ntmps3
    go_wp2_with fail
    refine (HCK.out _).mono ?_
    rintro e w1 ⟨rfl, hb1⟩
    have HBL1 := Lib.hid (HBL.out.next hb1)
    have HZ1 := Lib.hid (HA.out.trans (hb1.mono HA.out.size))
    clear hb1
    go_wp2_with fail
    refine (lives_any _).mono ?_
    rintro e w2 ⟨rfl, hb2⟩
    have HZ2 := Lib.hid (HZ1.out.trans (hb2.mono HZ1.out.size))
    clear hb2
    go_wp2_with fail
    go_ret
    exact ⟨rfl, HZ2.out⟩
  · rw [hok] at HCK
    have HOK := Lib.hid hok
    clear hok
    by_cases h200 : 200 < N
    · have hg : (200 : Int) < (N : Int) := by omega
      have HBL := Lib.hid (Blk.new w 26 [.int .i64 oa, .int .i64 oh, .int .u32 oi, .bool of, .int .i64 op, .int .i64 r])
      have HA := Lib.hid (newB w (.cells #[.int .i64 oa, .int .i64 oh, .int .u32 oi, .bool of, .int .i64 op, .int .i64 r] 26))
      go_enter Try.func3, Try.ntmps3
      go_wp2_with fail
      refine (HCK.out _).mono ?_
      rintro e w1 ⟨rfl, hb1⟩
      have HBL1 := Lib.hid (HBL.out.next hb1)
      have HZ1 := Lib.hid (HA.out.trans (hb1.mono HA.out.size))
      clear hb1
      go_wp2_with fail
      refine (lives_any _).mono ?_
      rintro e w2 ⟨rfl, hb2⟩
      have HZ2 := Lib.hid (HZ1.out.trans (hb2.mono HZ1.out.size))
      clear hb2
      go_wp2_with fail
      go_ret
      exact ⟨rfl, HZ2.out⟩
    · have hg : ¬ (200 : Int) < (N : Int) := by omega
      have hg2 : decide ((200 : Int) < (N : Int)) = false := decide_eq_false hg
      have HBL := Lib.hid (Blk.new w 26 [.int .i64 oa, .int .i64 oh, .int .u32 oi, .bool of, .int .i64 op, .int .i64 r])
      have HA := Lib.hid (newB w (.cells #[.int .i64 oa, .int .i64 oh, .int .u32 oi, .bool of, .int .i64 op, .int .i64 r] 26))
      go_enter Try.func3, Try.ntmps3
      go_wp2_with fail
      refine (HCK.out _).mono ?_
      rintro e w1 ⟨rfl, hb1⟩
      have HBL1 := Lib.hid (HBL.out.next hb1)
      have HZ1 := Lib.hid (HA.out.trans (hb1.mono HA.out.size))
      clear hb1
      have HZ2 := Lib.hid (HZ1.out.trans ((newB w1 (.cells #[.int .i64 1, .int .i64 0, .bool false, .bool false, .int .u32 0] 31)).mono HZ1.out.size))
      have HU := Lib.hid (show UpsS w (w1.alloc (.cells #[.int .i64 1, .int .i64 0, .bool false, .bool false, .int .u32 0] 31)) w.heap.size w1.heap.size oa oh oi op r of (Ph.at 1) from ⟨HBL1.out.alloc _, Blk.new w1 31 [.int .i64 1, .int .i64 0, .bool false, .bool false, .int .u32 0], HZ2.out, by decide, by decide⟩)
      obtain ⟨X, hX⟩ : ∃ X, w.heap.size = X := ⟨_, rfl⟩
      obtain ⟨SS, hSS⟩ : ∃ X, w1.heap.size = X := ⟨_, rfl⟩
      have HXS := Lib.hid (show X ≤ SS by rw [← hX, ← hSS]; exact HZ1.out.size)
      have HXN := Lib.hid (show X ≠ SS by rw [← hX, ← hSS]; have := HBL1.out.lt; omega)
      have HX := Lib.hid hX
      have HSS := Lib.hid hSS
      rw [hX, hSS] at HU
      have H200 := Lib.hid h200
      clear hX hSS h200 hg
      go_wp2_with fail
      rw [HX.out, HSS.out]
      go_loopw [6] (fun vi wr => ∃ (k : Nat) (s : Ph), vi = .int .i64 k ∧ k ≤ N ∧ UpsS w wr X SS oa oh oi op r of s) (fun vi _ => N - (intOf vi).toNat)
      case atStart => exact ⟨0, Ph.at 1, rfl, Nat.zero_le _, HU.out⟩
      case round =>
        obtain ⟨k, s, rfl, hk, hU⟩ := hrel
        have HU := Lib.hid hU
        clear hU
        by_cases hlt : k < N
        · have hlt' : (k : Int) < (N : Int) := by omega
          have hk2 : (k : Int) ≤ 200 := by have := H200.out; omega
          obtain ⟨m, hm⟩ : ∃ m, l[k]? = some m := ⟨_, List.getElem?_eq_getElem (by have := HNN.out; omega)⟩
          obtain ⟨hby, hyc, hcm⟩ := HEV.out.1 k m hm
          rcases HEV.out.2 with h | ⟨b, off, hp, hc⟩
          · have := HNN.out; rw [h] at this; simp at this; omega
          have hc := hc k m hm
          subst hp
          obtain ⟨kind, ⟨xa, xh, xi, xf, xp⟩, code, sub, q, ys, c⟩ := m
          dsimp only at hby hyc hcm hc
          obtain ⟨z, hz⟩ : ∃ z, ys.length = z := ⟨_, rfl⟩
          rw [hz] at hyc hc
          have HC := Lib.hid (show ∀ (U : World), Below w.heap.size w U → U.cell? ⟨b, off + k * 9 + 0, none⟩ = some (.int .i64 kind) ∧ U.cell? ⟨b, off + k * 9 + 1, none⟩ = some (.int .i64 xa) ∧ U.cell? ⟨b, off + k * 9 + 2, none⟩ = some (.int .i64 xh) ∧ U.cell? ⟨b, off + k * 9 + 3, none⟩ = some (.int .u32 xi) ∧ U.cell? ⟨b, off + k * 9 + 4, none⟩ = some (.bool xf) ∧ U.cell? ⟨b, off + k * 9 + 5, none⟩ = some (.int .i64 xp) ∧ U.cell? ⟨b, off + k * 9 + 6, none⟩ = some (.int .i64 code) ∧ U.cell? ⟨b, off + k * 9 + 7, none⟩ = some (.int .i64 sub) ∧ U.cell? ⟨b, off + k * 9 + 8, none⟩ = some (.slice q z c) from fun U hU => by
            obtain ⟨q0, q1, q2, q3, q4, q5, q6, q7, q8⟩ := hc
            have K : ∀ j v, w.cell? ⟨b, off + k * 9 + j, none⟩ = some v → U.cell? ⟨b, off + k * 9 + j, none⟩ = some v := fun j v h => (hU.cell (p := ⟨b, off + k * 9 + j, none⟩) (World.block_lt_of_cell? w _ h)).trans h
            exact ⟨K _ _ q0, K _ _ q1, K _ _ q2, K _ _ q3, K _ _ q4, K _ _ q5, K _ _ q6, K _ _ q7, K _ _ q8⟩)
          have HBY := Lib.hid hby
          have HZL := Lib.hid hz
          obtain ⟨q0, q1, q2, q3, q4, q5, q6, q7, q8⟩ := HC.out wr HU.out.bel
          clear hby hyc hcm hc hz hm
          by_cases h5 : 5000 < z
          · have h5' : (5000 : Int) < (z : Int) := by omega
            go_wp2_with fail
            go_ret
            exact ⟨rfl, HU.out.bel⟩
          · have h5' : ¬ (5000 : Int) < (z : Int) := by omega
            have h5d : decide ((5000 : Int) < (z : Int)) = false := decide_eq_false h5'
            have HZ5 := Lib.hid (show z ≤ 1099511627776 by omega)
            clear h5 h5'
            obtain ⟨sp, sh, sf, sq, si⟩ := s
            have HST := Lib.hid (fun (U : World) (hU : Below w.heap.size w U) => step_open U ⟨oa, oh, oi, of, op⟩ r ⟨sp, sh, sf, sq, si⟩ kind ⟨xa, xh, xi, xf, xp⟩ code sub q ys z c (HBY.out.below hU) HZL.out HZ5.out HU.out.p1 HU.out.p5)
            unfold loV Ph.v evA at HST
            dsimp only at HST
            have hud := HU.out.bel.drew
            have HUD := Lib.hid hud
            obtain ⟨Q0, Q1, Q2, Q3, Q4, Q5, Q6, Q7, Q8⟩ := HC.out wr.drew hud
            have Q0 : wr.drew.cell? ⟨b, off + k * 9, none⟩ = some (.int .i64 kind) := Q0
            have q0 : wr.cell? ⟨b, off + k * 9, none⟩ = some (.int .i64 kind) := q0
            clear hud
            have l0 : wr.cell? ⟨X, 0, none⟩ = some (.int .i64 oa) := HU.out.lo.cell 0 (by simp)
            have l1 : wr.cell? ⟨X, 1, none⟩ = some (.int .i64 oh) := HU.out.lo.cell 1 (by simp)
            have l2 : wr.cell? ⟨X, 2, none⟩ = some (.int .u32 oi) := HU.out.lo.cell 2 (by simp)
            have l3 : wr.cell? ⟨X, 3, none⟩ = some (.bool of) := HU.out.lo.cell 3 (by simp)
            have l4 : wr.cell? ⟨X, 4, none⟩ = some (.int .i64 op) := HU.out.lo.cell 4 (by simp)
            have l5 : wr.cell? ⟨X, 5, none⟩ = some (.int .i64 r) := HU.out.lo.cell 5 (by simp)
            have s0 : wr.cell? ⟨SS, 0, none⟩ = some (.int .i64 sp) := HU.out.st.cell 0 (by simp [Ph.c])
            have s1 : wr.cell? ⟨SS, 1, none⟩ = some (.int .i64 sh) := HU.out.st.cell 1 (by simp [Ph.c])
            have s2 : wr.cell? ⟨SS, 2, none⟩ = some (.bool sf) := HU.out.st.cell 2 (by simp [Ph.c])
            have s3 : wr.cell? ⟨SS, 3, none⟩ = some (.bool sq) := HU.out.st.cell 3 (by simp [Ph.c])
            have s4 : wr.cell? ⟨SS, 4, none⟩ = some (.int .u32 si) := HU.out.st.cell 4 (by simp [Ph.c])
            have L0 : wr.drew.cell? ⟨X, 0, none⟩ = some (.int .i64 oa) := HU.out.lo.cell 0 (by simp)
            have L1 : wr.drew.cell? ⟨X, 1, none⟩ = some (.int .i64 oh) := HU.out.lo.cell 1 (by simp)
            have L2 : wr.drew.cell? ⟨X, 2, none⟩ = some (.int .u32 oi) := HU.out.lo.cell 2 (by simp)
            have L3 : wr.drew.cell? ⟨X, 3, none⟩ = some (.bool of) := HU.out.lo.cell 3 (by simp)
            have L4 : wr.drew.cell? ⟨X, 4, none⟩ = some (.int .i64 op) := HU.out.lo.cell 4 (by simp)
            have L5 : wr.drew.cell? ⟨X, 5, none⟩ = some (.int .i64 r) := HU.out.lo.cell 5 (by simp)
            have S0 : wr.drew.cell? ⟨SS, 0, none⟩ = some (.int .i64 sp) := HU.out.st.cell 0 (by simp [Ph.c])
            have S1 : wr.drew.cell? ⟨SS, 1, none⟩ = some (.int .i64 sh) := HU.out.st.cell 1 (by simp [Ph.c])
            have S2 : wr.drew.cell? ⟨SS, 2, none⟩ = some (.bool sf) := HU.out.st.cell 2 (by simp [Ph.c])
            have S3 : wr.drew.cell? ⟨SS, 3, none⟩ = some (.bool sq) := HU.out.st.cell 3 (by simp [Ph.c])
            have S4 : wr.drew.cell? ⟨SS, 4, none⟩ = some (.int .u32 si) := HU.out.st.cell 4 (by simp [Ph.c])
            go_wp2_with fail
            have HUE := Lib.hid ((HU.out.bel.alloc HU.out.bel.size (.cells #[.int .i64 0, .int .i64 0, .bool false, .bool false, .int .u32 0] 31)).drew)
            have HK := Lib.hid (show ∀ w' : World, Below wr.heap.size wr w' → w'.cell? ⟨b, off + k * 9, none⟩ = some (.int .i64 kind) ∧ w'.cell? ⟨b, off + k * 9 + 1, none⟩ = some (.int .i64 xa) ∧ w'.cell? ⟨b, off + k * 9 + 2, none⟩ = some (.int .i64 xh) ∧ w'.cell? ⟨b, off + k * 9 + 3, none⟩ = some (.int .u32 xi) ∧ w'.cell? ⟨b, off + k * 9 + 4, none⟩ = some (.bool xf) ∧ w'.cell? ⟨b, off + k * 9 + 5, none⟩ = some (.int .i64 xp) ∧ w'.cell? ⟨b, off + k * 9 + 6, none⟩ = some (.int .i64 code) ∧ w'.cell? ⟨b, off + k * 9 + 7, none⟩ = some (.int .i64 sub) ∧ w'.cell? ⟨b, off + k * 9 + 8, none⟩ = some (.slice q z c) ∧ w'.cell? ⟨X, 0, none⟩ = some (.int .i64 oa) ∧ w'.cell? ⟨X, 1, none⟩ = some (.int .i64 oh) ∧ w'.cell? ⟨X, 2, none⟩ = some (.int .u32 oi) ∧ w'.cell? ⟨X, 3, none⟩ = some (.bool of) ∧ w'.cell? ⟨X, 4, none⟩ = some (.int .i64 op) ∧ w'.cell? ⟨X, 5, none⟩ = some (.int .i64 r) ∧ w'.cell? ⟨SS, 0, none⟩ = some (.int .i64 sp) ∧ w'.cell? ⟨SS, 1, none⟩ = some (.int .i64 sh) ∧ w'.cell? ⟨SS, 2, none⟩ = some (.bool sf) ∧ w'.cell? ⟨SS, 3, none⟩ = some (.bool sq) ∧ w'.cell? ⟨SS, 4, none⟩ = some (.int .u32 si) from fun U hU => by
              obtain ⟨a0, a1, a2, a3, a4, a5, a6, a7, a8⟩ := HC.out U (HU.out.bel.trans (hU.mono HU.out.bel.size))
              have bl := HU.out.lo.next hU
              have bs := HU.out.st.next hU
              exact ⟨a0, a1, a2, a3, a4, a5, a6, a7, a8, bl.cell 0 (by simp), bl.cell 1 (by simp), bl.cell 2 (by simp), bl.cell 3 (by simp), bl.cell 4 (by simp), bl.cell 5 (by simp), bs.cell 0 (by simp [Ph.c]), bs.cell 1 (by simp [Ph.c]), bs.cell 2 (by simp [Ph.c]), bs.cell 3 (by simp [Ph.c]), bs.cell 4 (by simp [Ph.c])⟩)
            clear q0 q1 q2 q3 q4 q5 q6 q7 Q0 Q1 Q2 Q3 Q4 Q5 Q6 Q7 Q8 l0 l1 l2 l3 l4 l5 s0 s1 s2 s3 s4 L0 L1 L2 L3 L4 L5 S0 S1 S2 S3 S4
            have HS0 := HK.out wr.drew (Below.refl _ _).drew
            go_region_held_law (fun w' => w'.cell? ⟨b, off + k * 9, none⟩ = some (.int .i64 kind) ∧ w'.cell? ⟨b, off + k * 9 + 1, none⟩ = some (.int .i64 xa) ∧ w'.cell? ⟨b, off + k * 9 + 2, none⟩ = some (.int .i64 xh) ∧ w'.cell? ⟨b, off + k * 9 + 3, none⟩ = some (.int .u32 xi) ∧ w'.cell? ⟨b, off + k * 9 + 4, none⟩ = some (.bool xf) ∧ w'.cell? ⟨b, off + k * 9 + 5, none⟩ = some (.int .i64 xp) ∧ w'.cell? ⟨b, off + k * 9 + 6, none⟩ = some (.int .i64 code) ∧ w'.cell? ⟨b, off + k * 9 + 7, none⟩ = some (.int .i64 sub) ∧ w'.cell? ⟨b, off + k * 9 + 8, none⟩ = some (.slice q z c) ∧ w'.cell? ⟨X, 0, none⟩ = some (.int .i64 oa) ∧ w'.cell? ⟨X, 1, none⟩ = some (.int .i64 oh) ∧ w'.cell? ⟨X, 2, none⟩ = some (.int .u32 oi) ∧ w'.cell? ⟨X, 3, none⟩ = some (.bool of) ∧ w'.cell? ⟨X, 4, none⟩ = some (.int .i64 op) ∧ w'.cell? ⟨X, 5, none⟩ = some (.int .i64 r) ∧ w'.cell? ⟨SS, 0, none⟩ = some (.int .i64 sp) ∧ w'.cell? ⟨SS, 1, none⟩ = some (.int .i64 sh) ∧ w'.cell? ⟨SS, 2, none⟩ = some (.bool sf) ∧ w'.cell? ⟨SS, 3, none⟩ = some (.bool sq) ∧ w'.cell? ⟨SS, 4, none⟩ = some (.int .u32 si)) (first | with_reducible assumption | (refine HK.out _ ?_; repeat (first | exact HB2.out | with_reducible exact Below.refl _ _ | (with_reducible refine Below.drew ?_) | (with_reducible refine Below.setCell ?_ (by first | exact Nat.le_refl _ | exact HB2.out.size) _) | (with_reducible refine Below.alloc ?_ (Nat.le_refl _) _) | (with_reducible refine Below.alloc ?_ (by have := HB2.out.size; omega) _) | (with_reducible refine Below.setCell ?_ (by have := HB2.out.size; simp; omega) _)))) (first
              | (go_at_call 8; (with_reducible refine (HST.out _ HUE.out).mono ?_); rintro e w2 ⟨tp, th, tf, tq, ti, AA, aq, am, ak, rfl, hu2, hl2, hr2, hb2⟩; have HU2 := Lib.hid hu2; have HL2 := Lib.hid hl2; have hz := (Blk.new wr 31 [.int .i64 0, .int .i64 0, .bool false, .bool false, .int .u32 0]).drew.next hb2; have z0 : w2.cell? ⟨wr.heap.size, 0, none⟩ = some (.int .i64 0) := hz.cell 0 (by simp); have y0 := hz.f 0; have z1 : w2.cell? ⟨wr.heap.size, 1, none⟩ = some (.int .i64 0) := hz.cell 1 (by simp); have y1 := hz.f 1; have z2 : w2.cell? ⟨wr.heap.size, 2, none⟩ = some (.bool false) := hz.cell 2 (by simp); have y2 := hz.f 2; have z3 : w2.cell? ⟨wr.heap.size, 3, none⟩ = some (.bool false) := hz.cell 3 (by simp); have y3 := hz.f 3; have z4 : w2.cell? ⟨wr.heap.size, 4, none⟩ = some (.int .u32 0) := hz.cell 4 (by simp); have y4 := hz.f 4; have HZB := Lib.hid hz; have HR2 := Lib.hid (rowH_mono hr2 (show wr.heap.size ≤ _ by simp)); have HB2 := Lib.hid (((newB wr (.cells #[.int .i64 0, .int .i64 0, .bool false, .bool false, .int .u32 0] 31)).drew).trans (hb2.mono (by simp))); clear hu2 hl2 hr2 hb2 hz)
              | (go_at_call 8; (with_reducible refine (HST.out _ HUD.out).mono ?_); rintro e w2 ⟨tp, th, tf, tq, ti, AA, aq, am, ak, rfl, hu2, hl2, hr2, hb2⟩; have HU2 := Lib.hid hu2; have HL2 := Lib.hid hl2; have HR2 := Lib.hid (rowH_mono hr2 (show wr.heap.size ≤ _ by simp)); have HB2 := Lib.hid ((Below.refl _ wr).drew.trans hb2); clear hu2 hl2 hr2 hb2))
            · have hbt := Blk.new w2 31 [.int .i64 tp, .int .i64 th, .bool tf, .bool tq, .int .u32 ti]
              have hb3 : Below wr.heap.size wr (w2.alloc (.cells #[.int .i64 tp, .int .i64 th, .bool tf, .bool tq, .int .u32 ti] 31)) := HB2.out.alloc HB2.out.size _
              have hr3 := rowH_below HR2.out (newB w2 (.cells #[.int .i64 tp, .int .i64 th, .bool tf, .bool tq, .int .u32 ti] 31))
              obtain ⟨Y, hY⟩ : ∃ Y, w2.heap.size = Y := ⟨_, rfl⟩
              obtain ⟨W3, hW3⟩ : ∃ W3, w2.alloc (.cells #[.int .i64 tp, .int .i64 th, .bool tf, .bool tq, .int .u32 ti] 31) = W3 := ⟨_, rfl⟩
              rw [hY] at hbt
              rw [hW3] at hbt hb3 hr3
              rw [hW3, hY]
              clear hY hW3
              have hu3 := HU.out
              have hlo := hu3.lo.next hb3
              have hst := hu3.st.next hb3
              have HLO := Lib.hid hlo
              have HSTT := Lib.hid hst
              have HBT := Lib.hid hbt
              have HR3 := Lib.hid hr3
              have HB3 := Lib.hid (hu3.bel.trans (hb3.mono hu3.bel.size))
              have HXSS := Lib.hid (show w.heap.size ≤ SS by rw [HX.out]; exact HXS.out)
              clear hu3 hlo hst hbt hr3 hb3
              have hp1 := HU2.out.2.2.2.1
              have hp5 := HU2.out.2.2.2.2
              have hs1 := HU.out.p1
              have hs5 := HU.out.p5
              dsimp only at hp1 hp5 hs1 hs5
              have HKW := Lib.hid (fun (U : World) => known_any ⟨tp, th, tf, tq, ti⟩ U)
              rw [show knownB ⟨tp, th, tf, tq, ti⟩ = true by unfold knownB; dsimp only; rw [decide_eq_true hp1, decide_eq_true hp5]; rfl] at HKW
              unfold Ph.v at HKW
              dsimp only at HKW
              have HP1 := Lib.hid hp1
              have HP5 := Lib.hid hp5
              have hcs : sp = 5 ∨ (3 ≤ sp ∧ sp < 5) ∨ sp < 3 := by omega
              have hct : tp = 5 ∨ (3 ≤ tp ∧ tp < 5) ∨ tp < 3 := by omega
              have HH := Lib.hid (fun kd => has_row kd aq am ak AA W3 wr.heap.size HR3.out HL2.out)
              have HQ9 := Lib.hid (show hasB 9 AA = (!(sp == 5) && (tp == 5)) from HU2.out.1)
              have HQ10 := Lib.hid (show hasB 10 AA = ((sp == 5) && !(tp == 5)) from HU2.out.2.1)
              have HQ5 := Lib.hid (show 3 ≤ sp → tp < 3 → hasB 5 AA = true from HU2.out.2.2.1)
              have s0 : W3.cell? ⟨SS, 0, none⟩ = some (.int .i64 sp) := HSTT.out.cell 0 (by simp [Ph.c])
              have s1 : W3.cell? ⟨SS, 1, none⟩ = some (.int .i64 sh) := HSTT.out.cell 1 (by simp [Ph.c])
              have s2 : W3.cell? ⟨SS, 2, none⟩ = some (.bool sf) := HSTT.out.cell 2 (by simp [Ph.c])
              have s3 : W3.cell? ⟨SS, 3, none⟩ = some (.bool sq) := HSTT.out.cell 3 (by simp [Ph.c])
              have s4 : W3.cell? ⟨SS, 4, none⟩ = some (.int .u32 si) := HSTT.out.cell 4 (by simp [Ph.c])
              have t0 : W3.cell? ⟨Y, 0, none⟩ = some (.int .i64 tp) := HBT.out.cell 0 (by simp)
              have t1 : W3.cell? ⟨Y, 1, none⟩ = some (.int .i64 th) := HBT.out.cell 1 (by simp)
              have t2 : W3.cell? ⟨Y, 2, none⟩ = some (.bool tf) := HBT.out.cell 2 (by simp)
              have t3 : W3.cell? ⟨Y, 3, none⟩ = some (.bool tq) := HBT.out.cell 3 (by simp)
              have t4 : W3.cell? ⟨Y, 4, none⟩ = some (.int .u32 ti) := HBT.out.cell 4 (by simp)
              clear hp1 hp5 hs1 hs5
              rcases hcs with hcs | hcs | hcs
              · rcases hct with hct | hct | hct
                · obtain rfl : sp = 5 := hcs
                  obtain rfl : tp = 5 := hct
                  have h9 := HH.out 9
                  rw [show hasB 9 AA = false by rw [HQ9.out]; rfl] at h9
                  have h10 := HH.out 10
                  rw [show hasB 10 AA = false by rw [HQ10.out]; rfl] at h10
                  have H9 := Lib.hid h9
                  have H10 := Lib.hid h10
                  clear h9 h10
                  go_wp2_with fail
                  (with_reducible refine H9.out.mono ?_)
                  rintro e wx ⟨rfl, rfl⟩
                  go_wp2_with fail
                  (with_reducible refine H10.out.mono ?_)
                  rintro e wx ⟨rfl, rfl⟩
                  go_wp2_with fail
                  refine (HKW.out _).mono ?_
                  rintro e w4 ⟨rfl, hb4⟩
                  have HBT4 := Lib.hid (HBT.out.next hb4)
                  have HST4 := Lib.hid (HSTT.out.next hb4)
                  have HLO4 := Lib.hid (HLO.out.next hb4)
                  have HB4 := Lib.hid (HB3.out.trans (hb4.mono HB3.out.size))
                  clear hb4 s0 s1 s2 s3 s4 t0 t1 t2 t3 t4
                  have t0 : w4.cell? ⟨Y, 0, none⟩ = some (.int .i64 5) := HBT4.out.cell 0 (by simp)
                  have t1 : w4.cell? ⟨Y, 1, none⟩ = some (.int .i64 th) := HBT4.out.cell 1 (by simp)
                  have t2 : w4.cell? ⟨Y, 2, none⟩ = some (.bool tf) := HBT4.out.cell 2 (by simp)
                  have t3 : w4.cell? ⟨Y, 3, none⟩ = some (.bool tq) := HBT4.out.cell 3 (by simp)
                  have t4 : w4.cell? ⟨Y, 4, none⟩ = some (.int .u32 ti) := HBT4.out.cell 4 (by simp)
                  have s0 : w4.cell? ⟨SS, 0, none⟩ = some (.int .i64 5) := HST4.out.cell 0 (by simp [Ph.c])
                  have f0 := HST4.out.f 0
                  have s1 : w4.cell? ⟨SS, 1, none⟩ = some (.int .i64 sh) := HST4.out.cell 1 (by simp [Ph.c])
                  have f1 := HST4.out.f 1
                  have s2 : w4.cell? ⟨SS, 2, none⟩ = some (.bool sf) := HST4.out.cell 2 (by simp [Ph.c])
                  have f2 := HST4.out.f 2
                  have s3 : w4.cell? ⟨SS, 3, none⟩ = some (.bool sq) := HST4.out.cell 3 (by simp [Ph.c])
                  have f3 := HST4.out.f 3
                  have s4 : w4.cell? ⟨SS, 4, none⟩ = some (.int .u32 si) := HST4.out.cell 4 (by simp [Ph.c])
                  have f4 := HST4.out.f 4
                  go_wp2_with fail
                  go_roundw
                  case rel =>
                    refine ⟨k + 1, ⟨5, th, tf, tq, ti⟩, by go_num, by omega, ?_, ?_, ?_, HP1.out, HP5.out⟩
                    · exact ((((HLO4.out.setOther (by simpa using HXN.out) _).setOther (by simpa using HXN.out) _).setOther (by simpa using HXN.out) _).setOther (by simpa using HXN.out) _).setOther (by simpa using HXN.out) _
                    · exact ((((HST4.out.set 0 _).set 1 _).set 2 _).set 3 _).set 4 _
                    · exact ((((HB4.out.setCell HXSS.out _).setCell HXSS.out _).setCell HXSS.out _).setCell HXSS.out _).setCell HXSS.out _
                  case measure => simp [intOf]; omega
                · obtain rfl : sp = 5 := hcs
                  have d1 : (tp == 5) = false := by simp; omega
                  have d1' : (tp != 5) = true := by simp; omega
                  have d2 : decide (tp < 3) = false := decide_eq_false (by omega)
                  have h9 := HH.out 9
                  rw [show hasB 9 AA = false by rw [HQ9.out, d1]; rfl] at h9
                  have h10 := HH.out 10
                  rw [show hasB 10 AA = true by rw [HQ10.out, d1]; rfl] at h10
                  have H9 := Lib.hid h9
                  have H10 := Lib.hid h10
                  clear h9 h10
                  clear hct
                  go_wp2_with fail
                  (with_reducible refine H9.out.mono ?_)
                  rintro e wx ⟨rfl, rfl⟩
                  go_wp2_with fail
                  (with_reducible refine H10.out.mono ?_)
                  rintro e wx ⟨rfl, rfl⟩
                  go_wp2_with fail
                  refine (HKW.out _).mono ?_
                  rintro e w4 ⟨rfl, hb4⟩
                  have HBT4 := Lib.hid (HBT.out.next hb4)
                  have HST4 := Lib.hid (HSTT.out.next hb4)
                  have HLO4 := Lib.hid (HLO.out.next hb4)
                  have HB4 := Lib.hid (HB3.out.trans (hb4.mono HB3.out.size))
                  clear hb4 s0 s1 s2 s3 s4 t0 t1 t2 t3 t4
                  have t0 : w4.cell? ⟨Y, 0, none⟩ = some (.int .i64 tp) := HBT4.out.cell 0 (by simp)
                  have t1 : w4.cell? ⟨Y, 1, none⟩ = some (.int .i64 th) := HBT4.out.cell 1 (by simp)
                  have t2 : w4.cell? ⟨Y, 2, none⟩ = some (.bool tf) := HBT4.out.cell 2 (by simp)
                  have t3 : w4.cell? ⟨Y, 3, none⟩ = some (.bool tq) := HBT4.out.cell 3 (by simp)
                  have t4 : w4.cell? ⟨Y, 4, none⟩ = some (.int .u32 ti) := HBT4.out.cell 4 (by simp)
                  have s0 : w4.cell? ⟨SS, 0, none⟩ = some (.int .i64 5) := HST4.out.cell 0 (by simp [Ph.c])
                  have f0 := HST4.out.f 0
                  have s1 : w4.cell? ⟨SS, 1, none⟩ = some (.int .i64 sh) := HST4.out.cell 1 (by simp [Ph.c])
                  have f1 := HST4.out.f 1
                  have s2 : w4.cell? ⟨SS, 2, none⟩ = some (.bool sf) := HST4.out.cell 2 (by simp [Ph.c])
                  have f2 := HST4.out.f 2
                  have s3 : w4.cell? ⟨SS, 3, none⟩ = some (.bool sq) := HST4.out.cell 3 (by simp [Ph.c])
                  have f3 := HST4.out.f 3
                  have s4 : w4.cell? ⟨SS, 4, none⟩ = some (.int .u32 si) := HST4.out.cell 4 (by simp [Ph.c])
                  have f4 := HST4.out.f 4
                  go_wp2_with fail
                  go_roundw
                  case rel =>
                    refine ⟨k + 1, ⟨tp, th, tf, tq, ti⟩, by go_num, by omega, ?_, ?_, ?_, HP1.out, HP5.out⟩
                    · exact ((((HLO4.out.setOther (by simpa using HXN.out) _).setOther (by simpa using HXN.out) _).setOther (by simpa using HXN.out) _).setOther (by simpa using HXN.out) _).setOther (by simpa using HXN.out) _
                    · exact ((((HST4.out.set 0 _).set 1 _).set 2 _).set 3 _).set 4 _
                    · exact ((((HB4.out.setCell HXSS.out _).setCell HXSS.out _).setCell HXSS.out _).setCell HXSS.out _).setCell HXSS.out _
                  case measure => simp [intOf]; omega
                · obtain rfl : sp = 5 := hcs
                  have d1 : (tp == 5) = false := by simp; omega
                  have d1' : (tp != 5) = true := by simp; omega
                  have d2 : decide (tp < 3) = true := decide_eq_true (by omega)
                  have h9 := HH.out 9
                  rw [show hasB 9 AA = false by rw [HQ9.out, d1]; rfl] at h9
                  have h10 := HH.out 10
                  rw [show hasB 10 AA = true by rw [HQ10.out, d1]; rfl] at h10
                  have H9 := Lib.hid h9
                  have H10 := Lib.hid h10
                  clear h9 h10
                  have h5 := HH.out 5
                  rw [HQ5.out (by omega) (by omega)] at h5
                  have H5 := Lib.hid h5
                  clear h5
                  clear hct
                  go_wp2_with fail
                  (with_reducible refine H9.out.mono ?_)
                  rintro e wx ⟨rfl, rfl⟩
                  go_wp2_with fail
                  (with_reducible refine H10.out.mono ?_)
                  rintro e wx ⟨rfl, rfl⟩
                  go_wp2_with fail
                  (with_reducible refine H5.out.mono ?_)
                  rintro e wx ⟨rfl, rfl⟩
                  go_wp2_with fail
                  refine (HKW.out _).mono ?_
                  rintro e w4 ⟨rfl, hb4⟩
                  have HBT4 := Lib.hid (HBT.out.next hb4)
                  have HST4 := Lib.hid (HSTT.out.next hb4)
                  have HLO4 := Lib.hid (HLO.out.next hb4)
                  have HB4 := Lib.hid (HB3.out.trans (hb4.mono HB3.out.size))
                  clear hb4 s0 s1 s2 s3 s4 t0 t1 t2 t3 t4
                  have t0 : w4.cell? ⟨Y, 0, none⟩ = some (.int .i64 tp) := HBT4.out.cell 0 (by simp)
                  have t1 : w4.cell? ⟨Y, 1, none⟩ = some (.int .i64 th) := HBT4.out.cell 1 (by simp)
                  have t2 : w4.cell? ⟨Y, 2, none⟩ = some (.bool tf) := HBT4.out.cell 2 (by simp)
                  have t3 : w4.cell? ⟨Y, 3, none⟩ = some (.bool tq) := HBT4.out.cell 3 (by simp)
                  have t4 : w4.cell? ⟨Y, 4, none⟩ = some (.int .u32 ti) := HBT4.out.cell 4 (by simp)
                  have s0 : w4.cell? ⟨SS, 0, none⟩ = some (.int .i64 5) := HST4.out.cell 0 (by simp [Ph.c])
                  have f0 := HST4.out.f 0
                  have s1 : w4.cell? ⟨SS, 1, none⟩ = some (.int .i64 sh) := HST4.out.cell 1 (by simp [Ph.c])
                  have f1 := HST4.out.f 1
                  have s2 : w4.cell? ⟨SS, 2, none⟩ = some (.bool sf) := HST4.out.cell 2 (by simp [Ph.c])
                  have f2 := HST4.out.f 2
                  have s3 : w4.cell? ⟨SS, 3, none⟩ = some (.bool sq) := HST4.out.cell 3 (by simp [Ph.c])
                  have f3 := HST4.out.f 3
                  have s4 : w4.cell? ⟨SS, 4, none⟩ = some (.int .u32 si) := HST4.out.cell 4 (by simp [Ph.c])
                  have f4 := HST4.out.f 4
                  go_wp2_with fail
                  go_roundw
                  case rel =>
                    refine ⟨k + 1, ⟨tp, th, tf, tq, ti⟩, by go_num, by omega, ?_, ?_, ?_, HP1.out, HP5.out⟩
                    · exact ((((HLO4.out.setOther (by simpa using HXN.out) _).setOther (by simpa using HXN.out) _).setOther (by simpa using HXN.out) _).setOther (by simpa using HXN.out) _).setOther (by simpa using HXN.out) _
                    · exact ((((HST4.out.set 0 _).set 1 _).set 2 _).set 3 _).set 4 _
                    · exact ((((HB4.out.setCell HXSS.out _).setCell HXSS.out _).setCell HXSS.out _).setCell HXSS.out _).setCell HXSS.out _
                  case measure => simp [intOf]; omega
              · rcases hct with hct | hct | hct
                · have c1 : (sp == 5) = false := by simp; omega
                  have c1' : (sp != 5) = true := by simp; omega
                  have c2 : decide (3 ≤ sp) = true := decide_eq_true (by omega)
                  obtain rfl : tp = 5 := hct
                  have h9 := HH.out 9
                  rw [show hasB 9 AA = true by rw [HQ9.out, c1]; rfl] at h9
                  have h10 := HH.out 10
                  rw [show hasB 10 AA = false by rw [HQ10.out, c1]; rfl] at h10
                  have H9 := Lib.hid h9
                  have H10 := Lib.hid h10
                  clear h9 h10
                  clear hcs
                  go_wp2_with fail
                  (with_reducible refine H9.out.mono ?_)
                  rintro e wx ⟨rfl, rfl⟩
                  go_wp2_with fail
                  (with_reducible refine H10.out.mono ?_)
                  rintro e wx ⟨rfl, rfl⟩
                  go_wp2_with fail
                  refine (HKW.out _).mono ?_
                  rintro e w4 ⟨rfl, hb4⟩
                  have HBT4 := Lib.hid (HBT.out.next hb4)
                  have HST4 := Lib.hid (HSTT.out.next hb4)
                  have HLO4 := Lib.hid (HLO.out.next hb4)
                  have HB4 := Lib.hid (HB3.out.trans (hb4.mono HB3.out.size))
                  clear hb4 s0 s1 s2 s3 s4 t0 t1 t2 t3 t4
                  have t0 : w4.cell? ⟨Y, 0, none⟩ = some (.int .i64 5) := HBT4.out.cell 0 (by simp)
                  have t1 : w4.cell? ⟨Y, 1, none⟩ = some (.int .i64 th) := HBT4.out.cell 1 (by simp)
                  have t2 : w4.cell? ⟨Y, 2, none⟩ = some (.bool tf) := HBT4.out.cell 2 (by simp)
                  have t3 : w4.cell? ⟨Y, 3, none⟩ = some (.bool tq) := HBT4.out.cell 3 (by simp)
                  have t4 : w4.cell? ⟨Y, 4, none⟩ = some (.int .u32 ti) := HBT4.out.cell 4 (by simp)
                  have s0 : w4.cell? ⟨SS, 0, none⟩ = some (.int .i64 sp) := HST4.out.cell 0 (by simp [Ph.c])
                  have f0 := HST4.out.f 0
                  have s1 : w4.cell? ⟨SS, 1, none⟩ = some (.int .i64 sh) := HST4.out.cell 1 (by simp [Ph.c])
                  have f1 := HST4.out.f 1
                  have s2 : w4.cell? ⟨SS, 2, none⟩ = some (.bool sf) := HST4.out.cell 2 (by simp [Ph.c])
                  have f2 := HST4.out.f 2
                  have s3 : w4.cell? ⟨SS, 3, none⟩ = some (.bool sq) := HST4.out.cell 3 (by simp [Ph.c])
                  have f3 := HST4.out.f 3
                  have s4 : w4.cell? ⟨SS, 4, none⟩ = some (.int .u32 si) := HST4.out.cell 4 (by simp [Ph.c])
                  have f4 := HST4.out.f 4
                  go_wp2_with fail
                  go_roundw
                  case rel =>
                    refine ⟨k + 1, ⟨5, th, tf, tq, ti⟩, by go_num, by omega, ?_, ?_, ?_, HP1.out, HP5.out⟩
                    · exact ((((HLO4.out.setOther (by simpa using HXN.out) _).setOther (by simpa using HXN.out) _).setOther (by simpa using HXN.out) _).setOther (by simpa using HXN.out) _).setOther (by simpa using HXN.out) _
                    · exact ((((HST4.out.set 0 _).set 1 _).set 2 _).set 3 _).set 4 _
                    · exact ((((HB4.out.setCell HXSS.out _).setCell HXSS.out _).setCell HXSS.out _).setCell HXSS.out _).setCell HXSS.out _
                  case measure => simp [intOf]; omega
                · have c1 : (sp == 5) = false := by simp; omega
                  have c1' : (sp != 5) = true := by simp; omega
                  have c2 : decide (3 ≤ sp) = true := decide_eq_true (by omega)
                  have d1 : (tp == 5) = false := by simp; omega
                  have d1' : (tp != 5) = true := by simp; omega
                  have d2 : decide (tp < 3) = false := decide_eq_false (by omega)
                  have h9 := HH.out 9
                  rw [show hasB 9 AA = false by rw [HQ9.out, c1, d1]; rfl] at h9
                  have h10 := HH.out 10
                  rw [show hasB 10 AA = false by rw [HQ10.out, c1, d1]; rfl] at h10
                  have H9 := Lib.hid h9
                  have H10 := Lib.hid h10
                  clear h9 h10
                  clear hcs hct
                  go_wp2_with fail
                  (with_reducible refine H9.out.mono ?_)
                  rintro e wx ⟨rfl, rfl⟩
                  go_wp2_with fail
                  (with_reducible refine H10.out.mono ?_)
                  rintro e wx ⟨rfl, rfl⟩
                  go_wp2_with fail
                  refine (HKW.out _).mono ?_
                  rintro e w4 ⟨rfl, hb4⟩
                  have HBT4 := Lib.hid (HBT.out.next hb4)
                  have HST4 := Lib.hid (HSTT.out.next hb4)
                  have HLO4 := Lib.hid (HLO.out.next hb4)
                  have HB4 := Lib.hid (HB3.out.trans (hb4.mono HB3.out.size))
                  clear hb4 s0 s1 s2 s3 s4 t0 t1 t2 t3 t4
                  have t0 : w4.cell? ⟨Y, 0, none⟩ = some (.int .i64 tp) := HBT4.out.cell 0 (by simp)
                  have t1 : w4.cell? ⟨Y, 1, none⟩ = some (.int .i64 th) := HBT4.out.cell 1 (by simp)
                  have t2 : w4.cell? ⟨Y, 2, none⟩ = some (.bool tf) := HBT4.out.cell 2 (by simp)
                  have t3 : w4.cell? ⟨Y, 3, none⟩ = some (.bool tq) := HBT4.out.cell 3 (by simp)
                  have t4 : w4.cell? ⟨Y, 4, none⟩ = some (.int .u32 ti) := HBT4.out.cell 4 (by simp)
                  have s0 : w4.cell? ⟨SS, 0, none⟩ = some (.int .i64 sp) := HST4.out.cell 0 (by simp [Ph.c])
                  have f0 := HST4.out.f 0
                  have s1 : w4.cell? ⟨SS, 1, none⟩ = some (.int .i64 sh) := HST4.out.cell 1 (by simp [Ph.c])
                  have f1 := HST4.out.f 1
                  have s2 : w4.cell? ⟨SS, 2, none⟩ = some (.bool sf) := HST4.out.cell 2 (by simp [Ph.c])
                  have f2 := HST4.out.f 2
                  have s3 : w4.cell? ⟨SS, 3, none⟩ = some (.bool sq) := HST4.out.cell 3 (by simp [Ph.c])
                  have f3 := HST4.out.f 3
                  have s4 : w4.cell? ⟨SS, 4, none⟩ = some (.int .u32 si) := HST4.out.cell 4 (by simp [Ph.c])
                  have f4 := HST4.out.f 4
                  go_wp2_with fail
                  go_roundw
                  case rel =>
                    refine ⟨k + 1, ⟨tp, th, tf, tq, ti⟩, by go_num, by omega, ?_, ?_, ?_, HP1.out, HP5.out⟩
                    · exact ((((HLO4.out.setOther (by simpa using HXN.out) _).setOther (by simpa using HXN.out) _).setOther (by simpa using HXN.out) _).setOther (by simpa using HXN.out) _).setOther (by simpa using HXN.out) _
                    · exact ((((HST4.out.set 0 _).set 1 _).set 2 _).set 3 _).set 4 _
                    · exact ((((HB4.out.setCell HXSS.out _).setCell HXSS.out _).setCell HXSS.out _).setCell HXSS.out _).setCell HXSS.out _
                  case measure => simp [intOf]; omega
                · have c1 : (sp == 5) = false := by simp; omega
                  have c1' : (sp != 5) = true := by simp; omega
                  have c2 : decide (3 ≤ sp) = true := decide_eq_true (by omega)
                  have d1 : (tp == 5) = false := by simp; omega
                  have d1' : (tp != 5) = true := by simp; omega
                  have d2 : decide (tp < 3) = true := decide_eq_true (by omega)
                  have h9 := HH.out 9
                  rw [show hasB 9 AA = false by rw [HQ9.out, c1, d1]; rfl] at h9
                  have h10 := HH.out 10
                  rw [show hasB 10 AA = false by rw [HQ10.out, c1, d1]; rfl] at h10
                  have H9 := Lib.hid h9
                  have H10 := Lib.hid h10
                  clear h9 h10
                  have h5 := HH.out 5
                  rw [HQ5.out (by omega) (by omega)] at h5
                  have H5 := Lib.hid h5
                  clear h5
                  clear hcs hct
                  go_wp2_with fail
                  (with_reducible refine H9.out.mono ?_)
                  rintro e wx ⟨rfl, rfl⟩
                  go_wp2_with fail
                  (with_reducible refine H10.out.mono ?_)
                  rintro e wx ⟨rfl, rfl⟩
                  go_wp2_with fail
                  (with_reducible refine H5.out.mono ?_)
                  rintro e wx ⟨rfl, rfl⟩
                  go_wp2_with fail
                  refine (HKW.out _).mono ?_
                  rintro e w4 ⟨rfl, hb4⟩
                  have HBT4 := Lib.hid (HBT.out.next hb4)
                  have HST4 := Lib.hid (HSTT.out.next hb4)
                  have HLO4 := Lib.hid (HLO.out.next hb4)
                  have HB4 := Lib.hid (HB3.out.trans (hb4.mono HB3.out.size))
                  clear hb4 s0 s1 s2 s3 s4 t0 t1 t2 t3 t4
                  have t0 : w4.cell? ⟨Y, 0, none⟩ = some (.int .i64 tp) := HBT4.out.cell 0 (by simp)
                  have t1 : w4.cell? ⟨Y, 1, none⟩ = some (.int .i64 th) := HBT4.out.cell 1 (by simp)
                  have t2 : w4.cell? ⟨Y, 2, none⟩ = some (.bool tf) := HBT4.out.cell 2 (by simp)
                  have t3 : w4.cell? ⟨Y, 3, none⟩ = some (.bool tq) := HBT4.out.cell 3 (by simp)
                  have t4 : w4.cell? ⟨Y, 4, none⟩ = some (.int .u32 ti) := HBT4.out.cell 4 (by simp)
                  have s0 : w4.cell? ⟨SS, 0, none⟩ = some (.int .i64 sp) := HST4.out.cell 0 (by simp [Ph.c])
                  have f0 := HST4.out.f 0
                  have s1 : w4.cell? ⟨SS, 1, none⟩ = some (.int .i64 sh) := HST4.out.cell 1 (by simp [Ph.c])
                  have f1 := HST4.out.f 1
                  have s2 : w4.cell? ⟨SS, 2, none⟩ = some (.bool sf) := HST4.out.cell 2 (by simp [Ph.c])
                  have f2 := HST4.out.f 2
                  have s3 : w4.cell? ⟨SS, 3, none⟩ = some (.bool sq) := HST4.out.cell 3 (by simp [Ph.c])
                  have f3 := HST4.out.f 3
                  have s4 : w4.cell? ⟨SS, 4, none⟩ = some (.int .u32 si) := HST4.out.cell 4 (by simp [Ph.c])
                  have f4 := HST4.out.f 4
                  go_wp2_with fail
                  go_roundw
                  case rel =>
                    refine ⟨k + 1, ⟨tp, th, tf, tq, ti⟩, by go_num, by omega, ?_, ?_, ?_, HP1.out, HP5.out⟩
                    · exact ((((HLO4.out.setOther (by simpa using HXN.out) _).setOther (by simpa using HXN.out) _).setOther (by simpa using HXN.out) _).setOther (by simpa using HXN.out) _).setOther (by simpa using HXN.out) _
                    · exact ((((HST4.out.set 0 _).set 1 _).set 2 _).set 3 _).set 4 _
                    · exact ((((HB4.out.setCell HXSS.out _).setCell HXSS.out _).setCell HXSS.out _).setCell HXSS.out _).setCell HXSS.out _
                  case measure => simp [intOf]; omega
              · rcases hct with hct | hct | hct
                · have c1 : (sp == 5) = false := by simp; omega
                  have c1' : (sp != 5) = true := by simp; omega
                  have c2 : decide (3 ≤ sp) = false := decide_eq_false (by omega)
                  obtain rfl : tp = 5 := hct
                  have h9 := HH.out 9
                  rw [show hasB 9 AA = true by rw [HQ9.out, c1]; rfl] at h9
                  have h10 := HH.out 10
                  rw [show hasB 10 AA = false by rw [HQ10.out, c1]; rfl] at h10
                  have H9 := Lib.hid h9
                  have H10 := Lib.hid h10
                  clear h9 h10
                  clear hcs
                  go_wp2_with fail
                  (with_reducible refine H9.out.mono ?_)
                  rintro e wx ⟨rfl, rfl⟩
                  go_wp2_with fail
                  (with_reducible refine H10.out.mono ?_)
                  rintro e wx ⟨rfl, rfl⟩
                  go_wp2_with fail
                  refine (HKW.out _).mono ?_
                  rintro e w4 ⟨rfl, hb4⟩
                  have HBT4 := Lib.hid (HBT.out.next hb4)
                  have HST4 := Lib.hid (HSTT.out.next hb4)
                  have HLO4 := Lib.hid (HLO.out.next hb4)
                  have HB4 := Lib.hid (HB3.out.trans (hb4.mono HB3.out.size))
                  clear hb4 s0 s1 s2 s3 s4 t0 t1 t2 t3 t4
                  have t0 : w4.cell? ⟨Y, 0, none⟩ = some (.int .i64 5) := HBT4.out.cell 0 (by simp)
                  have t1 : w4.cell? ⟨Y, 1, none⟩ = some (.int .i64 th) := HBT4.out.cell 1 (by simp)
                  have t2 : w4.cell? ⟨Y, 2, none⟩ = some (.bool tf) := HBT4.out.cell 2 (by simp)
                  have t3 : w4.cell? ⟨Y, 3, none⟩ = some (.bool tq) := HBT4.out.cell 3 (by simp)
                  have t4 : w4.cell? ⟨Y, 4, none⟩ = some (.int .u32 ti) := HBT4.out.cell 4 (by simp)
                  have s0 : w4.cell? ⟨SS, 0, none⟩ = some (.int .i64 sp) := HST4.out.cell 0 (by simp [Ph.c])
                  have f0 := HST4.out.f 0
                  have s1 : w4.cell? ⟨SS, 1, none⟩ = some (.int .i64 sh) := HST4.out.cell 1 (by simp [Ph.c])
                  have f1 := HST4.out.f 1
                  have s2 : w4.cell? ⟨SS, 2, none⟩ = some (.bool sf) := HST4.out.cell 2 (by simp [Ph.c])
                  have f2 := HST4.out.f 2
                  have s3 : w4.cell? ⟨SS, 3, none⟩ = some (.bool sq) := HST4.out.cell 3 (by simp [Ph.c])
                  have f3 := HST4.out.f 3
                  have s4 : w4.cell? ⟨SS, 4, none⟩ = some (.int .u32 si) := HST4.out.cell 4 (by simp [Ph.c])
                  have f4 := HST4.out.f 4
                  go_wp2_with fail
                  go_roundw
                  case rel =>
                    refine ⟨k + 1, ⟨5, th, tf, tq, ti⟩, by go_num, by omega, ?_, ?_, ?_, HP1.out, HP5.out⟩
                    · exact ((((HLO4.out.setOther (by simpa using HXN.out) _).setOther (by simpa using HXN.out) _).setOther (by simpa using HXN.out) _).setOther (by simpa using HXN.out) _).setOther (by simpa using HXN.out) _
                    · exact ((((HST4.out.set 0 _).set 1 _).set 2 _).set 3 _).set 4 _
                    · exact ((((HB4.out.setCell HXSS.out _).setCell HXSS.out _).setCell HXSS.out _).setCell HXSS.out _).setCell HXSS.out _
                  case measure => simp [intOf]; omega
                · have c1 : (sp == 5) = false := by simp; omega
                  have c1' : (sp != 5) = true := by simp; omega
                  have c2 : decide (3 ≤ sp) = false := decide_eq_false (by omega)
                  have d1 : (tp == 5) = false := by simp; omega
                  have d1' : (tp != 5) = true := by simp; omega
                  have d2 : decide (tp < 3) = false := decide_eq_false (by omega)
                  have h9 := HH.out 9
                  rw [show hasB 9 AA = false by rw [HQ9.out, c1, d1]; rfl] at h9
                  have h10 := HH.out 10
                  rw [show hasB 10 AA = false by rw [HQ10.out, c1, d1]; rfl] at h10
                  have H9 := Lib.hid h9
                  have H10 := Lib.hid h10
                  clear h9 h10
                  clear hcs hct
                  go_wp2_with fail
                  (with_reducible refine H9.out.mono ?_)
                  rintro e wx ⟨rfl, rfl⟩
                  go_wp2_with fail
                  (with_reducible refine H10.out.mono ?_)
                  rintro e wx ⟨rfl, rfl⟩
                  go_wp2_with fail
                  refine (HKW.out _).mono ?_
                  rintro e w4 ⟨rfl, hb4⟩
                  have HBT4 := Lib.hid (HBT.out.next hb4)
                  have HST4 := Lib.hid (HSTT.out.next hb4)
                  have HLO4 := Lib.hid (HLO.out.next hb4)
                  have HB4 := Lib.hid (HB3.out.trans (hb4.mono HB3.out.size))
                  clear hb4 s0 s1 s2 s3 s4 t0 t1 t2 t3 t4
                  have t0 : w4.cell? ⟨Y, 0, none⟩ = some (.int .i64 tp) := HBT4.out.cell 0 (by simp)
                  have t1 : w4.cell? ⟨Y, 1, none⟩ = some (.int .i64 th) := HBT4.out.cell 1 (by simp)
                  have t2 : w4.cell? ⟨Y, 2, none⟩ = some (.bool tf) := HBT4.out.cell 2 (by simp)
                  have t3 : w4.cell? ⟨Y, 3, none⟩ = some (.bool tq) := HBT4.out.cell 3 (by simp)
                  have t4 : w4.cell? ⟨Y, 4, none⟩ = some (.int .u32 ti) := HBT4.out.cell 4 (by simp)
                  have s0 : w4.cell? ⟨SS, 0, none⟩ = some (.int .i64 sp) := HST4.out.cell 0 (by simp [Ph.c])
                  have f0 := HST4.out.f 0
                  have s1 : w4.cell? ⟨SS, 1, none⟩ = some (.int .i64 sh) := HST4.out.cell 1 (by simp [Ph.c])
                  have f1 := HST4.out.f 1
                  have s2 : w4.cell? ⟨SS, 2, none⟩ = some (.bool sf) := HST4.out.cell 2 (by simp [Ph.c])
                  have f2 := HST4.out.f 2
                  have s3 : w4.cell? ⟨SS, 3, none⟩ = some (.bool sq) := HST4.out.cell 3 (by simp [Ph.c])
                  have f3 := HST4.out.f 3
                  have s4 : w4.cell? ⟨SS, 4, none⟩ = some (.int .u32 si) := HST4.out.cell 4 (by simp [Ph.c])
                  have f4 := HST4.out.f 4
                  go_wp2_with fail
                  go_roundw
                  case rel =>
                    refine ⟨k + 1, ⟨tp, th, tf, tq, ti⟩, by go_num, by omega, ?_, ?_, ?_, HP1.out, HP5.out⟩
                    · exact ((((HLO4.out.setOther (by simpa using HXN.out) _).setOther (by simpa using HXN.out) _).setOther (by simpa using HXN.out) _).setOther (by simpa using HXN.out) _).setOther (by simpa using HXN.out) _
                    · exact ((((HST4.out.set 0 _).set 1 _).set 2 _).set 3 _).set 4 _
                    · exact ((((HB4.out.setCell HXSS.out _).setCell HXSS.out _).setCell HXSS.out _).setCell HXSS.out _).setCell HXSS.out _
                  case measure => simp [intOf]; omega
                · have c1 : (sp == 5) = false := by simp; omega
                  have c1' : (sp != 5) = true := by simp; omega
                  have c2 : decide (3 ≤ sp) = false := decide_eq_false (by omega)
                  have d1 : (tp == 5) = false := by simp; omega
                  have d1' : (tp != 5) = true := by simp; omega
                  have d2 : decide (tp < 3) = true := decide_eq_true (by omega)
                  have h9 := HH.out 9
                  rw [show hasB 9 AA = false by rw [HQ9.out, c1, d1]; rfl] at h9
                  have h10 := HH.out 10
                  rw [show hasB 10 AA = false by rw [HQ10.out, c1, d1]; rfl] at h10
                  have H9 := Lib.hid h9
                  have H10 := Lib.hid h10
                  clear h9 h10
                  clear hcs hct
                  go_wp2_with fail
                  (with_reducible refine H9.out.mono ?_)
                  rintro e wx ⟨rfl, rfl⟩
                  go_wp2_with fail
                  (with_reducible refine H10.out.mono ?_)
                  rintro e wx ⟨rfl, rfl⟩
                  go_wp2_with fail
                  refine (HKW.out _).mono ?_
                  rintro e w4 ⟨rfl, hb4⟩
                  have HBT4 := Lib.hid (HBT.out.next hb4)
                  have HST4 := Lib.hid (HSTT.out.next hb4)
                  have HLO4 := Lib.hid (HLO.out.next hb4)
                  have HB4 := Lib.hid (HB3.out.trans (hb4.mono HB3.out.size))
                  clear hb4 s0 s1 s2 s3 s4 t0 t1 t2 t3 t4
                  have t0 : w4.cell? ⟨Y, 0, none⟩ = some (.int .i64 tp) := HBT4.out.cell 0 (by simp)
                  have t1 : w4.cell? ⟨Y, 1, none⟩ = some (.int .i64 th) := HBT4.out.cell 1 (by simp)
                  have t2 : w4.cell? ⟨Y, 2, none⟩ = some (.bool tf) := HBT4.out.cell 2 (by simp)
                  have t3 : w4.cell? ⟨Y, 3, none⟩ = some (.bool tq) := HBT4.out.cell 3 (by simp)
                  have t4 : w4.cell? ⟨Y, 4, none⟩ = some (.int .u32 ti) := HBT4.out.cell 4 (by simp)
                  have s0 : w4.cell? ⟨SS, 0, none⟩ = some (.int .i64 sp) := HST4.out.cell 0 (by simp [Ph.c])
                  have f0 := HST4.out.f 0
                  have s1 : w4.cell? ⟨SS, 1, none⟩ = some (.int .i64 sh) := HST4.out.cell 1 (by simp [Ph.c])
                  have f1 := HST4.out.f 1
                  have s2 : w4.cell? ⟨SS, 2, none⟩ = some (.bool sf) := HST4.out.cell 2 (by simp [Ph.c])
                  have f2 := HST4.out.f 2
                  have s3 : w4.cell? ⟨SS, 3, none⟩ = some (.bool sq) := HST4.out.cell 3 (by simp [Ph.c])
                  have f3 := HST4.out.f 3
                  have s4 : w4.cell? ⟨SS, 4, none⟩ = some (.int .u32 si) := HST4.out.cell 4 (by simp [Ph.c])
                  have f4 := HST4.out.f 4
                  go_wp2_with fail
                  go_roundw
                  case rel =>
                    refine ⟨k + 1, ⟨tp, th, tf, tq, ti⟩, by go_num, by omega, ?_, ?_, ?_, HP1.out, HP5.out⟩
                    · exact ((((HLO4.out.setOther (by simpa using HXN.out) _).setOther (by simpa using HXN.out) _).setOther (by simpa using HXN.out) _).setOther (by simpa using HXN.out) _).setOther (by simpa using HXN.out) _
                    · exact ((((HST4.out.set 0 _).set 1 _).set 2 _).set 3 _).set 4 _
                    · exact ((((HB4.out.setCell HXSS.out _).setCell HXSS.out _).setCell HXSS.out _).setCell HXSS.out _).setCell HXSS.out _
                  case measure => simp [intOf]; omega
            · have hbt : Blk (((((w2.setCell ⟨wr.heap.size, 0, none⟩ (.int .i64 tp)).setCell ⟨wr.heap.size, 1, none⟩ (.int .i64 th)).setCell ⟨wr.heap.size, 2, none⟩ (.bool tf)).setCell ⟨wr.heap.size, 3, none⟩ (.bool tq)).setCell ⟨wr.heap.size, 4, none⟩ (.int .u32 ti)) wr.heap.size 31 [.int .i64 tp, .int .i64 th, .bool tf, .bool tq, .int .u32 ti] := (((((HZB.out.set 0 _).set 1 _).set 2 _).set 3 _).set 4 _)
              have hb3 : Below wr.heap.size wr (((((w2.setCell ⟨wr.heap.size, 0, none⟩ (.int .i64 tp)).setCell ⟨wr.heap.size, 1, none⟩ (.int .i64 th)).setCell ⟨wr.heap.size, 2, none⟩ (.bool tf)).setCell ⟨wr.heap.size, 3, none⟩ (.bool tq)).setCell ⟨wr.heap.size, 4, none⟩ (.int .u32 ti)) := ((((HB2.out.setCell (p := ⟨wr.heap.size, 0, none⟩) (Nat.le_refl _) _).setCell (p := ⟨wr.heap.size, 1, none⟩) (Nat.le_refl _) _).setCell (p := ⟨wr.heap.size, 2, none⟩) (Nat.le_refl _) _).setCell (p := ⟨wr.heap.size, 3, none⟩) (Nat.le_refl _) _).setCell (p := ⟨wr.heap.size, 4, none⟩) (Nat.le_refl _) _
              have hr3 : World.ownsRow (((((w2.setCell ⟨wr.heap.size, 0, none⟩ (.int .i64 tp)).setCell ⟨wr.heap.size, 1, none⟩ (.int .i64 th)).setCell ⟨wr.heap.size, 2, none⟩ (.bool tf)).setCell ⟨wr.heap.size, 3, none⟩ (.bool tq)).setCell ⟨wr.heap.size, 4, none⟩ (.int .u32 ti)) wr.heap.size 44 5 (.slice aq am ak) am (acells AA) := (row_set (row_set (row_set (row_set (row_set HR2.out HZB.out (by decide) 0 _) (HZB.out.set 0 _) (by decide) 1 _) ((HZB.out.set 0 _).set 1 _) (by decide) 2 _) (((HZB.out.set 0 _).set 1 _).set 2 _) (by decide) 3 _) ((((HZB.out.set 0 _).set 1 _).set 2 _).set 3 _) (by decide) 4 _)
              obtain ⟨Y, hY⟩ : ∃ Y, wr.heap.size = Y := ⟨_, rfl⟩
              obtain ⟨W3, hW3⟩ : ∃ W3, (((((w2.setCell ⟨wr.heap.size, 0, none⟩ (.int .i64 tp)).setCell ⟨wr.heap.size, 1, none⟩ (.int .i64 th)).setCell ⟨wr.heap.size, 2, none⟩ (.bool tf)).setCell ⟨wr.heap.size, 3, none⟩ (.bool tq)).setCell ⟨wr.heap.size, 4, none⟩ (.int .u32 ti)) = W3 := ⟨_, rfl⟩
              rw [hW3] at hbt hb3 hr3
              rw [hW3]
              rw [hY] at hbt ⊢
              have HYY := Lib.hid hY
              clear hW3 z0 z1 z2 z3 z4 y0 y1 y2 y3 y4 hY
              have hu3 := HU.out
              have hlo := hu3.lo.next hb3
              have hst := hu3.st.next hb3
              have HLO := Lib.hid hlo
              have HSTT := Lib.hid hst
              have HBT := Lib.hid hbt
              have HR3 := Lib.hid hr3
              have HB3 := Lib.hid (hu3.bel.trans (hb3.mono hu3.bel.size))
              have HXSS := Lib.hid (show w.heap.size ≤ SS by rw [HX.out]; exact HXS.out)
              clear hu3 hlo hst hbt hr3 hb3
              have hp1 := HU2.out.2.2.2.1
              have hp5 := HU2.out.2.2.2.2
              have hs1 := HU.out.p1
              have hs5 := HU.out.p5
              dsimp only at hp1 hp5 hs1 hs5
              have HKW := Lib.hid (fun (U : World) => known_any ⟨tp, th, tf, tq, ti⟩ U)
              rw [show knownB ⟨tp, th, tf, tq, ti⟩ = true by unfold knownB; dsimp only; rw [decide_eq_true hp1, decide_eq_true hp5]; rfl] at HKW
              unfold Ph.v at HKW
              dsimp only at HKW
              have HP1 := Lib.hid hp1
              have HP5 := Lib.hid hp5
              have hcs : sp = 5 ∨ (3 ≤ sp ∧ sp < 5) ∨ sp < 3 := by omega
              have hct : tp = 5 ∨ (3 ≤ tp ∧ tp < 5) ∨ tp < 3 := by omega
              have HH := Lib.hid (fun kd => has_row kd aq am ak AA W3 wr.heap.size HR3.out HL2.out)
              have HQ9 := Lib.hid (show hasB 9 AA = (!(sp == 5) && (tp == 5)) from HU2.out.1)
              have HQ10 := Lib.hid (show hasB 10 AA = ((sp == 5) && !(tp == 5)) from HU2.out.2.1)
              have HQ5 := Lib.hid (show 3 ≤ sp → tp < 3 → hasB 5 AA = true from HU2.out.2.2.1)
              have s0 : W3.cell? ⟨SS, 0, none⟩ = some (.int .i64 sp) := HSTT.out.cell 0 (by simp [Ph.c])
              have s1 : W3.cell? ⟨SS, 1, none⟩ = some (.int .i64 sh) := HSTT.out.cell 1 (by simp [Ph.c])
              have s2 : W3.cell? ⟨SS, 2, none⟩ = some (.bool sf) := HSTT.out.cell 2 (by simp [Ph.c])
              have s3 : W3.cell? ⟨SS, 3, none⟩ = some (.bool sq) := HSTT.out.cell 3 (by simp [Ph.c])
              have s4 : W3.cell? ⟨SS, 4, none⟩ = some (.int .u32 si) := HSTT.out.cell 4 (by simp [Ph.c])
              have t0 : W3.cell? ⟨Y, 0, none⟩ = some (.int .i64 tp) := HBT.out.cell 0 (by simp)
              have t1 : W3.cell? ⟨Y, 1, none⟩ = some (.int .i64 th) := HBT.out.cell 1 (by simp)
              have t2 : W3.cell? ⟨Y, 2, none⟩ = some (.bool tf) := HBT.out.cell 2 (by simp)
              have t3 : W3.cell? ⟨Y, 3, none⟩ = some (.bool tq) := HBT.out.cell 3 (by simp)
              have t4 : W3.cell? ⟨Y, 4, none⟩ = some (.int .u32 ti) := HBT.out.cell 4 (by simp)
              clear hp1 hp5 hs1 hs5
              rcases hcs with hcs | hcs | hcs
              · rcases hct with hct | hct | hct
                · obtain rfl : sp = 5 := hcs
                  obtain rfl : tp = 5 := hct
                  have h9 := HH.out 9
                  rw [show hasB 9 AA = false by rw [HQ9.out]; rfl] at h9
                  have h10 := HH.out 10
                  rw [show hasB 10 AA = false by rw [HQ10.out]; rfl] at h10
                  have H9 := Lib.hid h9
                  have H10 := Lib.hid h10
                  clear h9 h10
                  go_wp2_with fail
                  (with_reducible refine H9.out.mono ?_)
                  rintro e wx ⟨rfl, rfl⟩
                  go_wp2_with fail
                  (with_reducible refine H10.out.mono ?_)
                  rintro e wx ⟨rfl, rfl⟩
                  go_wp2_with fail
                  refine (HKW.out _).mono ?_
                  rintro e w4 ⟨rfl, hb4⟩
                  have HBT4 := Lib.hid (HBT.out.next hb4)
                  have HST4 := Lib.hid (HSTT.out.next hb4)
                  have HLO4 := Lib.hid (HLO.out.next hb4)
                  have HB4 := Lib.hid (HB3.out.trans (hb4.mono HB3.out.size))
                  clear hb4 s0 s1 s2 s3 s4 t0 t1 t2 t3 t4
                  have t0 : w4.cell? ⟨Y, 0, none⟩ = some (.int .i64 5) := HBT4.out.cell 0 (by simp)
                  have t1 : w4.cell? ⟨Y, 1, none⟩ = some (.int .i64 th) := HBT4.out.cell 1 (by simp)
                  have t2 : w4.cell? ⟨Y, 2, none⟩ = some (.bool tf) := HBT4.out.cell 2 (by simp)
                  have t3 : w4.cell? ⟨Y, 3, none⟩ = some (.bool tq) := HBT4.out.cell 3 (by simp)
                  have t4 : w4.cell? ⟨Y, 4, none⟩ = some (.int .u32 ti) := HBT4.out.cell 4 (by simp)
                  have s0 : w4.cell? ⟨SS, 0, none⟩ = some (.int .i64 5) := HST4.out.cell 0 (by simp [Ph.c])
                  have f0 := HST4.out.f 0
                  have s1 : w4.cell? ⟨SS, 1, none⟩ = some (.int .i64 sh) := HST4.out.cell 1 (by simp [Ph.c])
                  have f1 := HST4.out.f 1
                  have s2 : w4.cell? ⟨SS, 2, none⟩ = some (.bool sf) := HST4.out.cell 2 (by simp [Ph.c])
                  have f2 := HST4.out.f 2
                  have s3 : w4.cell? ⟨SS, 3, none⟩ = some (.bool sq) := HST4.out.cell 3 (by simp [Ph.c])
                  have f3 := HST4.out.f 3
                  have s4 : w4.cell? ⟨SS, 4, none⟩ = some (.int .u32 si) := HST4.out.cell 4 (by simp [Ph.c])
                  have f4 := HST4.out.f 4
                  go_wp2_with fail
                  go_roundw
                  case rel =>
                    refine ⟨k + 1, ⟨5, th, tf, tq, ti⟩, by go_num, by omega, ?_, ?_, ?_, HP1.out, HP5.out⟩
                    · exact ((((HLO4.out.setOther (by simpa using HXN.out) _).setOther (by simpa using HXN.out) _).setOther (by simpa using HXN.out) _).setOther (by simpa using HXN.out) _).setOther (by simpa using HXN.out) _
                    · exact ((((HST4.out.set 0 _).set 1 _).set 2 _).set 3 _).set 4 _
                    · exact ((((HB4.out.setCell HXSS.out _).setCell HXSS.out _).setCell HXSS.out _).setCell HXSS.out _).setCell HXSS.out _
                  case measure => simp [intOf]; omega
                · obtain rfl : sp = 5 := hcs
                  have d1 : (tp == 5) = false := by simp; omega
                  have d1' : (tp != 5) = true := by simp; omega
                  have d2 : decide (tp < 3) = false := decide_eq_false (by omega)
                  have h9 := HH.out 9
                  rw [show hasB 9 AA = false by rw [HQ9.out, d1]; rfl] at h9
                  have h10 := HH.out 10
                  rw [show hasB 10 AA = true by rw [HQ10.out, d1]; rfl] at h10
                  have H9 := Lib.hid h9
                  have H10 := Lib.hid h10
                  clear h9 h10
                  clear hct
                  go_wp2_with fail
                  (with_reducible refine H9.out.mono ?_)
                  rintro e wx ⟨rfl, rfl⟩
                  go_wp2_with fail
                  (with_reducible refine H10.out.mono ?_)
                  rintro e wx ⟨rfl, rfl⟩
                  go_wp2_with fail
                  refine (HKW.out _).mono ?_
                  rintro e w4 ⟨rfl, hb4⟩
                  have HBT4 := Lib.hid (HBT.out.next hb4)
                  have HST4 := Lib.hid (HSTT.out.next hb4)
                  have HLO4 := Lib.hid (HLO.out.next hb4)
                  have HB4 := Lib.hid (HB3.out.trans (hb4.mono HB3.out.size))
                  clear hb4 s0 s1 s2 s3 s4 t0 t1 t2 t3 t4
                  have t0 : w4.cell? ⟨Y, 0, none⟩ = some (.int .i64 tp) := HBT4.out.cell 0 (by simp)
                  have t1 : w4.cell? ⟨Y, 1, none⟩ = some (.int .i64 th) := HBT4.out.cell 1 (by simp)
                  have t2 : w4.cell? ⟨Y, 2, none⟩ = some (.bool tf) := HBT4.out.cell 2 (by simp)
                  have t3 : w4.cell? ⟨Y, 3, none⟩ = some (.bool tq) := HBT4.out.cell 3 (by simp)
                  have t4 : w4.cell? ⟨Y, 4, none⟩ = some (.int .u32 ti) := HBT4.out.cell 4 (by simp)
                  have s0 : w4.cell? ⟨SS, 0, none⟩ = some (.int .i64 5) := HST4.out.cell 0 (by simp [Ph.c])
                  have f0 := HST4.out.f 0
                  have s1 : w4.cell? ⟨SS, 1, none⟩ = some (.int .i64 sh) := HST4.out.cell 1 (by simp [Ph.c])
                  have f1 := HST4.out.f 1
                  have s2 : w4.cell? ⟨SS, 2, none⟩ = some (.bool sf) := HST4.out.cell 2 (by simp [Ph.c])
                  have f2 := HST4.out.f 2
                  have s3 : w4.cell? ⟨SS, 3, none⟩ = some (.bool sq) := HST4.out.cell 3 (by simp [Ph.c])
                  have f3 := HST4.out.f 3
                  have s4 : w4.cell? ⟨SS, 4, none⟩ = some (.int .u32 si) := HST4.out.cell 4 (by simp [Ph.c])
                  have f4 := HST4.out.f 4
                  go_wp2_with fail
                  go_roundw
                  case rel =>
                    refine ⟨k + 1, ⟨tp, th, tf, tq, ti⟩, by go_num, by omega, ?_, ?_, ?_, HP1.out, HP5.out⟩
                    · exact ((((HLO4.out.setOther (by simpa using HXN.out) _).setOther (by simpa using HXN.out) _).setOther (by simpa using HXN.out) _).setOther (by simpa using HXN.out) _).setOther (by simpa using HXN.out) _
                    · exact ((((HST4.out.set 0 _).set 1 _).set 2 _).set 3 _).set 4 _
                    · exact ((((HB4.out.setCell HXSS.out _).setCell HXSS.out _).setCell HXSS.out _).setCell HXSS.out _).setCell HXSS.out _
                  case measure => simp [intOf]; omega
                · obtain rfl : sp = 5 := hcs
                  have d1 : (tp == 5) = false := by simp; omega
                  have d1' : (tp != 5) = true := by simp; omega
                  have d2 : decide (tp < 3) = true := decide_eq_true (by omega)
                  have h9 := HH.out 9
                  rw [show hasB 9 AA = false by rw [HQ9.out, d1]; rfl] at h9
                  have h10 := HH.out 10
                  rw [show hasB 10 AA = true by rw [HQ10.out, d1]; rfl] at h10
                  have H9 := Lib.hid h9
                  have H10 := Lib.hid h10
                  clear h9 h10
                  have h5 := HH.out 5
                  rw [HQ5.out (by omega) (by omega)] at h5
                  have H5 := Lib.hid h5
                  clear h5
                  clear hct
                  go_wp2_with fail
                  (with_reducible refine H9.out.mono ?_)
                  rintro e wx ⟨rfl, rfl⟩
                  go_wp2_with fail
                  (with_reducible refine H10.out.mono ?_)
                  rintro e wx ⟨rfl, rfl⟩
                  go_wp2_with fail
                  (with_reducible refine H5.out.mono ?_)
                  rintro e wx ⟨rfl, rfl⟩
                  go_wp2_with fail
                  refine (HKW.out _).mono ?_
                  rintro e w4 ⟨rfl, hb4⟩
                  have HBT4 := Lib.hid (HBT.out.next hb4)
                  have HST4 := Lib.hid (HSTT.out.next hb4)
                  have HLO4 := Lib.hid (HLO.out.next hb4)
                  have HB4 := Lib.hid (HB3.out.trans (hb4.mono HB3.out.size))
                  clear hb4 s0 s1 s2 s3 s4 t0 t1 t2 t3 t4
                  have t0 : w4.cell? ⟨Y, 0, none⟩ = some (.int .i64 tp) := HBT4.out.cell 0 (by simp)
                  have t1 : w4.cell? ⟨Y, 1, none⟩ = some (.int .i64 th) := HBT4.out.cell 1 (by simp)
                  have t2 : w4.cell? ⟨Y, 2, none⟩ = some (.bool tf) := HBT4.out.cell 2 (by simp)
                  have t3 : w4.cell? ⟨Y, 3, none⟩ = some (.bool tq) := HBT4.out.cell 3 (by simp)
                  have t4 : w4.cell? ⟨Y, 4, none⟩ = some (.int .u32 ti) := HBT4.out.cell 4 (by simp)
                  have s0 : w4.cell? ⟨SS, 0, none⟩ = some (.int .i64 5) := HST4.out.cell 0 (by simp [Ph.c])
                  have f0 := HST4.out.f 0
                  have s1 : w4.cell? ⟨SS, 1, none⟩ = some (.int .i64 sh) := HST4.out.cell 1 (by simp [Ph.c])
                  have f1 := HST4.out.f 1
                  have s2 : w4.cell? ⟨SS, 2, none⟩ = some (.bool sf) := HST4.out.cell 2 (by simp [Ph.c])
                  have f2 := HST4.out.f 2
                  have s3 : w4.cell? ⟨SS, 3, none⟩ = some (.bool sq) := HST4.out.cell 3 (by simp [Ph.c])
                  have f3 := HST4.out.f 3
                  have s4 : w4.cell? ⟨SS, 4, none⟩ = some (.int .u32 si) := HST4.out.cell 4 (by simp [Ph.c])
                  have f4 := HST4.out.f 4
                  go_wp2_with fail
                  go_roundw
                  case rel =>
                    refine ⟨k + 1, ⟨tp, th, tf, tq, ti⟩, by go_num, by omega, ?_, ?_, ?_, HP1.out, HP5.out⟩
                    · exact ((((HLO4.out.setOther (by simpa using HXN.out) _).setOther (by simpa using HXN.out) _).setOther (by simpa using HXN.out) _).setOther (by simpa using HXN.out) _).setOther (by simpa using HXN.out) _
                    · exact ((((HST4.out.set 0 _).set 1 _).set 2 _).set 3 _).set 4 _
                    · exact ((((HB4.out.setCell HXSS.out _).setCell HXSS.out _).setCell HXSS.out _).setCell HXSS.out _).setCell HXSS.out _
                  case measure => simp [intOf]; omega
              · rcases hct with hct | hct | hct
                · have c1 : (sp == 5) = false := by simp; omega
                  have c1' : (sp != 5) = true := by simp; omega
                  have c2 : decide (3 ≤ sp) = true := decide_eq_true (by omega)
                  obtain rfl : tp = 5 := hct
                  have h9 := HH.out 9
                  rw [show hasB 9 AA = true by rw [HQ9.out, c1]; rfl] at h9
                  have h10 := HH.out 10
                  rw [show hasB 10 AA = false by rw [HQ10.out, c1]; rfl] at h10
                  have H9 := Lib.hid h9
                  have H10 := Lib.hid h10
                  clear h9 h10
                  clear hcs
                  go_wp2_with fail
                  (with_reducible refine H9.out.mono ?_)
                  rintro e wx ⟨rfl, rfl⟩
                  go_wp2_with fail
                  (with_reducible refine H10.out.mono ?_)
                  rintro e wx ⟨rfl, rfl⟩
                  go_wp2_with fail
                  refine (HKW.out _).mono ?_
                  rintro e w4 ⟨rfl, hb4⟩
                  have HBT4 := Lib.hid (HBT.out.next hb4)
                  have HST4 := Lib.hid (HSTT.out.next hb4)
                  have HLO4 := Lib.hid (HLO.out.next hb4)
                  have HB4 := Lib.hid (HB3.out.trans (hb4.mono HB3.out.size))
                  clear hb4 s0 s1 s2 s3 s4 t0 t1 t2 t3 t4
                  have t0 : w4.cell? ⟨Y, 0, none⟩ = some (.int .i64 5) := HBT4.out.cell 0 (by simp)
                  have t1 : w4.cell? ⟨Y, 1, none⟩ = some (.int .i64 th) := HBT4.out.cell 1 (by simp)
                  have t2 : w4.cell? ⟨Y, 2, none⟩ = some (.bool tf) := HBT4.out.cell 2 (by simp)
                  have t3 : w4.cell? ⟨Y, 3, none⟩ = some (.bool tq) := HBT4.out.cell 3 (by simp)
                  have t4 : w4.cell? ⟨Y, 4, none⟩ = some (.int .u32 ti) := HBT4.out.cell 4 (by simp)
                  have s0 : w4.cell? ⟨SS, 0, none⟩ = some (.int .i64 sp) := HST4.out.cell 0 (by simp [Ph.c])
                  have f0 := HST4.out.f 0
                  have s1 : w4.cell? ⟨SS, 1, none⟩ = some (.int .i64 sh) := HST4.out.cell 1 (by simp [Ph.c])
                  have f1 := HST4.out.f 1
                  have s2 : w4.cell? ⟨SS, 2, none⟩ = some (.bool sf) := HST4.out.cell 2 (by simp [Ph.c])
                  have f2 := HST4.out.f 2
                  have s3 : w4.cell? ⟨SS, 3, none⟩ = some (.bool sq) := HST4.out.cell 3 (by simp [Ph.c])
                  have f3 := HST4.out.f 3
                  have s4 : w4.cell? ⟨SS, 4, none⟩ = some (.int .u32 si) := HST4.out.cell 4 (by simp [Ph.c])
                  have f4 := HST4.out.f 4
                  go_wp2_with fail
                  go_roundw
                  case rel =>
                    refine ⟨k + 1, ⟨5, th, tf, tq, ti⟩, by go_num, by omega, ?_, ?_, ?_, HP1.out, HP5.out⟩
                    · exact ((((HLO4.out.setOther (by simpa using HXN.out) _).setOther (by simpa using HXN.out) _).setOther (by simpa using HXN.out) _).setOther (by simpa using HXN.out) _).setOther (by simpa using HXN.out) _
                    · exact ((((HST4.out.set 0 _).set 1 _).set 2 _).set 3 _).set 4 _
                    · exact ((((HB4.out.setCell HXSS.out _).setCell HXSS.out _).setCell HXSS.out _).setCell HXSS.out _).setCell HXSS.out _
                  case measure => simp [intOf]; omega
                · have c1 : (sp == 5) = false := by simp; omega
                  have c1' : (sp != 5) = true := by simp; omega
                  have c2 : decide (3 ≤ sp) = true := decide_eq_true (by omega)
                  have d1 : (tp == 5) = false := by simp; omega
                  have d1' : (tp != 5) = true := by simp; omega
                  have d2 : decide (tp < 3) = false := decide_eq_false (by omega)
                  have h9 := HH.out 9
                  rw [show hasB 9 AA = false by rw [HQ9.out, c1, d1]; rfl] at h9
                  have h10 := HH.out 10
                  rw [show hasB 10 AA = false by rw [HQ10.out, c1, d1]; rfl] at h10
                  have H9 := Lib.hid h9
                  have H10 := Lib.hid h10
                  clear h9 h10
                  clear hcs hct
                  go_wp2_with fail
                  (with_reducible refine H9.out.mono ?_)
                  rintro e wx ⟨rfl, rfl⟩
                  go_wp2_with fail
                  (with_reducible refine H10.out.mono ?_)
                  rintro e wx ⟨rfl, rfl⟩
                  go_wp2_with fail
                  refine (HKW.out _).mono ?_
                  rintro e w4 ⟨rfl, hb4⟩
                  have HBT4 := Lib.hid (HBT.out.next hb4)
                  have HST4 := Lib.hid (HSTT.out.next hb4)
                  have HLO4 := Lib.hid (HLO.out.next hb4)
                  have HB4 := Lib.hid (HB3.out.trans (hb4.mono HB3.out.size))
                  clear hb4 s0 s1 s2 s3 s4 t0 t1 t2 t3 t4
                  have t0 : w4.cell? ⟨Y, 0, none⟩ = some (.int .i64 tp) := HBT4.out.cell 0 (by simp)
                  have t1 : w4.cell? ⟨Y, 1, none⟩ = some (.int .i64 th) := HBT4.out.cell 1 (by simp)
                  have t2 : w4.cell? ⟨Y, 2, none⟩ = some (.bool tf) := HBT4.out.cell 2 (by simp)
                  have t3 : w4.cell? ⟨Y, 3, none⟩ = some (.bool tq) := HBT4.out.cell 3 (by simp)
                  have t4 : w4.cell? ⟨Y, 4, none⟩ = some (.int .u32 ti) := HBT4.out.cell 4 (by simp)
                  have s0 : w4.cell? ⟨SS, 0, none⟩ = some (.int .i64 sp) := HST4.out.cell 0 (by simp [Ph.c])
                  have f0 := HST4.out.f 0
                  have s1 : w4.cell? ⟨SS, 1, none⟩ = some (.int .i64 sh) := HST4.out.cell 1 (by simp [Ph.c])
                  have f1 := HST4.out.f 1
                  have s2 : w4.cell? ⟨SS, 2, none⟩ = some (.bool sf) := HST4.out.cell 2 (by simp [Ph.c])
                  have f2 := HST4.out.f 2
                  have s3 : w4.cell? ⟨SS, 3, none⟩ = some (.bool sq) := HST4.out.cell 3 (by simp [Ph.c])
                  have f3 := HST4.out.f 3
                  have s4 : w4.cell? ⟨SS, 4, none⟩ = some (.int .u32 si) := HST4.out.cell 4 (by simp [Ph.c])
                  have f4 := HST4.out.f 4
                  go_wp2_with fail
                  go_roundw
                  case rel =>
                    refine ⟨k + 1, ⟨tp, th, tf, tq, ti⟩, by go_num, by omega, ?_, ?_, ?_, HP1.out, HP5.out⟩
                    · exact ((((HLO4.out.setOther (by simpa using HXN.out) _).setOther (by simpa using HXN.out) _).setOther (by simpa using HXN.out) _).setOther (by simpa using HXN.out) _).setOther (by simpa using HXN.out) _
                    · exact ((((HST4.out.set 0 _).set 1 _).set 2 _).set 3 _).set 4 _
                    · exact ((((HB4.out.setCell HXSS.out _).setCell HXSS.out _).setCell HXSS.out _).setCell HXSS.out _).setCell HXSS.out _
                  case measure => simp [intOf]; omega
                · have c1 : (sp == 5) = false := by simp; omega
                  have c1' : (sp != 5) = true := by simp; omega
                  have c2 : decide (3 ≤ sp) = true := decide_eq_true (by omega)
                  have d1 : (tp == 5) = false := by simp; omega
                  have d1' : (tp != 5) = true := by simp; omega
                  have d2 : decide (tp < 3) = true := decide_eq_true (by omega)
                  have h9 := HH.out 9
                  rw [show hasB 9 AA = false by rw [HQ9.out, c1, d1]; rfl] at h9
                  have h10 := HH.out 10
                  rw [show hasB 10 AA = false by rw [HQ10.out, c1, d1]; rfl] at h10
                  have H9 := Lib.hid h9
                  have H10 := Lib.hid h10
                  clear h9 h10
                  have h5 := HH.out 5
                  rw [HQ5.out (by omega) (by omega)] at h5
                  have H5 := Lib.hid h5
                  clear h5
                  clear hcs hct
                  go_wp2_with fail
                  (with_reducible refine H9.out.mono ?_)
                  rintro e wx ⟨rfl, rfl⟩
                  go_wp2_with fail
                  (with_reducible refine H10.out.mono ?_)
                  rintro e wx ⟨rfl, rfl⟩
                  go_wp2_with fail
                  (with_reducible refine H5.out.mono ?_)
                  rintro e wx ⟨rfl, rfl⟩
                  go_wp2_with fail
                  refine (HKW.out _).mono ?_
                  rintro e w4 ⟨rfl, hb4⟩
                  have HBT4 := Lib.hid (HBT.out.next hb4)
                  have HST4 := Lib.hid (HSTT.out.next hb4)
                  have HLO4 := Lib.hid (HLO.out.next hb4)
                  have HB4 := Lib.hid (HB3.out.trans (hb4.mono HB3.out.size))
                  clear hb4 s0 s1 s2 s3 s4 t0 t1 t2 t3 t4
                  have t0 : w4.cell? ⟨Y, 0, none⟩ = some (.int .i64 tp) := HBT4.out.cell 0 (by simp)
                  have t1 : w4.cell? ⟨Y, 1, none⟩ = some (.int .i64 th) := HBT4.out.cell 1 (by simp)
                  have t2 : w4.cell? ⟨Y, 2, none⟩ = some (.bool tf) := HBT4.out.cell 2 (by simp)
                  have t3 : w4.cell? ⟨Y, 3, none⟩ = some (.bool tq) := HBT4.out.cell 3 (by simp)
                  have t4 : w4.cell? ⟨Y, 4, none⟩ = some (.int .u32 ti) := HBT4.out.cell 4 (by simp)
                  have s0 : w4.cell? ⟨SS, 0, none⟩ = some (.int .i64 sp) := HST4.out.cell 0 (by simp [Ph.c])
                  have f0 := HST4.out.f 0
                  have s1 : w4.cell? ⟨SS, 1, none⟩ = some (.int .i64 sh) := HST4.out.cell 1 (by simp [Ph.c])
                  have f1 := HST4.out.f 1
                  have s2 : w4.cell? ⟨SS, 2, none⟩ = some (.bool sf) := HST4.out.cell 2 (by simp [Ph.c])
                  have f2 := HST4.out.f 2
                  have s3 : w4.cell? ⟨SS, 3, none⟩ = some (.bool sq) := HST4.out.cell 3 (by simp [Ph.c])
                  have f3 := HST4.out.f 3
                  have s4 : w4.cell? ⟨SS, 4, none⟩ = some (.int .u32 si) := HST4.out.cell 4 (by simp [Ph.c])
                  have f4 := HST4.out.f 4
                  go_wp2_with fail
                  go_roundw
                  case rel =>
                    refine ⟨k + 1, ⟨tp, th, tf, tq, ti⟩, by go_num, by omega, ?_, ?_, ?_, HP1.out, HP5.out⟩
                    · exact ((((HLO4.out.setOther (by simpa using HXN.out) _).setOther (by simpa using HXN.out) _).setOther (by simpa using HXN.out) _).setOther (by simpa using HXN.out) _).setOther (by simpa using HXN.out) _
                    · exact ((((HST4.out.set 0 _).set 1 _).set 2 _).set 3 _).set 4 _
                    · exact ((((HB4.out.setCell HXSS.out _).setCell HXSS.out _).setCell HXSS.out _).setCell HXSS.out _).setCell HXSS.out _
                  case measure => simp [intOf]; omega
              · rcases hct with hct | hct | hct
                · have c1 : (sp == 5) = false := by simp; omega
                  have c1' : (sp != 5) = true := by simp; omega
                  have c2 : decide (3 ≤ sp) = false := decide_eq_false (by omega)
                  obtain rfl : tp = 5 := hct
                  have h9 := HH.out 9
                  rw [show hasB 9 AA = true by rw [HQ9.out, c1]; rfl] at h9
                  have h10 := HH.out 10
                  rw [show hasB 10 AA = false by rw [HQ10.out, c1]; rfl] at h10
                  have H9 := Lib.hid h9
                  have H10 := Lib.hid h10
                  clear h9 h10
                  clear hcs
                  go_wp2_with fail
                  (with_reducible refine H9.out.mono ?_)
                  rintro e wx ⟨rfl, rfl⟩
                  go_wp2_with fail
                  (with_reducible refine H10.out.mono ?_)
                  rintro e wx ⟨rfl, rfl⟩
                  go_wp2_with fail
                  refine (HKW.out _).mono ?_
                  rintro e w4 ⟨rfl, hb4⟩
                  have HBT4 := Lib.hid (HBT.out.next hb4)
                  have HST4 := Lib.hid (HSTT.out.next hb4)
                  have HLO4 := Lib.hid (HLO.out.next hb4)
                  have HB4 := Lib.hid (HB3.out.trans (hb4.mono HB3.out.size))
                  clear hb4 s0 s1 s2 s3 s4 t0 t1 t2 t3 t4
                  have t0 : w4.cell? ⟨Y, 0, none⟩ = some (.int .i64 5) := HBT4.out.cell 0 (by simp)
                  have t1 : w4.cell? ⟨Y, 1, none⟩ = some (.int .i64 th) := HBT4.out.cell 1 (by simp)
                  have t2 : w4.cell? ⟨Y, 2, none⟩ = some (.bool tf) := HBT4.out.cell 2 (by simp)
                  have t3 : w4.cell? ⟨Y, 3, none⟩ = some (.bool tq) := HBT4.out.cell 3 (by simp)
                  have t4 : w4.cell? ⟨Y, 4, none⟩ = some (.int .u32 ti) := HBT4.out.cell 4 (by simp)
                  have s0 : w4.cell? ⟨SS, 0, none⟩ = some (.int .i64 sp) := HST4.out.cell 0 (by simp [Ph.c])
                  have f0 := HST4.out.f 0
                  have s1 : w4.cell? ⟨SS, 1, none⟩ = some (.int .i64 sh) := HST4.out.cell 1 (by simp [Ph.c])
                  have f1 := HST4.out.f 1
                  have s2 : w4.cell? ⟨SS, 2, none⟩ = some (.bool sf) := HST4.out.cell 2 (by simp [Ph.c])
                  have f2 := HST4.out.f 2
                  have s3 : w4.cell? ⟨SS, 3, none⟩ = some (.bool sq) := HST4.out.cell 3 (by simp [Ph.c])
                  have f3 := HST4.out.f 3
                  have s4 : w4.cell? ⟨SS, 4, none⟩ = some (.int .u32 si) := HST4.out.cell 4 (by simp [Ph.c])
                  have f4 := HST4.out.f 4
                  go_wp2_with fail
                  go_roundw
                  case rel =>
                    refine ⟨k + 1, ⟨5, th, tf, tq, ti⟩, by go_num, by omega, ?_, ?_, ?_, HP1.out, HP5.out⟩
                    · exact ((((HLO4.out.setOther (by simpa using HXN.out) _).setOther (by simpa using HXN.out) _).setOther (by simpa using HXN.out) _).setOther (by simpa using HXN.out) _).setOther (by simpa using HXN.out) _
                    · exact ((((HST4.out.set 0 _).set 1 _).set 2 _).set 3 _).set 4 _
                    · exact ((((HB4.out.setCell HXSS.out _).setCell HXSS.out _).setCell HXSS.out _).setCell HXSS.out _).setCell HXSS.out _
                  case measure => simp [intOf]; omega
                · have c1 : (sp == 5) = false := by simp; omega
                  have c1' : (sp != 5) = true := by simp; omega
                  have c2 : decide (3 ≤ sp) = false := decide_eq_false (by omega)
                  have d1 : (tp == 5) = false := by simp; omega
                  have d1' : (tp != 5) = true := by simp; omega
                  have d2 : decide (tp < 3) = false := decide_eq_false (by omega)
                  have h9 := HH.out 9
                  rw [show hasB 9 AA = false by rw [HQ9.out, c1, d1]; rfl] at h9
                  have h10 := HH.out 10
                  rw [show hasB 10 AA = false by rw [HQ10.out, c1, d1]; rfl] at h10
                  have H9 := Lib.hid h9
                  have H10 := Lib.hid h10
                  clear h9 h10
                  clear hcs hct
                  go_wp2_with fail
                  (with_reducible refine H9.out.mono ?_)
                  rintro e wx ⟨rfl, rfl⟩
                  go_wp2_with fail
                  (with_reducible refine H10.out.mono ?_)
                  rintro e wx ⟨rfl, rfl⟩
                  go_wp2_with fail
                  refine (HKW.out _).mono ?_
                  rintro e w4 ⟨rfl, hb4⟩
                  have HBT4 := Lib.hid (HBT.out.next hb4)
                  have HST4 := Lib.hid (HSTT.out.next hb4)
                  have HLO4 := Lib.hid (HLO.out.next hb4)
                  have HB4 := Lib.hid (HB3.out.trans (hb4.mono HB3.out.size))
                  clear hb4 s0 s1 s2 s3 s4 t0 t1 t2 t3 t4
                  have t0 : w4.cell? ⟨Y, 0, none⟩ = some (.int .i64 tp) := HBT4.out.cell 0 (by simp)
                  have t1 : w4.cell? ⟨Y, 1, none⟩ = some (.int .i64 th) := HBT4.out.cell 1 (by simp)
                  have t2 : w4.cell? ⟨Y, 2, none⟩ = some (.bool tf) := HBT4.out.cell 2 (by simp)
                  have t3 : w4.cell? ⟨Y, 3, none⟩ = some (.bool tq) := HBT4.out.cell 3 (by simp)
                  have t4 : w4.cell? ⟨Y, 4, none⟩ = some (.int .u32 ti) := HBT4.out.cell 4 (by simp)
                  have s0 : w4.cell? ⟨SS, 0, none⟩ = some (.int .i64 sp) := HST4.out.cell 0 (by simp [Ph.c])
                  have f0 := HST4.out.f 0
                  have s1 : w4.cell? ⟨SS, 1, none⟩ = some (.int .i64 sh) := HST4.out.cell 1 (by simp [Ph.c])
                  have f1 := HST4.out.f 1
                  have s2 : w4.cell? ⟨SS, 2, none⟩ = some (.bool sf) := HST4.out.cell 2 (by simp [Ph.c])
                  have f2 := HST4.out.f 2
                  have s3 : w4.cell? ⟨SS, 3, none⟩ = some (.bool sq) := HST4.out.cell 3 (by simp [Ph.c])
                  have f3 := HST4.out.f 3
                  have s4 : w4.cell? ⟨SS, 4, none⟩ = some (.int .u32 si) := HST4.out.cell 4 (by simp [Ph.c])
                  have f4 := HST4.out.f 4
                  go_wp2_with fail
                  go_roundw
                  case rel =>
                    refine ⟨k + 1, ⟨tp, th, tf, tq, ti⟩, by go_num, by omega, ?_, ?_, ?_, HP1.out, HP5.out⟩
                    · exact ((((HLO4.out.setOther (by simpa using HXN.out) _).setOther (by simpa using HXN.out) _).setOther (by simpa using HXN.out) _).setOther (by simpa using HXN.out) _).setOther (by simpa using HXN.out) _
                    · exact ((((HST4.out.set 0 _).set 1 _).set 2 _).set 3 _).set 4 _
                    · exact ((((HB4.out.setCell HXSS.out _).setCell HXSS.out _).setCell HXSS.out _).setCell HXSS.out _).setCell HXSS.out _
                  case measure => simp [intOf]; omega
                · have c1 : (sp == 5) = false := by simp; omega
                  have c1' : (sp != 5) = true := by simp; omega
                  have c2 : decide (3 ≤ sp) = false := decide_eq_false (by omega)
                  have d1 : (tp == 5) = false := by simp; omega
                  have d1' : (tp != 5) = true := by simp; omega
                  have d2 : decide (tp < 3) = true := decide_eq_true (by omega)
                  have h9 := HH.out 9
                  rw [show hasB 9 AA = false by rw [HQ9.out, c1, d1]; rfl] at h9
                  have h10 := HH.out 10
                  rw [show hasB 10 AA = false by rw [HQ10.out, c1, d1]; rfl] at h10
                  have H9 := Lib.hid h9
                  have H10 := Lib.hid h10
                  clear h9 h10
                  clear hcs hct
                  go_wp2_with fail
                  (with_reducible refine H9.out.mono ?_)
                  rintro e wx ⟨rfl, rfl⟩
                  go_wp2_with fail
                  (with_reducible refine H10.out.mono ?_)
                  rintro e wx ⟨rfl, rfl⟩
                  go_wp2_with fail
                  refine (HKW.out _).mono ?_
                  rintro e w4 ⟨rfl, hb4⟩
                  have HBT4 := Lib.hid (HBT.out.next hb4)
                  have HST4 := Lib.hid (HSTT.out.next hb4)
                  have HLO4 := Lib.hid (HLO.out.next hb4)
                  have HB4 := Lib.hid (HB3.out.trans (hb4.mono HB3.out.size))
                  clear hb4 s0 s1 s2 s3 s4 t0 t1 t2 t3 t4
                  have t0 : w4.cell? ⟨Y, 0, none⟩ = some (.int .i64 tp) := HBT4.out.cell 0 (by simp)
                  have t1 : w4.cell? ⟨Y, 1, none⟩ = some (.int .i64 th) := HBT4.out.cell 1 (by simp)
                  have t2 : w4.cell? ⟨Y, 2, none⟩ = some (.bool tf) := HBT4.out.cell 2 (by simp)
                  have t3 : w4.cell? ⟨Y, 3, none⟩ = some (.bool tq) := HBT4.out.cell 3 (by simp)
                  have t4 : w4.cell? ⟨Y, 4, none⟩ = some (.int .u32 ti) := HBT4.out.cell 4 (by simp)
                  have s0 : w4.cell? ⟨SS, 0, none⟩ = some (.int .i64 sp) := HST4.out.cell 0 (by simp [Ph.c])
                  have f0 := HST4.out.f 0
                  have s1 : w4.cell? ⟨SS, 1, none⟩ = some (.int .i64 sh) := HST4.out.cell 1 (by simp [Ph.c])
                  have f1 := HST4.out.f 1
                  have s2 : w4.cell? ⟨SS, 2, none⟩ = some (.bool sf) := HST4.out.cell 2 (by simp [Ph.c])
                  have f2 := HST4.out.f 2
                  have s3 : w4.cell? ⟨SS, 3, none⟩ = some (.bool sq) := HST4.out.cell 3 (by simp [Ph.c])
                  have f3 := HST4.out.f 3
                  have s4 : w4.cell? ⟨SS, 4, none⟩ = some (.int .u32 si) := HST4.out.cell 4 (by simp [Ph.c])
                  have f4 := HST4.out.f 4
                  go_wp2_with fail
                  go_roundw
                  case rel =>
                    refine ⟨k + 1, ⟨tp, th, tf, tq, ti⟩, by go_num, by omega, ?_, ?_, ?_, HP1.out, HP5.out⟩
                    · exact ((((HLO4.out.setOther (by simpa using HXN.out) _).setOther (by simpa using HXN.out) _).setOther (by simpa using HXN.out) _).setOther (by simpa using HXN.out) _).setOther (by simpa using HXN.out) _
                    · exact ((((HST4.out.set 0 _).set 1 _).set 2 _).set 3 _).set 4 _
                    · exact ((((HB4.out.setCell HXSS.out _).setCell HXSS.out _).setCell HXSS.out _).setCell HXSS.out _).setCell HXSS.out _
                  case measure => simp [intOf]; omega
        · have hkn : k = N := by omega
          clear hlt hk hg2
          subst hkn
          go_wp2_with fail
          refine (lives_any _).mono ?_
          rintro e w2 ⟨rfl, hb2⟩
          have HZ9 := Lib.hid (HU.out.bel.trans (hb2.mono HU.out.bel.size))
          clear hb2
          go_wp2_with fail
          go_ret
          exact ⟨rfl, HZ9.out⟩
end Go.Proofs.Ytbacnjijfffobaa
