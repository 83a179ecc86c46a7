/- load: LoadProjects' walk. -/
import Derived.Test.YteeihjdkenlebaaEK
import Derived.Test.YteeihjdkenlebaaEQ
import Derived.Test.YteeihjdkenlebaaEA
namespace Go.Proofs.Yteeihjdkenlebaa
open Go.RowKit Go.Maps
set_option linter.unusedVariables false
set_option linter.unusedSimpArgs false
set_option maxRecDepth 100000

theorem AoLike.symm {x y : Ao} (h : AoLike x y) : AoLike y x := ⟨h.og.symm, h.nx.symm, h.md.symm, h.pf.symm, h.L.symm, h.K.symm⟩
/-- Wants, with all their attributes. -/
structure WtsArg (w : World) (x : Option Addr × List Wt × Nat) : Prop where
  intro ::
  at_ : WtsAt w x.1 x.2.1
  le : x.2.1.length ≤ x.2.2
  max : x.2.2 ≤ maxLen
  fst : ∀ y ∈ x.2.1, ∃ L K, AoAt w (ao y.x L K)
  det : ∀ y ∈ x.2.1, ∀ o ∈ y.D, ∃ L K, AoAt w (ao o L K)
theorem WtsArg.taken {w : World} {x : Option Addr × List Wt × Nat} (h : WtsArg w x) {y : Wt} (hy : y ∈ x.2.1) : ∃ L K, AoAt w (ao (takenV y) L K) := by
  unfold takenV
  split
  · rename_i h1
    refine h.det y hy _ ?_
    have h2 := (h.at_.at_.ok y hy).2.2.1
    simp [List.getD, show y.at_.toNat < y.D.length by omega]
  · exact h.fst y hy
theorem prS_wf {w : World} {p : Option Addr} {l : List Wt} (h : WtsAt w p l) : ∀ i v, (prS l).1 i = some v → (Lit.int .i64 i).wf = true := by
  have key : ∀ k, k ≤ l.length → ∀ i v, (prS (l.take k)).1 i = some v → (Lit.int .i64 i).wf = true := by
    intro k
    induction k with
    | zero => intro _ i v e; rw [List.take_zero] at e; cases e
    | succ k ih =>
      intro hk i v e
      have hx : l.take (k + 1) = l.take k ++ [l.getD k Wt.zero] := by rw [List.take_add_one]; simp [List.getD, show k < l.length by omega]
      have hm : l.getD k Wt.zero ∈ l := by simp [List.getD, show k < l.length by omega]
      rw [hx, prS_snoc] at e
      by_cases hi : i = (takenV (l.getD k Wt.zero)).f
      · rw [hi]; exact takenV_in (h.at_.ok _ hm) (h.det _ hm)
      · refine ih (by omega) i v ?_
        simp only [chF, setL] at e
        split at e
        · split at e
          · unfold delF at e; rwa [if_neg hi] at e
          · unfold putF at e; rwa [if_neg hi] at e
        · exact e
  intro i v e
  exact key l.length (Nat.le_refl _) i v (by rw [List.take_length]; exact e)
theorem prS_ok {w : World} {g b n s : Nat} {l : List Wt} (h : LdAt w g b n s (prS l).1 (prS l).2) : OkL (prS l).1 := h.ok
set_option maxHeartbeats 16000000 in
theorem ldprojects_walk (w : World) (p : Option Addr) (l : List Wt) (n c : Nat) (H0 : WtsArg w (p, l, c)) (hn : l.length = n) :
    Calls Try.prog 4 #[.slice p n c] w fun e w' => e = .returned (.bool true) ∧ Below w.heap.size w w' := by
  have hm : n ≤ 9223372036854775807 := Nat.le_trans (hn ▸ Nat.le_trans H0.le H0.max) (by unfold maxLen; decide)
  have HH := Lib.hid H0
  have HN := Lib.hid hn
  have HLV := Lib.hid lives21_any
  clear H0 hn
  go_enter Try.func4, Try.ntmps4
  by_cases h0 : 60 < n
  · have t0 : decide (60 < (n : Int)) = true := decide_eq_true (by omega)
    go_wp2_with fail
    refine (HLV.out w).mono ?_
    rintro e W2 ⟨rfl, hB2⟩
    go_wp2_with fail
    go_ret
    exact ⟨rfl, hB2⟩
  have t0 : decide (60 < (n : Int)) = false := decide_eq_false (by omega)
  go_wp2_with fail
  go_loopw [3] (fun iv wr => ∃ k : Nat, k ≤ n ∧ iv = .int .i64 k ∧ Below w.heap.size w wr) (fun iv _ => n - (intOf iv).toNat)
  case atStart => exact ⟨0, Nat.zero_le _, rfl, Below.refl _ _⟩
  case round =>
    obtain ⟨k, hk, rfl, hB⟩ := hrel
    have HB := Lib.hid hB
    clear hB
    by_cases hlt : k < n
    · have hltI : (k : Int) < (n : Int) := by omega
      obtain ⟨q, off, rfl, c0, c1, c2, c3, c4, c5, c6, c7, c8, c9, c10, c11, c12, c13, c14, c15⟩ := wt_cell (HH.out.at_.below HB.out).at_ HN.out hlt
      obtain ⟨x, hx⟩ : ∃ x, l.getD k Wt.zero = x := ⟨_, rfl⟩
      rw [hx] at c14
      clear hx c0 c1 c2 c3 c4 c5 c6 c7 c8 c9 c10 c11 c12 c13 c15
      by_cases h30 : 30 < x.dn
      · have t1 : decide (30 < (x.dn : Int)) = true := decide_eq_true (by omega)
        go_wp2_with fail
        refine (HLV.out wr).mono ?_
        rintro e W2 ⟨rfl, hB2⟩
        go_wp2_with fail
        go_ret
        exact ⟨rfl, HB.out.trans (hB2.mono HB.out.size)⟩
      · have t1 : decide (30 < (x.dn : Int)) = false := decide_eq_false (by omega)
        go_wp2_with fail
        go_roundw
        case rel => exact ⟨k + 1, by omega, by go_num, HB.out⟩
        case measure => simp [intOf]; omega
    · obtain rfl : k = n := by omega
      have hkI : ¬ (k : Int) < (k : Int) := by omega
      have HW0 := Lib.hid (HH.out.at_.below HB.out)
      have HPJ := Lib.hid (ldproject_any wr p l k c HW0.out HN.out (by omega))
      have HRP := Lib.hid (fun (u : World) (hu : Below wr.heap.size wr u) => rlproject_any u p l k c (HW0.out.below hu) HN.out (by omega))
      have HWF := Lib.hid (prS_wf HH.out.at_)
      go_wp2_with fail
      refine HPJ.out.mono ?_
      rintro e W1 ⟨g, b, n1, s1, rfl, hld, hn1, hB1⟩
      have HLD := Lib.hid hld
      have HN1 := Lib.hid hn1
      have HB1 := Lib.hid hB1
      clear hld hn1 hB1 HPJ
      go_wp2_with fail
      refine (HRP.out W1 HB1.out).mono ?_
      rintro e W2 ⟨X, qx, Lx, nx, cx, rfl, hrl, hal, hnx, hB2⟩
      have HRL := Lib.hid hrl
      have HAL := Lib.hid hal
      have HNX := Lib.hid hnx
      have HLD2 := Lib.hid (HLD.out.next hB2)
      have HB2 := Lib.hid ((HB.out.trans (HB1.out.mono HB.out.size)).trans (hB2.mono (Nat.le_trans HB.out.size HB1.out.size)))
      obtain ⟨ov, hov⟩ : ∃ o, (prS l).2 = o := ⟨_, rfl⟩
      rw [hov] at HRL HLD2
      clear hrl hal hnx hB2 HRP HLD hov
      have HSX := Lib.hid (fun (u : World) (hu : Below W2.heap.size W2 u) => show u.cell? ⟨X, 0, none⟩ = some (.slice qx nx cx) ∧ u.cell? ⟨X, 1, none⟩ = some (.bool ov) from ⟨(HRL.out.blk.next hu).cellAt rfl, (HRL.out.blk.next hu).cellAt rfl⟩)
      have HBD := Lib.hid (show Below W2.heap.size W2 W2.drew from (Below.refl _ _).drew)
      have HALL := Lib.hid (fun (u : World) (hu : Below W2.heap.size W2 u) => ldall_any u g b n1 s1 _ _ (HLD2.out.next hu) (by have := HN1.out; omega) HWF.out)
      have HOVR := Lib.hid (fun (u : World) (hu : Below W2.heap.size W2 u) => ldover_any u g b n1 s1 _ _ (HLD2.out.next hu))
      have HSAM := Lib.hid (fun (u : World) (hu : Below W2.heap.size W2 u) (q4 : Option Addr) (c4 : Nat) (l4 : List Lo) (h4 : AllL (prS l).1 l4) (ha : LosAt u q4 l4) (h5 : l4.length ≤ n1) => show Calls Try.prog 14 #[.slice q4 l4.length c4, .slice qx nx cx] u fun e w' => e = .returned (.bool true) ∧ Below u.heap.size u w' from by
        have e : l4 = Lx := allL_unique h4 HAL.out
        have hl := HRL.out.len
        have h6 := rsameL_yes q4 qx l4 l4.length c4 cx u ha (by rw [e]; exact HRL.out.at_.below hu) rfl (by unfold maxLen; have := HN1.out; omega)
        rw [show nx = l4.length by rw [e, hl]]
        exact h6)
      have hS : W2.drew.cell? ⟨X, 0, none⟩ = some (.slice qx nx cx) ∧ W2.drew.cell? ⟨X, 1, none⟩ = some (.bool ov) := HSX.out _ HBD.out
      clear HRL HAL HLD2
      have tov : (ov != ov) = false := by simp
      · go_wp2_with fail
        go_region_held_law (fun W => W.cell? ⟨X, 0, none⟩ = some (.slice qx nx cx) ∧ W.cell? ⟨X, 1, none⟩ = some (.bool ov)) (with_reducible assumption) (first | (go_at_call 9; refine (HLV.out W2.drew).mono ?_; rintro e u1 ⟨rfl, h⟩; have HB3 := Lib.hid (HBD.out.trans (h.mono HBD.out.size)); have hS3 := HSX.out u1 HB3.out; clear h) | (go_at_call 15; refine (HALL.out u1 HB3.out).mono ?_; rintro e u2 ⟨q4, c4, l4, rfl, ha4, hat4, hc4, hn4, h⟩; have HB4 := Lib.hid (HB3.out.trans (h.mono HB3.out.size)); have hS4 := HSX.out u2 HB4.out; have HSM := Lib.hid (HSAM.out u2 HB4.out q4 c4 l4 ha4 hat4 hn4); clear h ha4 hat4 hc4 hn4) | (go_at_call 14; refine HSM.out.mono ?_; rintro e u3 ⟨rfl, h⟩; have HB5 := Lib.hid (HB4.out.trans (h.mono HB4.out.size)); have hS5 := HSX.out u3 HB5.out; clear h) | (go_at_call 16; refine (HOVR.out u3 HB5.out).mono ?_; rintro e w' ⟨rfl, rfl⟩))
        all_goals
          have HBZ := Lib.hid (HB2.out.trans (HB5.out.mono HB2.out.size))
          clear hS hS3 hS4 hS5 HB3 HB4 HB5 HSM HALL HOVR HSAM HSX HBD HB1 HB2 HN1 HNX
          go_wp2_with fail
          go_loopw [6] (fun iv wr => ∃ j : Nat, j ≤ k ∧ iv = .int .i64 j ∧ Below w.heap.size w wr) (fun iv _ => k - (intOf iv).toNat)
          case atStart => exact ⟨0, Nat.zero_le _, rfl, HBZ.out⟩
          case round =>
            obtain ⟨j, hj, rfl, hB9⟩ := hrel
            have HB9 := Lib.hid hB9
            clear hB9
            by_cases hlt : j < k
            · have hltI : (j : Int) < (k : Int) := by omega
              obtain ⟨q, off, rfl, c0, c1, c2, c3, c4, c5, c6, c7, c8, c9, c10, c11, c12, c13, c14, c15⟩ := wt_cell (HH.out.at_.below HB9.out).at_ HN.out hlt
              obtain ⟨x, hx⟩ : ∃ x, l.getD j Wt.zero = x := ⟨_, rfl⟩
              rw [hx] at c0 c1 c2 c3 c4 c5 c6 c7 c8 c9 c10 c11 c12 c13 c14 c15
              have hxm : x ∈ l := by rw [← hx]; simp [List.getD, show j < l.length by have := HN.out; omega]
              obtain ⟨L, K, hao⟩ := HH.out.taken hxm
              have hix := HH.out.at_.at_.ok x hxm
              have hdx := HH.out.at_.det x hxm
              obtain ⟨o, ho⟩ : ∃ o, takenV x = o := ⟨_, rfl⟩
              rw [ho] at hao
              have HTK := Lib.hid (fun (V : World) (hV : Below w.heap.size w V) => ldTaken_any V x (hdx.below hV) hix.2.2.1 hix.2.2.2 o ho L K (hao.below hV))
              have HRT := Lib.hid (fun (V : World) (hV : Below w.heap.size w V) => show Calls Try.prog 25 #[wtV x] V fun e w' => e = .returned (.agg #[.int .i64 o.r, .int .u32 o.a, .int .i64 o.n, .int .i64 o.i, .int .i64 o.og, .slice o.p1 o.n1 o.c1, .int .u32 o.nx, .int .i64 o.md, .int .i64 o.pf, .slice o.p2 o.n2 o.c2, .int .i64 o.f]) ∧ Below V.heap.size V w' from by
                have h := rltaken_any V x (hdx.below hV) hix.2.2.1 hix.2.2.2
                rw [ho] at h
                refine h.mono ?_
                rintro e v ⟨rfl, rfl⟩
                exact ⟨rfl, two_below _ _ _⟩)
              have HSO := Lib.hid (fun (V : World) (b d : Nat) (y : Ao) (hV : Below w.heap.size w V) (hb : Blk V b 51 [.int .i64 o.r, .int .u32 o.a, .int .i64 o.n, .int .i64 o.i, .int .i64 y.og, .slice y.p1 y.n1 y.c1, .int .u32 y.nx, .int .i64 y.md, .int .i64 y.pf, .slice y.p2 y.n2 y.c2, .int .i64 o.f]) (hd : Blk V d 51 [.int .i64 o.r, .int .u32 o.a, .int .i64 o.n, .int .i64 o.i, .int .i64 o.og, .slice o.p1 o.n1 o.c1, .int .u32 o.nx, .int .i64 o.md, .int .i64 o.pf, .slice o.p2 o.n2 o.c2, .int .i64 o.f]) (hy : AoAt V y) (hl : AoLike y (ao o L K)) => rsameO_yes V b d o.r o.a o.n o.i o.f y (ao o L K) hb hd hy (hao.below hV) hl)
              have HSU := Lib.hid (fun (u : World) (hu : Below wr.heap.size wr u) => show u.cell? ⟨q, off + j * 16, none⟩ = some (.int .u32 x.a) ∧ u.cell? ⟨q, off + j * 16 + 1, none⟩ = some (.int .i64 x.n) ∧ u.cell? ⟨q, off + j * 16 + 2, none⟩ = some (.int .i64 x.c) ∧ u.cell? ⟨q, off + j * 16 + 3, none⟩ = some (.int .i64 x.x.r) ∧ u.cell? ⟨q, off + j * 16 + 4, none⟩ = some (.int .u32 x.x.a) ∧ u.cell? ⟨q, off + j * 16 + 5, none⟩ = some (.int .i64 x.x.n) ∧ u.cell? ⟨q, off + j * 16 + 6, none⟩ = some (.int .i64 x.x.i) ∧ u.cell? ⟨q, off + j * 16 + 7, none⟩ = some (.int .i64 x.x.og) ∧ u.cell? ⟨q, off + j * 16 + 8, none⟩ = some (.slice x.x.p1 x.x.n1 x.x.c1) ∧ u.cell? ⟨q, off + j * 16 + 9, none⟩ = some (.int .u32 x.x.nx) ∧ u.cell? ⟨q, off + j * 16 + 10, none⟩ = some (.int .i64 x.x.md) ∧ u.cell? ⟨q, off + j * 16 + 11, none⟩ = some (.int .i64 x.x.pf) ∧ u.cell? ⟨q, off + j * 16 + 12, none⟩ = some (.slice x.x.p2 x.x.n2 x.x.c2) ∧ u.cell? ⟨q, off + j * 16 + 13, none⟩ = some (.int .i64 x.x.f) ∧ u.cell? ⟨q, off + j * 16 + 14, none⟩ = some (.slice x.d x.dn x.dc) ∧ u.cell? ⟨q, off + j * 16 + 15, none⟩ = some (.int .i64 x.at_) from ⟨kept hu c0, kept hu c1, kept hu c2, kept hu c3, kept hu c4, kept hu c5, kept hu c6, kept hu c7, kept hu c8, kept hu c9, kept hu c10, kept hu c11, kept hu c12, kept hu c13, kept hu c14, kept hu c15⟩)
              have hS : wr.drew.cell? ⟨q, off + j * 16, none⟩ = some (.int .u32 x.a) ∧ wr.drew.cell? ⟨q, off + j * 16 + 1, none⟩ = some (.int .i64 x.n) ∧ wr.drew.cell? ⟨q, off + j * 16 + 2, none⟩ = some (.int .i64 x.c) ∧ wr.drew.cell? ⟨q, off + j * 16 + 3, none⟩ = some (.int .i64 x.x.r) ∧ wr.drew.cell? ⟨q, off + j * 16 + 4, none⟩ = some (.int .u32 x.x.a) ∧ wr.drew.cell? ⟨q, off + j * 16 + 5, none⟩ = some (.int .i64 x.x.n) ∧ wr.drew.cell? ⟨q, off + j * 16 + 6, none⟩ = some (.int .i64 x.x.i) ∧ wr.drew.cell? ⟨q, off + j * 16 + 7, none⟩ = some (.int .i64 x.x.og) ∧ wr.drew.cell? ⟨q, off + j * 16 + 8, none⟩ = some (.slice x.x.p1 x.x.n1 x.x.c1) ∧ wr.drew.cell? ⟨q, off + j * 16 + 9, none⟩ = some (.int .u32 x.x.nx) ∧ wr.drew.cell? ⟨q, off + j * 16 + 10, none⟩ = some (.int .i64 x.x.md) ∧ wr.drew.cell? ⟨q, off + j * 16 + 11, none⟩ = some (.int .i64 x.x.pf) ∧ wr.drew.cell? ⟨q, off + j * 16 + 12, none⟩ = some (.slice x.x.p2 x.x.n2 x.x.c2) ∧ wr.drew.cell? ⟨q, off + j * 16 + 13, none⟩ = some (.int .i64 x.x.f) ∧ wr.drew.cell? ⟨q, off + j * 16 + 14, none⟩ = some (.slice x.d x.dn x.dc) ∧ wr.drew.cell? ⟨q, off + j * 16 + 15, none⟩ = some (.int .i64 x.at_) := HSU.out _ (Below.refl _ _).drew
              have HWD := Lib.hid (show Below w.heap.size w wr.drew from HB9.out.drew)
              clear c0 c1 c2 c3 c4 c5 c6 c7 c8 c9 c10 c11 c12 c13 c14 c15 hx hxm hao hix hdx ho
              go_wp2_with fail
              go_region_held_law (fun W => W.cell? ⟨q, off + j * 16, none⟩ = some (.int .u32 x.a) ∧ W.cell? ⟨q, off + j * 16 + 1, none⟩ = some (.int .i64 x.n) ∧ W.cell? ⟨q, off + j * 16 + 2, none⟩ = some (.int .i64 x.c) ∧ W.cell? ⟨q, off + j * 16 + 3, none⟩ = some (.int .i64 x.x.r) ∧ W.cell? ⟨q, off + j * 16 + 4, none⟩ = some (.int .u32 x.x.a) ∧ W.cell? ⟨q, off + j * 16 + 5, none⟩ = some (.int .i64 x.x.n) ∧ W.cell? ⟨q, off + j * 16 + 6, none⟩ = some (.int .i64 x.x.i) ∧ W.cell? ⟨q, off + j * 16 + 7, none⟩ = some (.int .i64 x.x.og) ∧ W.cell? ⟨q, off + j * 16 + 8, none⟩ = some (.slice x.x.p1 x.x.n1 x.x.c1) ∧ W.cell? ⟨q, off + j * 16 + 9, none⟩ = some (.int .u32 x.x.nx) ∧ W.cell? ⟨q, off + j * 16 + 10, none⟩ = some (.int .i64 x.x.md) ∧ W.cell? ⟨q, off + j * 16 + 11, none⟩ = some (.int .i64 x.x.pf) ∧ W.cell? ⟨q, off + j * 16 + 12, none⟩ = some (.slice x.x.p2 x.x.n2 x.x.c2) ∧ W.cell? ⟨q, off + j * 16 + 13, none⟩ = some (.int .i64 x.x.f) ∧ W.cell? ⟨q, off + j * 16 + 14, none⟩ = some (.slice x.d x.dn x.dc) ∧ W.cell? ⟨q, off + j * 16 + 15, none⟩ = some (.int .i64 x.at_)) (with_reducible assumption) (first | (go_at_call 24; refine (HTK.out wr.drew HWD.out).mono ?_; rintro e u ⟨y, rfl, hy, hl, h⟩; have HY := Lib.hid hy; have HL := Lib.hid hl.symm; have HBu := Lib.hid (show Below wr.heap.size wr u from (Below.refl wr.heap.size wr).drew.trans h); have hSu := HSU.out u HBu.out; have HBA := Lib.hid (HBu.out.trans ((newB u (.cells #[.int .i64 o.r, .int .u32 o.a, .int .i64 o.n, .int .i64 o.i, .int .i64 y.og, .slice y.p1 y.n1 y.c1, .int .u32 y.nx, .int .i64 y.md, .int .i64 y.pf, .slice y.p2 y.n2 y.c2, .int .i64 o.f] 51)).mono HBu.out.size)); have hSA := HSU.out (u.alloc (.cells #[.int .i64 o.r, .int .u32 o.a, .int .i64 o.n, .int .i64 o.i, .int .i64 y.og, .slice y.p1 y.n1 y.c1, .int .u32 y.nx, .int .i64 y.md, .int .i64 y.pf, .slice y.p2 y.n2 y.c2, .int .i64 o.f] 51)) HBA.out; clear hy hl h) | (go_at_call 25; (with_reducible refine (HRT.out u (HB9.out.trans (HBu.out.mono HB9.out.size))).mono ?_); rintro e v ⟨rfl, h⟩; have HBv := Lib.hid (HBu.out.trans (h.mono HBu.out.size)); have HYv := Lib.hid (HY.out.below h); have hSv := HSU.out v HBv.out; have hvA := HBv.out.trans ((newB v (.cells #[.int .i64 o.r, .int .u32 o.a, .int .i64 o.n, .int .i64 o.i, .int .i64 y.og, .slice y.p1 y.n1 y.c1, .int .u32 y.nx, .int .i64 y.md, .int .i64 y.pf, .slice y.p2 y.n2 y.c2, .int .i64 o.f] 51)).mono HBv.out.size); have hvB := HBv.out.trans ((newB v (.cells #[.int .i64 o.r, .int .u32 o.a, .int .i64 o.n, .int .i64 o.i, .int .i64 o.og, .slice o.p1 o.n1 o.c1, .int .u32 o.nx, .int .i64 o.md, .int .i64 o.pf, .slice o.p2 o.n2 o.c2, .int .i64 o.f] 51)).mono HBv.out.size); have hvAB := HBv.out.trans ((two_below v (.cells #[.int .i64 o.r, .int .u32 o.a, .int .i64 o.n, .int .i64 o.i, .int .i64 y.og, .slice y.p1 y.n1 y.c1, .int .u32 y.nx, .int .i64 y.md, .int .i64 y.pf, .slice y.p2 y.n2 y.c2, .int .i64 o.f] 51) (.cells #[.int .i64 o.r, .int .u32 o.a, .int .i64 o.n, .int .i64 o.i, .int .i64 o.og, .slice o.p1 o.n1 o.c1, .int .u32 o.nx, .int .i64 o.md, .int .i64 o.pf, .slice o.p2 o.n2 o.c2, .int .i64 o.f] 51)).mono HBv.out.size); have hvBA := HBv.out.trans ((two_below v (.cells #[.int .i64 o.r, .int .u32 o.a, .int .i64 o.n, .int .i64 o.i, .int .i64 o.og, .slice o.p1 o.n1 o.c1, .int .u32 o.nx, .int .i64 o.md, .int .i64 o.pf, .slice o.p2 o.n2 o.c2, .int .i64 o.f] 51) (.cells #[.int .i64 o.r, .int .u32 o.a, .int .i64 o.n, .int .i64 o.i, .int .i64 y.og, .slice y.p1 y.n1 y.c1, .int .u32 y.nx, .int .i64 y.md, .int .i64 y.pf, .slice y.p2 y.n2 y.c2, .int .i64 o.f] 51)).mono HBv.out.size); have hSvA := HSU.out _ hvA; have hSvB := HSU.out _ hvB; have hSvAB := HSU.out _ hvAB; have hSvBA := HSU.out _ hvBA; have HM1 := Lib.hid (HSO.out ((v.alloc (.cells #[.int .i64 o.r, .int .u32 o.a, .int .i64 o.n, .int .i64 o.i, .int .i64 y.og, .slice y.p1 y.n1 y.c1, .int .u32 y.nx, .int .i64 y.md, .int .i64 y.pf, .slice y.p2 y.n2 y.c2, .int .i64 o.f] 51)).alloc (.cells #[.int .i64 o.r, .int .u32 o.a, .int .i64 o.n, .int .i64 o.i, .int .i64 o.og, .slice o.p1 o.n1 o.c1, .int .u32 o.nx, .int .i64 o.md, .int .i64 o.pf, .slice o.p2 o.n2 o.c2, .int .i64 o.f] 51)) v.heap.size (v.heap.size + 1) y (HB9.out.trans (hvAB.mono HB9.out.size)) ((Blk.new v 51 [.int .i64 o.r, .int .u32 o.a, .int .i64 o.n, .int .i64 o.i, .int .i64 y.og, .slice y.p1 y.n1 y.c1, .int .u32 y.nx, .int .i64 y.md, .int .i64 y.pf, .slice y.p2 y.n2 y.c2, .int .i64 o.f]).alloc _) (by have hh := Blk.new (v.alloc (.cells #[.int .i64 o.r, .int .u32 o.a, .int .i64 o.n, .int .i64 o.i, .int .i64 y.og, .slice y.p1 y.n1 y.c1, .int .u32 y.nx, .int .i64 y.md, .int .i64 y.pf, .slice y.p2 y.n2 y.c2, .int .i64 o.f] 51)) 51 [.int .i64 o.r, .int .u32 o.a, .int .i64 o.n, .int .i64 o.i, .int .i64 o.og, .slice o.p1 o.n1 o.c1, .int .u32 o.nx, .int .i64 o.md, .int .i64 o.pf, .slice o.p2 o.n2 o.c2, .int .i64 o.f]; rw [sz_alloc] at hh; exact hh) (HYv.out.below (two_below v (.cells #[.int .i64 o.r, .int .u32 o.a, .int .i64 o.n, .int .i64 o.i, .int .i64 y.og, .slice y.p1 y.n1 y.c1, .int .u32 y.nx, .int .i64 y.md, .int .i64 y.pf, .slice y.p2 y.n2 y.c2, .int .i64 o.f] 51) (.cells #[.int .i64 o.r, .int .u32 o.a, .int .i64 o.n, .int .i64 o.i, .int .i64 o.og, .slice o.p1 o.n1 o.c1, .int .u32 o.nx, .int .i64 o.md, .int .i64 o.pf, .slice o.p2 o.n2 o.c2, .int .i64 o.f] 51))) HL.out); have HM2 := Lib.hid (HSO.out ((v.alloc (.cells #[.int .i64 o.r, .int .u32 o.a, .int .i64 o.n, .int .i64 o.i, .int .i64 o.og, .slice o.p1 o.n1 o.c1, .int .u32 o.nx, .int .i64 o.md, .int .i64 o.pf, .slice o.p2 o.n2 o.c2, .int .i64 o.f] 51)).alloc (.cells #[.int .i64 o.r, .int .u32 o.a, .int .i64 o.n, .int .i64 o.i, .int .i64 y.og, .slice y.p1 y.n1 y.c1, .int .u32 y.nx, .int .i64 y.md, .int .i64 y.pf, .slice y.p2 y.n2 y.c2, .int .i64 o.f] 51)) (v.heap.size + 1) v.heap.size y (HB9.out.trans (hvBA.mono HB9.out.size)) (by have hh := Blk.new (v.alloc (.cells #[.int .i64 o.r, .int .u32 o.a, .int .i64 o.n, .int .i64 o.i, .int .i64 o.og, .slice o.p1 o.n1 o.c1, .int .u32 o.nx, .int .i64 o.md, .int .i64 o.pf, .slice o.p2 o.n2 o.c2, .int .i64 o.f] 51)) 51 [.int .i64 o.r, .int .u32 o.a, .int .i64 o.n, .int .i64 o.i, .int .i64 y.og, .slice y.p1 y.n1 y.c1, .int .u32 y.nx, .int .i64 y.md, .int .i64 y.pf, .slice y.p2 y.n2 y.c2, .int .i64 o.f]; rw [sz_alloc] at hh; exact hh) ((Blk.new v 51 [.int .i64 o.r, .int .u32 o.a, .int .i64 o.n, .int .i64 o.i, .int .i64 o.og, .slice o.p1 o.n1 o.c1, .int .u32 o.nx, .int .i64 o.md, .int .i64 o.pf, .slice o.p2 o.n2 o.c2, .int .i64 o.f]).alloc _) (HYv.out.below (two_below v (.cells #[.int .i64 o.r, .int .u32 o.a, .int .i64 o.n, .int .i64 o.i, .int .i64 o.og, .slice o.p1 o.n1 o.c1, .int .u32 o.nx, .int .i64 o.md, .int .i64 o.pf, .slice o.p2 o.n2 o.c2, .int .i64 o.f] 51) (.cells #[.int .i64 o.r, .int .u32 o.a, .int .i64 o.n, .int .i64 o.i, .int .i64 y.og, .slice y.p1 y.n1 y.c1, .int .u32 y.nx, .int .i64 y.md, .int .i64 y.pf, .slice y.p2 y.n2 y.c2, .int .i64 o.f] 51))) HL.out); have HVZ := Lib.hid (And.intro hvAB hvBA); clear h hvA hvB hvAB hvBA) | (go_at_call 25; (with_reducible refine (HRT.out (u.alloc (.cells #[.int .i64 o.r, .int .u32 o.a, .int .i64 o.n, .int .i64 o.i, .int .i64 y.og, .slice y.p1 y.n1 y.c1, .int .u32 y.nx, .int .i64 y.md, .int .i64 y.pf, .slice y.p2 y.n2 y.c2, .int .i64 o.f] 51)) (HB9.out.trans (HBA.out.mono HB9.out.size))).mono ?_); rintro e v ⟨rfl, h⟩; have HBv := Lib.hid (HBA.out.trans (h.mono HBA.out.size)); have hSv := HSU.out v HBv.out; have hvB := HBv.out.trans ((newB v (.cells #[.int .i64 o.r, .int .u32 o.a, .int .i64 o.n, .int .i64 o.i, .int .i64 o.og, .slice o.p1 o.n1 o.c1, .int .u32 o.nx, .int .i64 o.md, .int .i64 o.pf, .slice o.p2 o.n2 o.c2, .int .i64 o.f] 51)).mono HBv.out.size); have hSvB := HSU.out _ hvB; have HM3 := Lib.hid (HSO.out (v.alloc (.cells #[.int .i64 o.r, .int .u32 o.a, .int .i64 o.n, .int .i64 o.i, .int .i64 o.og, .slice o.p1 o.n1 o.c1, .int .u32 o.nx, .int .i64 o.md, .int .i64 o.pf, .slice o.p2 o.n2 o.c2, .int .i64 o.f] 51)) u.heap.size v.heap.size y (HB9.out.trans (hvB.mono HB9.out.size)) (((Blk.new u 51 [.int .i64 o.r, .int .u32 o.a, .int .i64 o.n, .int .i64 o.i, .int .i64 y.og, .slice y.p1 y.n1 y.c1, .int .u32 y.nx, .int .i64 y.md, .int .i64 y.pf, .slice y.p2 y.n2 y.c2, .int .i64 o.f]).next h).next (newB v _)) (Blk.new v 51 [.int .i64 o.r, .int .u32 o.a, .int .i64 o.n, .int .i64 o.i, .int .i64 o.og, .slice o.p1 o.n1 o.c1, .int .u32 o.nx, .int .i64 o.md, .int .i64 o.pf, .slice o.p2 o.n2 o.c2, .int .i64 o.f]) (((HY.out.below (newB u _)).below h).below (newB v _)) HL.out); have HV3 := Lib.hid hvB; clear h hvB) | (go_at_call 23; (with_reducible refine HM1.out.mono ?_); rintro e z ⟨rfl, h⟩; have HZ := Lib.hid (HVZ.out.1.trans (h.mono HVZ.out.1.size)); have hSz := HSU.out z HZ.out; clear h) | (go_at_call 23; (with_reducible refine HM2.out.mono ?_); rintro e z ⟨rfl, h⟩; have HZ := Lib.hid (HVZ.out.2.trans (h.mono HVZ.out.2.size)); have hSz := HSU.out z HZ.out; clear h) | (go_at_call 23; (with_reducible refine HM3.out.mono ?_); rintro e z ⟨rfl, h⟩; have HZ := Lib.hid (HV3.out.trans (h.mono HV3.out.size)); have hSz := HSU.out z HZ.out; clear h))
              all_goals
                have hz := HB9.out.trans (HZ.out.mono HB9.out.size)
                go_wp2_with fail
                go_roundw
                case rel => exact ⟨j + 1, by omega, by go_num, hz⟩
                case measure => simp [intOf]; omega
            · obtain rfl : j = k := by omega
              have hjI : ¬ (j : Int) < (j : Int) := by omega
              go_wp2_with fail
              go_ret
              exact ⟨rfl, HB9.out⟩
end Go.Proofs.Yteeihjdkenlebaa
