/- load: LoadOrders' walk. -/
import Derived.Test.YteeihjdkenlebaaEC
import Derived.Test.YteeihjdkenlebaaED
import Derived.StillTailTactics
namespace Go.Proofs.Yteeihjdkenlebaa
open Go.RowKit Go.Maps
set_option linter.unusedVariables false
set_option linter.unusedSimpArgs false
set_option maxRecDepth 100000

/-- What is added, one behind the other. -/
theorem ld_ch (X : List Lo) (x : Lo) : chF add (ldF X) x.i x.n = ldF (X ++ [x]) ∧ chO add (ldF X) (ldO X) x.i x.n = ldO (X ++ [x]) := by
  constructor
  · unfold chF
    by_cases h : 0 ≤ x.i
    · rw [if_pos h]; exact ld_step X x h
    · rw [if_neg h]; exact (ld_below X x (by omega)).symm
  · unfold chO; exact ld_over X x
theorem ldF_nil : ldF [] = fun _ => none := by funext i; unfold ldF totI; simp [near]
theorem LdAt.apart {w w' : World} {g b n s : Nat} {f : Int → Option Int} {ov : Bool} (h : LdAt w g b n s f ov) {S : Nat → Prop} (hT : Turns S w w') (hg : ¬ S g) (hb : ¬ S b) : LdAt w' g b n s f ov :=
  ⟨h.blk.of_same (hT.block g h.blk.lt hg), h.map.of_same (hT.block b h.map.lt hb), h.ok⟩
theorem totI_none {X : List Lo} {i : Int} (h : ∀ x ∈ X, x.i ≠ i) : totI i X = 0 := by
  induction X with
  | nil => rfl
  | cons x t ih =>
    simp only [totI]
    rw [if_neg (h x List.mem_cons_self), ih fun y hy => h y (List.mem_cons_of_mem _ hy)]; rfl
theorem ldF_wf {X : List Lo} (h : ∀ x ∈ X, InLo x) : ∀ i v, ldF X i = some v → (Lit.int .i64 i).wf = true := by
  intro i v hf
  by_cases hx : ∃ x ∈ X, x.i = i
  · obtain ⟨x, hx, rfl⟩ := hx
    exact (h x hx).1
  · have e : totI i X = 0 := totI_none fun x hxm e => hx ⟨x, hxm, e⟩
    unfold ldF at hf
    rw [e] at hf
    simp [near] at hf
theorem getD_of {l : List Lo} {k : Nat} {x : Lo} (h : l[k]? = some x) : l.getD k Lo.zero = x := by simp [List.getD, h]
theorem take_snocL {l : List Lo} {k : Nat} {x : Lo} (h : l[k]? = some x) : l.take (k + 1) = l.take k ++ [x] := by rw [List.take_add_one, h]; rfl
set_option maxHeartbeats 4000000 in
theorem ldorders_walk (w : World) (p : Option Addr) (l : List Lo) (n c : Nat) (hat : LosAt w p l) (hn : l.length = n) (hm : n ≤ maxLen) (t : Int) :
    Calls Try.prog 7 #[.slice p n c, .int .i64 t] w fun e w' => e = .returned (.bool true) ∧ Below w.heap.size w w' := by
  unfold maxLen at hm
  have HAT := Lib.hid hat
  have HN := Lib.hid hn
  have HLV := Lib.hid lives21_any
  clear hat hn
  go_enter Try.func7, Try.ntmps7
  by_cases h0 : n = 0
  · have t0 : decide ((n : Int) = 0) = true := decide_eq_true (by omega)
    go_wp2_with fail
    refine (HLV.out w).mono ?_
    rintro e W2 ⟨rfl, hB2⟩
    go_wp2_with fail
    go_ret
    exact ⟨rfl, hB2⟩
  have t0 : decide ((n : Int) = 0) = false := decide_eq_false (by omega)
  by_cases h1 : 100 < n
  · have t1 : decide (100 < (n : Int)) = true := decide_eq_true (by omega)
    go_wp2_with fail
    refine (HLV.out w).mono ?_
    rintro e W2 ⟨rfl, hB2⟩
    go_wp2_with fail
    go_ret
    exact ⟨rfl, hB2⟩
  have t1 : decide (100 < (n : Int)) = false := decide_eq_false (by omega)
  by_cases h2 : t < 0
  · have t2 : decide (t < 0) = true := decide_eq_true h2
    go_wp2_with fail
    refine (HLV.out w).mono ?_
    rintro e W2 ⟨rfl, hB2⟩
    go_wp2_with fail
    go_ret
    exact ⟨rfl, hB2⟩
  have t2 : decide (t < 0) = false := decide_eq_false h2
  obtain ⟨T, rfl⟩ : ∃ T : Nat, t = T := ⟨t.toNat, by omega⟩
  have hDn : T % n < n := Nat.mod_lt _ (by omega)
  have m1 : Int.tmod (T : Int) (n : Int) = ((T % n : Nat) : Int) := by rw [Int.tmod_eq_emod_of_nonneg (by omega)]; omega
  obtain ⟨D, hD⟩ : ∃ D, T % n = D := ⟨_, rfl⟩
  rw [hD] at hDn m1
  clear hD
  obtain ⟨R, hR⟩ : ∃ R, l.drop D ++ l.take D = R := ⟨_, rfl⟩
  have HRP := Lib.hid (show l.Perm R from hR ▸ rot_perm l D)
  have HRG := Lib.hid (fun (k : Nat) (hk : k < n) => show R[k]? = l[(k + D) % n]? from by
    have h := rot_get l D k (by rw [HN.out]; omega) (by rw [HN.out]; exact hk)
    rw [HN.out, hR] at h
    exact h)
  clear hR
  go_wp2_with fail
  refine (ldnew_any _).mono ?_
  rintro e W0 ⟨g, b, rfl, hl, hB, hg, hb⟩
  have HL0 := Lib.hid hl
  have HB0 := Lib.hid hB
  have HG := Lib.hid hg
  have HBB := Lib.hid hb
  clear hl hB hg hb
  go_wp2_with fail
  refine (ldnew_any _).mono ?_
  rintro e W1 ⟨g', b', rfl, hl, hB, hg, hb⟩
  have HQ1 := Lib.hid hl
  have HL1 := Lib.hid (HL0.out.next hB)
  have HB1 := Lib.hid (HB0.out.trans (hB.mono HB0.out.size))
  have HGG := Lib.hid (show w.heap.size ≤ g' ∧ w.heap.size ≤ b' ∧ g < g' ∧ g < b' ∧ b < g' ∧ b < b' from by
    have h1 := HL0.out.blk.lt
    have h2 := HL0.out.map.lt
    have h3 := HB0.out.size
    omega)
  clear hl hB hg hb HL0 HB0
  go_wp2_with fail
  refine (HLV.out W1).mono ?_
  rintro e W2 ⟨rfl, hB⟩
  have HL2 := Lib.hid (HL1.out.next hB)
  have HQ2 := Lib.hid (HQ1.out.next hB)
  have HB2 := Lib.hid (HB1.out.trans (hB.mono HB1.out.size))
  clear hB HL1 HQ1 HB1
  go_wp2_with fail
  go_loopw [8] (fun iv wr => ∃ k : Nat, k ≤ n ∧ iv = .int .i64 k ∧ (∃ n1 s1, n1 ≤ k ∧ LdAt wr g b n1 s1 (ldF (l.take k)) (ldO (l.take k))) ∧ (∃ n1 s1, n1 ≤ k ∧ LdAt wr g' b' n1 s1 (ldF (R.take k)) (ldO (R.take k))) ∧ Below w.heap.size w wr) (fun iv _ => n - (intOf iv).toNat)
  case atStart => exact ⟨0, Nat.zero_le _, rfl, ⟨0, 0, Nat.le_refl _, by rw [List.take_zero, ldF_nil]; exact HL2.out⟩, ⟨0, 0, Nat.le_refl _, by rw [List.take_zero, ldF_nil]; exact HQ2.out⟩, HB2.out⟩
  case round =>
    obtain ⟨k, hk, rfl, ⟨n1, s1, hn1, hl⟩, ⟨n2, s2, hn2, hq⟩, hB⟩ := hrel
    have HN1 := Lib.hid hn1
    have HN2 := Lib.hid hn2
    have HL := Lib.hid hl
    have HQ := Lib.hid hq
    have HB := Lib.hid hB
    clear hn1 hn2 hl hq hB
    by_cases hlt : k < n
    · have hltI : (k : Int) < (n : Int) := by omega
      have HZn : (k + D) % n < n := Nat.mod_lt _ (by omega)
      have m2 : Int.tmod ((k : Int) + (D : Int)) (n : Int) = (((k + D) % n : Nat) : Int) := by rw [Int.tmod_eq_emod_of_nonneg (by omega)]; simp
      have hrg := HRG.out k hlt
      obtain ⟨Z, hZ⟩ : ∃ Z, (k + D) % n = Z := ⟨_, rfl⟩
      rw [hZ] at HZn m2 hrg
      have hZI : (Z : Int) < (n : Int) := by omega
      obtain ⟨q, off, rfl, c0, c1⟩ := lo_cell (HAT.out.below HB.out) HN.out hlt
      obtain ⟨q', off', he, d0, d1⟩ := lo_cell (HAT.out.below HB.out) HN.out HZn
      simp only [Option.some.injEq, Addr.mk.injEq, and_true] at he
      obtain ⟨rfl, rfl⟩ := he
      obtain ⟨x, hx⟩ : ∃ x, l[k]? = some x := ⟨_, List.getElem?_eq_getElem (by rw [HN.out]; exact hlt)⟩
      obtain ⟨y, hy⟩ : ∃ y, l[Z]? = some y := ⟨_, List.getElem?_eq_getElem (by rw [HN.out]; exact HZn)⟩
      rw [getD_of hx] at c0 c1
      rw [getD_of hy] at d0 d1
      have HXI := Lib.hid (HAT.out.ok x (List.mem_of_getElem? hx))
      have HYI := Lib.hid (HAT.out.ok y (List.mem_of_getElem? hy))
      have HX := Lib.hid (take_snocL hx)
      have HY := Lib.hid (take_snocL (hrg.trans hy))
      have hqw : q < w.heap.size := HAT.out.lt rowLo (by intro e; have := HN.out; rw [e] at this; simp at this; omega) rfl
      have C0 : wr.drew.cell? ⟨q, off + k * 2, none⟩ = some (.int .i64 x.i) := c0
      have C1 : wr.drew.cell? ⟨q, off + k * 2 + 1, none⟩ = some (.int .i64 x.n) := c1
      have HDD := Lib.hid (fun (u : World) (hu : Below w.heap.size w u) => show u.cell? ⟨q, off + Z * 2, none⟩ = some (.int .i64 y.i) ∧ u.cell? ⟨q, off + Z * 2 + 1, none⟩ = some (.int .i64 y.n) from ⟨(hu.cell (p := ⟨q, off + Z * 2, none⟩) hqw).trans ((HB.out.cell (p := ⟨q, off + Z * 2, none⟩) hqw).symm.trans d0), (hu.cell (p := ⟨q, off + Z * 2 + 1, none⟩) hqw).trans ((HB.out.cell (p := ⟨q, off + Z * 2 + 1, none⟩) hqw).symm.trans d1)⟩)
      clear c0 c1 d0 d1 hrg hZ hx hy hqw
      go_wp2_with fail
      go_still_tail 11, (by kernel_rfl)
      change wpList _ _ _ _ _ wr.drew
      obtain ⟨U, hU⟩ : ∃ U, wr.drew = U := ⟨_, rfl⟩
      have HBU := Lib.hid (show Below w.heap.size w U from hU ▸ HB.out.drew)
      have HLU := Lib.hid (show LdAt U g b n1 s1 (ldF (l.take k)) (ldO (l.take k)) from hU ▸ HL.out.next (Below.refl _ _).drew)
      have HQU := Lib.hid (show LdAt U g' b' n2 s2 (ldF (R.take k)) (ldO (R.take k)) from hU ▸ HQ.out.next (Below.refl _ _).drew)
      rw [hU] at C0 C1 ⊢
      clear hU HL HQ
      go_wp2_with fail
      refine (ldadd_any U g b n1 s1 _ _ HLU.out (by have := HN1.out; omega) x.i x.n HXI.out.1).mono ?_
      rintro e W4 ⟨rfl, n3, s3, hn3, hl, hT⟩
      rw [(ld_ch _ _).1, (ld_ch _ _).2, ← HX.out] at hl
      have HN3 := Lib.hid (show n3 ≤ k + 1 from by have := HN1.out; omega)
      have HL4 := Lib.hid hl
      have HB4 := Lib.hid (HBU.out.trans (hT.below HBU.out.size fun k hk => by have h1 := HG.out; have h2 := HBB.out; rcases hk with rfl | rfl <;> assumption))
      have HQ4 := Lib.hid (show LdAt W4 g' b' n2 s2 (ldF (R.take k)) (ldO (R.take k)) from HQU.out.apart hT (by have := HGG.out; rintro (e | e) <;> omega) (by have := HGG.out; rintro (e | e) <;> omega))
      clear hn3 hl hT C0 C1 HLU HQU
      obtain ⟨D0, D1⟩ := HDD.out W4.drew HB4.out.drew
      go_wp2_with fail
      go_still_tail 11, (by kernel_rfl)
      change wpList _ _ _ _ _ W4.drew
      obtain ⟨V, hV⟩ : ∃ V, W4.drew = V := ⟨_, rfl⟩
      have HBV := Lib.hid (show Below w.heap.size w V from hV ▸ HB4.out.drew)
      have HLV4 := Lib.hid (show LdAt V g b n3 s3 (ldF (l.take (k + 1))) (ldO (l.take (k + 1))) from hV ▸ HL4.out.next (Below.refl _ _).drew)
      have HQV := Lib.hid (show LdAt V g' b' n2 s2 (ldF (R.take k)) (ldO (R.take k)) from hV ▸ HQ4.out.next (Below.refl _ _).drew)
      rw [hV] at D0 D1 ⊢
      clear hV HL4 HQ4
      go_wp2_with fail
      refine (ldadd_any V g' b' n2 s2 _ _ HQV.out (by have := HN2.out; omega) y.i y.n HYI.out.1).mono ?_
      rintro e W6 ⟨rfl, n4, s4, hn4, hl, hT⟩
      rw [(ld_ch _ _).1, (ld_ch _ _).2, ← HY.out] at hl
      have HN4 := Lib.hid (show n4 ≤ k + 1 from by have := HN2.out; omega)
      have HQ6 := Lib.hid hl
      have HB6 := Lib.hid (HBV.out.trans (hT.below HBV.out.size fun k hk => by have h1 := HGG.out; rcases hk with rfl | rfl <;> omega))
      have HL6 := Lib.hid (show LdAt W6 g b n3 s3 (ldF (l.take (k + 1))) (ldO (l.take (k + 1))) from HLV4.out.apart hT (by have := HGG.out; rintro (e | e) <;> omega) (by have := HGG.out; rintro (e | e) <;> omega))
      clear hn4 hl hT D0 D1 HLV4 HQV
      go_wp2_with fail
      go_roundw
      case rel => exact ⟨k + 1, by omega, by go_num, ⟨n3, s3, HN3.out, HL6.out⟩, ⟨n4, s4, HN4.out, HQ6.out⟩, HB6.out⟩
      case measure => simp [intOf]; omega
    · obtain rfl : k = n := by omega
      have hlen := HRP.out.length_eq
      have e1 : l.take k = l := List.take_of_length_le (by rw [HN.out]; exact Nat.le_refl _)
      have e2 : R.take k = R := List.take_of_length_le (by rw [← hlen, HN.out]; exact Nat.le_refl _)
      have hl := HL.out
      have hq := HQ.out
      rw [e1] at hl
      rw [e2, ← ldF_perm HRP.out, ← ldO_perm HRP.out] at hq
      obtain ⟨O, hO⟩ : ∃ O, ldO l = O := ⟨_, rfl⟩
      rw [hO] at hl hq
      have HL9 := Lib.hid hl
      have HQ9 := Lib.hid hq
      have hwf := ldF_wf HAT.out.ok
      have HA1 := Lib.hid (ldall_any wr g b n1 s1 _ _ hl (by have := HN1.out; omega) hwf)
      have HA2 := Lib.hid (fun (u : World) (hu : Below wr.heap.size wr u) => ldall_any u g' b' n2 s2 _ _ (hq.next hu) (by have := HN2.out; omega) hwf)
      have hkI : ¬ (k : Int) < (k : Int) := by omega
      clear hlen e1 e2 hl hq hO hwf HL HQ
      go_wp2_with fail
      refine HA1.out.mono ?_
      rintro e W4 ⟨q4, c4, l4, rfl, hall4, hat4, hc4, hln4, hB4⟩
      have HB4 := Lib.hid hB4
      have HAL4 := Lib.hid hall4
      have HAT4 := Lib.hid hat4
      have HM4 := Lib.hid (show l4.length ≤ maxLen from by unfold maxLen; have := HN1.out; omega)
      clear hall4 hat4 hc4 hln4 hB4
      go_wp2_with fail
      refine (HA2.out W4 HB4.out).mono ?_
      rintro e W5 ⟨q5, c5, l5, rfl, hall5, hat5, hc5, hln5, hB5⟩
      obtain rfl : l5 = l4 := allL_unique hall5 HAL4.out
      have HB5 := Lib.hid (HB4.out.trans (hB5.mono HB4.out.size))
      have HSM := Lib.hid (rsameL_yes q4 q5 l5 l5.length c4 c5 W5 (HAT4.out.below hB5) hat5 rfl HM4.out)
      clear hall5 hat5 hc5 hln5 hB5
      go_wp2_with fail
      refine HSM.out.mono ?_
      rintro e W6 ⟨rfl, hB6⟩
      have HB6 := Lib.hid (HB5.out.trans (hB6.mono HB5.out.size))
      have HO1 := Lib.hid (ldover_any W6 g b n1 s1 _ _ (HL9.out.next HB6.out))
      have HO2 := Lib.hid (ldover_any W6 g' b' n2 s2 _ _ (HQ9.out.next HB6.out))
      have HBW := Lib.hid (HB.out.trans (HB6.out.mono HB.out.size))
      clear hB6 HSM
      rcases O with _ | _
      · go_wp2_with fail
        refine HO1.out.mono ?_
        rintro e w' ⟨rfl, rfl⟩
        go_wp2_with fail
        refine HO2.out.mono ?_
        rintro e w' ⟨rfl, rfl⟩
        go_wp2_with fail
        go_ret
        exact ⟨rfl, HBW.out⟩
      · go_wp2_with fail
        refine HO1.out.mono ?_
        rintro e w' ⟨rfl, rfl⟩
        go_wp2_with fail
        refine HO2.out.mono ?_
        rintro e w' ⟨rfl, rfl⟩
        go_wp2_with fail
        go_ret
        exact ⟨rfl, HBW.out⟩
theorem ldorders_arg (w : World) (x : Option Addr × List Lo × Nat) (g : LosArg w x) (t : Int) (ht : (Lit.int .i64 t).wf = true) :
    Calls Try.prog 7 #[.slice x.1 x.2.1.length x.2.2, .int .i64 t] w fun e w' => e = .returned (.bool true) ∧ Below w.heap.size w w' :=
  ldorders_walk w x.1 x.2.1 _ x.2.2 g.at_ rfl (Nat.le_trans g.le g.max) t
end Go.Proofs.Yteeihjdkenlebaa
