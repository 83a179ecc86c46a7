/- best: Rank. -/
import Derived.Test.YtljbebeaahcjaaaB8
import Derived.StillTailTactics
namespace Go.Proofs.Ytljbebeaahcjaaa
open Go.RowKit Go.Maps Go.Sort Go.Shelf
set_option linter.unusedVariables false
set_option linter.unusedSimpArgs false
set_option maxRecDepth 100000
theorem ThoseR.of {w0 w w' : World} {l : List Rv} {B : List Nat} {e : Ending} (h : ThoseR w w' l B e) (hb : Below w0.heap.size w0 w) : ThoseR w0 w' l B e := by
  obtain ⟨R, c, O, he, hR, hO, hc, hC, hB⟩ := h
  exact ⟨R, c, O, he, Nat.le_trans hb.size hR, hO, hc, hC, hb.trans (hB.mono hb.size)⟩
theorem wait0 (M : List St) (k : Nat) : ∀ i, i < k → M.getD i St.zero = if i < 0 + 1 then waitF M i else M.getD i St.zero := by
  intro i _
  split
  · rw [show i = 0 by omega]; rfl
  · rfl
theorem waitS {M K : List St} {k j : Nat} (hK : K.length = k) (hj : j + 1 < k) (h : ∀ i, i < k → K.getD i St.zero = if i < j + 1 then waitF M i else M.getD i St.zero) : ∀ i, i < k → (K.set (j + 1) (waitV (K.getD (j + 1) St.zero) (K.getD j St.zero))).getD i St.zero = if i < j + 1 + 1 then waitF M i else M.getD i St.zero := by
  intro i hi
  by_cases e : i = j + 1
  · subst e
    rw [if_pos (by omega), h j (by omega), if_pos (by omega), h (j + 1) hi, if_neg (by omega)]
    simp [List.getD, show j + 1 < K.length by omega, waitF]
  · have : (K.set (j + 1) (waitV (K.getD (j + 1) St.zero) (K.getD j St.zero))).getD i St.zero = K.getD i St.zero := by simp [List.getD, List.getElem?_set_ne (fun h => e h.symm)]
    rw [this, h i hi]
    by_cases h2 : i < j + 1
    · rw [if_pos h2, if_pos (by omega)]
    · rw [if_neg h2, if_neg (by omega)]
set_option maxHeartbeats 16000000 in
theorem rank_any (w : World) (p : Option Addr) (l : List Rv) (n c : Nat) (h : Looks w p l n) :
    Calls Try.prog 10 #[.slice p n c] w fun e w' => ∃ B, RankB l n B ∧ ThoseR w w' l B e := by
  have hsm := h.small
  have hmk := run_makeS n hsm
  have hmk2 := run_makeI n hsm
  have hS0 := StsAt.made w n
  have hB0 := newB w (.cells (madeCells #[.int .i64 0, .int .i64 0, .int .i64 0, .int .i64 0, .int .i64 0, .int .i64 0, .int .i64 0, .int .i64 0, .int .i64 0] (n * 9)) 57)
  obtain ⟨R, hR⟩ : ∃ R, w.heap.size = R := ⟨_, rfl⟩
  obtain ⟨V, hV⟩ : ∃ V, w.alloc (.cells (madeCells #[.int .i64 0, .int .i64 0, .int .i64 0, .int .i64 0, .int .i64 0, .int .i64 0, .int .i64 0, .int .i64 0, .int .i64 0] (n * 9)) 57) = V := ⟨_, rfl⟩
  rw [hV, hR] at hS0
  rw [hV] at hB0
  have HR := Lib.hid (fun (u : World) (hu : Turns (fun k => k = R) V u) => h.below (hB0.trans (hu.below (B := w.heap.size) hB0.size fun k hk => by omega)))
  have HBE := Lib.hid (fun (u : World) (hu : Turns (fun k => k = R) V u) => show Below w.heap.size w u from hB0.trans (hu.below (B := w.heap.size) hB0.size fun k hk => by omega))
  have HRE := Lib.hid hR
  have HVE := Lib.hid hV
  have HS0 := Lib.hid hS0
  have HLEN := Lib.hid h.len
  have HL0 := Lib.hid h
  have HLE := Lib.hid h.lens
  have HREP := Lib.hid (show (List.replicate n St.zero).length = n from List.length_replicate)
  clear h hS0 hB0 hR hV
  go_enter Try.func10, Try.ntmps10
  go_wp2_with fail
  rw [HVE.out, HRE.out]
  go_wp2_with fail
  go_loopw [14] (fun iv wr => ∃ (k : Nat) (L : List St), k ≤ n ∧ iv = .int .i64 k ∧ Hid (L.length = n ∧ (∀ i : Nat, i < k → L.getD i St.zero = standV (i : Int) (l.getD i Rv.zero)) ∧ StsAt wr R L ∧ Turns (fun b => b = R) V wr)) (fun iv _ => n - (intOf iv).toNat)
  case atStart => exact ⟨0, List.replicate n St.zero, Nat.zero_le _, rfl, Lib.hid ⟨HREP.out, fun i hi => absurd hi (by omega), HS0.out, .refl _ _⟩⟩
  case round =>
    obtain ⟨k, L, hk, rfl, HI⟩ := hrel
    by_cases hlt : k < n
    · have hltI : (k : Int) < (n : Int) := by omega
      obtain ⟨b, off, hpe, hhere⟩ := rv_here (HR.out wr HI.out.2.2.2).at_ HLEN.out hlt
      have hmem : l.getD k Rv.zero ∈ l := by
        have := HLEN.out
        rw [show l.getD k Rv.zero = l[k]'(by omega) by simp [List.getD, show k < l.length by omega]]
        exact List.getElem_mem _
      have HST := Lib.hid (stand_any wr b (off + k * 10) (l.getD k Rv.zero) hhere k (HLE.out _ hmem))
      obtain ⟨x, hx⟩ : ∃ x, standV (k : Int) (l.getD k Rv.zero) = x := ⟨_, rfl⟩
      rw [hx] at HST
      have HX := Lib.hid hx
      clear hx hhere hmem
      subst hpe
      obtain ⟨x0, x1, x2, x3, x4, x5, x6, x7, x8⟩ := x
      go_wp2_with (go_at_call 19; refine HST.out.mono ?_; rintro e u ⟨rfl, hb⟩; obtain ⟨⟨h0, h1, h2, h3, h4, h5, h6, h7, h8⟩, f0, f1, f2, f3, f4, f5, f6, f7, f8⟩ := (HI.out.2.2.1.below hb).one HI.out.1 hlt rfl)
      go_roundw
      case rel => exact ⟨k + 1, L.set k ⟨x0, x1, x2, x3, x4, x5, x6, x7, x8⟩, by omega, by go_num, Lib.hid ⟨by rw [List.length_set]; exact HI.out.1, (fun i hi => (by
          by_cases e : i = k
          · subst e
            rw [HX.out]
            have := HI.out.1
            simp [List.getD, show i < L.length by omega]
          · rw [← HI.out.2.1 i (by omega)]
            simp [List.getD, List.getElem?_set_ne (fun h => e h.symm)])), (HI.out.2.2.1.below hb).nine HI.out.1 hlt ⟨x0, x1, x2, x3, x4, x5, x6, x7, x8⟩, turns_nine (HI.out.2.2.2.trans (.of_below hb)) rfl k ⟨x0, x1, x2, x3, x4, x5, x6, x7, x8⟩⟩⟩
      case measure => simp [intOf]; omega
    · obtain rfl : k = n := by omega
      have hkI : ¬ (k : Int) < (k : Int) := by omega
      obtain rfl : L = standL l k := getD_ext HI.out.1 HI.out.2.1
      have HSA := Lib.hid (sortAS_any wr R k k (standL l k) HI.out.2.2.1 HI.out.1 hsm)
      go_wp2_with (go_at_call 20; refine HSA.out.mono ?_; rintro e u ⟨rfl, M, hM⟩; have HM := Lib.hid hM; clear hM)
      have HML := Lib.hid (show M.length = k by rw [← HM.out.1.length_eq, standL_len])
      have HTU := Lib.hid (HI.out.2.2.2.trans HM.out.2.2.2)
      go_loopw [5] (fun iv wq => ∃ (j : Nat) (K : List St), j ≤ k ∧ iv = .int .i64 ((j + 1 : Nat) : Int) ∧ Hid (K.length = k ∧ (∀ i, i < k → K.getD i St.zero = if i < j + 1 then waitF M i else M.getD i St.zero) ∧ StsAt wq R K ∧ Turns (fun b => b = R) V wq)) (fun iv _ => k + 1 - (intOf iv).toNat)
      case atStart => exact ⟨0, M, Nat.zero_le _, rfl, Lib.hid ⟨HML.out, wait0 M k, HM.out.2.2.1, HTU.out⟩⟩
      case round =>
        obtain ⟨j, K, hj, rfl, HJ⟩ := hrel
        by_cases hlt : j + 1 < k
        · have hltI : (((j + 1 : Nat) : Int)) < (k : Int) := by omega
          have e1 : IntKind.i64.wrap (((j + 1 : Nat) : Int) - 1) = (j : Int) := by rw [IntKind.wrap_i64]; omega
          have e2 : (0 : Int) ≤ (j : Int) := by omega
          have e3 : (j : Int) < (k : Int) := by omega
          have e4 : ((j : Int)).toNat = j := by omega
          have e5 : (((j + 1 : Nat) : Int)).toNat = j + 1 := by omega
          have e6 : (0 : Int) ≤ ((j + 1 : Nat) : Int) := by omega
          have e7 : IntKind.i64.wrap ((j : Int) + 1 - 1) = (j : Int) := by rw [IntKind.wrap_i64]; omega
          have e8 : ((j : Int) + 1).toNat = j + 1 := by omega
          have e9 : (0 : Int) ≤ (j : Int) + 1 := by omega
          have e10 : (j : Int) + 1 < (k : Int) := by omega
          have e11 : IntKind.i64.wrap (j : Int) = (j : Int) := by rw [IntKind.wrap_i64]; omega
          obtain ⟨o, ho⟩ : ∃ o, K.getD j St.zero = o := ⟨_, rfl⟩
          have HO := Lib.hid ho
          have HSD := Lib.hid (HJ.out.2.2.1.same (w' := wr.drew) (Nat.le_refl _) rfl)
          have HTD := Lib.hid (HJ.out.2.2.2.drew)
          obtain ⟨⟨h0, h1, h2, h3, h4, h5, h6, h7, h8⟩, _⟩ := HSD.out.one HJ.out.1 (by omega : j < k) ho
          have HWT := Lib.hid (wait_any wr.drew R k (j + 1) K HSD.out HJ.out.1 hsm hlt _ o rfl)
          clear ho
          obtain ⟨y0, y1, y2, y3, y4, y5, y6, y7, y8⟩ := o
          dsimp only at h0 h1 h2 h3 h4 h5 h6 h7 h8
          go_wp2_with fail
          go_still_tail 8, (by kernel_rfl)
          change wpList _ _ _ _ _ wr.drew
          obtain ⟨U, hU⟩ : ∃ U, wr.drew = U := ⟨_, rfl⟩
          rw [hU] at h0 h1 h2 h3 h4 h5 h6 h7 h8 HWT HTD ⊢
          clear hU HSD
          go_wp2_with (go_at_call 22; refine HWT.out.mono ?_; rintro e u ⟨rfl, hS, hT⟩)
          go_roundw
          case rel => exact ⟨j + 1, _, by omega, by go_num, Lib.hid ⟨by rw [List.length_set]; exact HJ.out.1, (by have := waitS HJ.out.1 hlt HJ.out.2.1; rw [HO.out] at this; exact this), hS, HTD.out.trans hT⟩⟩
          case measure => simp [intOf]; omega
        · have hkJ : ¬ (((j + 1 : Nat) : Int)) < (k : Int) := by omega
          obtain rfl : K = waitL M k := getD_ext HJ.out.1 (fun i hi => by rw [HJ.out.2.1 i hi, if_pos (by omega)])
          have HST := Lib.hid (sortTR_any wr R k k (waitL M k) HJ.out.2.2.1 HJ.out.1 hsm (waitL_nodup HM.out.1))
          go_wp2_with (go_at_call 23; refine HST.out.mono ?_; rintro e u2 ⟨rfl, N, hN⟩; have HN := Lib.hid hN; clear hN)
          have HPL := Lib.hid (rank_places HM.out.1 HN.out.1)
          have HA0 := Lib.hid (AtBk.made u2 k)
          have hb2 := newB u2 (.cells (madeCells #[.int .i64 0] k) 3)
          have HS2 := Lib.hid (HN.out.2.2.1.below hb2)
          have HT2 := Lib.hid (HJ.out.2.2.2.trans (HN.out.2.2.2.trans (.of_below hb2)))
          have HNL := Lib.hid (show N.length = k by rw [← HN.out.1.length_eq, waitL_len])
          obtain ⟨g, hg⟩ : ∃ g, u2.heap.size = g := ⟨_, rfl⟩
          have HRG := Lib.hid (show R < g by rw [← hg]; exact HN.out.2.2.1.lt)
          obtain ⟨V3, hV3⟩ : ∃ V, u2.alloc (.cells (madeCells #[.int .i64 0] k) 3) = V := ⟨_, rfl⟩
          rw [hV3, hg] at HA0
          rw [hV3] at HS2 HT2
          rw [hV3, hg]
          clear hV3 hg hb2
          go_loopw [50] (fun iv wq => ∃ i : Nat, i ≤ k ∧ iv = .int .i64 i ∧ Hid (AtBk wq g ((N.map St.p).take i) k ∧ Turns (fun b => b = g) V3 wq)) (fun iv _ => k - (intOf iv).toNat)
          case atStart => exact ⟨0, Nat.zero_le _, rfl, Lib.hid ⟨HA0.out, .refl _ _⟩⟩
          case round =>
            obtain ⟨i, hi, rfl, HQ⟩ := hrel
            by_cases hlt3 : i < k
            · have hltI3 : (i : Int) < (k : Int) := by omega
              have HSW := Lib.hid (HS2.out.same HQ.out.2.size (HQ.out.2.block R HS2.out.lt (by have := HRG.out; omega)))
              obtain ⟨x, hx⟩ : ∃ x, N.getD i St.zero = x := ⟨_, rfl⟩
              obtain ⟨⟨h0, h1, h2, h3, h4, h5, h6, h7, h8⟩, _⟩ := HSW.out.one HNL.out hlt3 hx
              have HX := Lib.hid (show (N.map St.p).take (i + 1) = (N.map St.p).take i ++ [x.p] by
                have := HNL.out
                rw [List.take_add_one, ← hx]
                simp [List.getD, show i < N.length by omega])
              clear hx
              obtain ⟨x0, x1, x2, x3, x4, x5, x6, x7, x8⟩ := x
              dsimp only at h0 h1 h2 h3 h4 h5 h6 h7 h8
              have hbb := newB wr (.cells #[.int .i64 x0, .int .i64 x1, .int .i64 x2, .int .i64 x3, .int .i64 x4, .int .i64 x5, .int .i64 x6, .int .i64 x7, .int .i64 x8] 57)
              have HAA := Lib.hid (HQ.out.1.same (hbb.block g HQ.out.1.lt))
              obtain ⟨⟨v0, hc⟩, hf⟩ := HAA.out.cellN hlt3
              go_wp2_with fail
              go_roundw
              case rel => exact ⟨i + 1, by omega, by go_num, Lib.hid ⟨by rw [HX.out]; exact HAA.out.snoc (by rw [List.length_take, List.length_map, HNL.out]; omega) hlt3 _, (HQ.out.2.alloc _).setCell (.inl rfl) _⟩⟩
              case measure => simp [intOf]; omega
            · obtain rfl : i = k := by omega
              have hkQ : ¬ (i : Int) < (i : Int) := by omega
              have HEQ := Lib.hid (show (N.map St.p).take i = plc (N.map (fun x => x.p.toNat)) by rw [List.take_of_length_le (by rw [List.length_map, HNL.out]; omega), rank_plc HPL.out])
              have hat := HQ.out.1.at (by rw [HEQ.out]; exact plc_in (rank_lt HPL.out) hsm)
              rw [HEQ.out] at hat
              have HTV := Lib.hid (show Below w.heap.size w wr from (HBE.out _ HT2.out).trans (HQ.out.2.below (B := w.heap.size) (HBE.out _ HT2.out).size fun b hb => by have h1 := HRE.out; have h2 := HRG.out; have h3 : b = g := hb; omega))
              have HTH := Lib.hid (those_any wr p l i c (HL0.out.below HTV.out).at_ HLEN.out hsm (some ⟨g, 0, none⟩) (N.map (fun x => x.p.toNat)) i i hat (by rw [List.length_map, HNL.out]) hsm (rank_lt HPL.out))
              clear hat
              go_wp2_with (go_at_call 25; refine HTH.out.mono ?_; intro e u3 hT; have hT := hT.of HTV.out; obtain ⟨R9, c9, O9, rfl, hrest⟩ := hT; have HTT := Lib.hid (show ThoseR w u3 l (N.map fun x => x.p.toNat) (.returned (.slice (some ⟨R9, 0, none⟩) N.length c9)) from ⟨R9, c9, O9, by rw [List.length_map], hrest⟩); rw [List.length_map])
              go_ret
              exact ⟨_, ⟨M, N, HM.out.1, HM.out.2.1, HN.out.1, HN.out.2.1, rfl⟩, HTT.out⟩
end Go.Proofs.Ytljbebeaahcjaaa
