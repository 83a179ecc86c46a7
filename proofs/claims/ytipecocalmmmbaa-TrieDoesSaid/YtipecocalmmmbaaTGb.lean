/- trie: TrieGone's walk. -/
import Derived.Test.YtipecocalmmmbaaTGa
namespace Go.Proofs.Ytipecocalmmmbaa
open Go.RowKit
set_option linter.unusedVariables false
set_option linter.unusedSimpArgs false

theorem held_all {L : List TE} (h : TL L) : heldL 0 0 ((L.map o3).map okey) (L.map o3).length = L.map tkey := by
  unfold heldL
  rw [List.take_of_length_le (by simp), List.map_map]
  rw [show okey ∘ o3 = tkey from rfl, List.filter_map]
  exact congrArg _ (within_all h)
theorem GS.new (w : World) : GS w ((((w.alloc (.cells #[.pointer none, .pointer none, .pointer none] NDi)).alloc (.cells #[.pointer (some ⟨w.heap.size, 0, none⟩), .int .i64 0] TRi)).alloc (.cells #[.slice none 0 0] RTy))) (w.heap.size + 1) w.heap.size (w.heap.size + 2) (N0 w.heap.size) [] [] := by
  have h1 := TrAt.new (TR := TRi) (ND := NDi) (TH := THi) ne_int w w.heap.size (Nat.le_refl _)
  obtain ⟨V, hV⟩ : ∃ V, (w.alloc (.cells #[.pointer none, .pointer none, .pointer none] NDi)).alloc (.cells #[.pointer (some ⟨w.heap.size, 0, none⟩), .int .i64 0] TRi) = V := ⟨_, rfl⟩
  rw [hV] at h1 ⊢
  have hs : V.heap.size = w.heap.size + 2 := by rw [← hV, sz_alloc, sz_alloc]
  have hb : Below w.heap.size w V := by rw [← hV]; exact two_below _ _ _
  have h2 := RfAt.new V
  rw [hs] at h2
  exact ⟨h1.below (newB V _), h2, by omega, hb.alloc (by omega) _⟩
set_option maxRecDepth 100000 in
set_option maxHeartbeats 16000000 in
theorem gone_walk (w : World) (x y : Option Addr × List (Int × Int) × Nat) (hp : PAt w x.1 x.2.1) (hok : ∀ m ∈ x.2.1, 0 ≤ m.1 ∧ m.1 ≤ 4294967295) (hp2 : PAt w y.1 y.2.1) (hok2 : ∀ m ∈ y.2.1, 0 ≤ m.1 ∧ m.1 ≤ 4294967295) :
    Calls Try.prog 5 #[.slice x.1 x.2.1.length x.2.2, .slice y.1 y.2.1.length y.2.2] w fun e w' => e = .returned (.bool true) ∧ Below w.heap.size w w' := by
  obtain ⟨q, ps, c⟩ := x
  obtain ⟨q2, ms, c2⟩ := y
  dsimp only at hp hok hp2 hok2 ⊢
  obtain ⟨n, hn⟩ : ∃ n, ps.length = n := ⟨_, rfl⟩
  obtain ⟨m, hm⟩ : ∃ m, ms.length = m := ⟨_, rfl⟩
  rw [hn, hm]
  have HPS := Lib.hid hp
  have HOK := Lib.hid hok
  have HN := Lib.hid hn
  have HPS2 := Lib.hid hp2
  have HOK2 := Lib.hid hok2
  have HM := Lib.hid hm
  have HL := Lib.hid (lives_any w)
  clear hp hok hn hp2 hok2 hm
  go_enter Try.func5, Try.ntmps5
  by_cases h100 : 100 < n
  · have hg : (100 : Int) < (n : Int) := by omega
    have hg2 : decide ((100 : Int) < (n : Int)) = true := decide_eq_true hg
    go_wp2_with fail
    refine HL.out.mono ?_
    rintro e w2 ⟨rfl, hb⟩
    have HB := Lib.hid hb
    clear hb
    go_wp2_with fail
    go_ret
    exact ⟨rfl, HB.out⟩
  have hg : ¬ (100 : Int) < (n : Int) := by omega
  have hg2 : decide ((100 : Int) < (n : Int)) = false := decide_eq_false hg
  by_cases k100 : 100 < m
  · have hk : (100 : Int) < (m : Int) := by omega
    have hk2 : decide ((100 : Int) < (m : Int)) = true := decide_eq_true hk
    go_wp2_with fail
    refine HL.out.mono ?_
    rintro e w2 ⟨rfl, hb⟩
    have HB := Lib.hid hb
    clear hb
    go_wp2_with fail
    go_ret
    exact ⟨rfl, HB.out⟩
  have hk : ¬ (100 : Int) < (m : Int) := by omega
  have hk2 : decide ((100 : Int) < (m : Int)) = false := decide_eq_false hk
  have HN100 := Lib.hid h100
  have HM100 := Lib.hid k100
  have HNEW := Lib.hid (new_int w)
  have ho := GS.new w
  obtain ⟨V, hV⟩ : ∃ V, (w.alloc (.cells #[.pointer none, .pointer none, .pointer none] NDi)).alloc (.cells #[.pointer (some ⟨w.heap.size, 0, none⟩), .int .i64 0] TRi) = V := ⟨_, rfl⟩
  have hs : V.heap.size = w.heap.size + 2 := by rw [← hV, sz_alloc, sz_alloc]
  rw [hV] at ho HNEW
  obtain ⟨t, ht⟩ : ∃ t, w.heap.size + 1 = t := ⟨_, rfl⟩
  obtain ⟨u, hu⟩ : ∃ u, w.heap.size + 2 = u := ⟨_, rfl⟩
  rw [ht, hu] at ho
  rw [ht] at HNEW
  rw [hu] at hs
  obtain ⟨V2, hV2⟩ : ∃ V2, V.alloc (.cells #[.slice none 0 0] RTy) = V2 := ⟨_, rfl⟩
  rw [hV2] at ho
  have HO := Lib.hid ho
  have HV2 := Lib.hid hV2
  have HSV := Lib.hid hs
  clear hs ho hV hV2 ht hu
  go_wp2_with fail
  refine HNEW.out.mono ?_
  rintro e w1 ⟨rfl, rfl⟩
  go_wp2_with fail
  rw [HV2.out, HSV.out]
  refine (lives_any _).mono ?_
  rintro e w3 ⟨rfl, hb⟩
  have HO1 := Lib.hid (HO.out.below hb)
  clear hb
  go_wp2_with fail
  go_loopw [7] (fun v wr => ∃ (k : Nat) (N : Int → Nat → Option Nat) (L : List TE), v = .int .i64 k ∧ k ≤ n ∧ L.length ≤ k ∧ GS w wr t w.heap.size u N L (L.map o3)) (fun v _ => n - (intOf v).toNat)
  case atStart => exact ⟨0, _, [], rfl, Nat.zero_le _, Nat.le_refl _, HO1.out⟩
  case round =>
    obtain ⟨k, N, L, rfl, hk, hL, hO⟩ := hrel
    have HO2 := Lib.hid hO
    have HLL := Lib.hid hL
    clear hO
    by_cases hlt : k < n
    · have hlt' : (k : Int) < (n : Int) := by omega
      have k0 : (0 : Int) ≤ (k : Int) := by omega
      have hn100 : (n : Int) ≤ 100 := by have := HN100.out; omega
      obtain ⟨y, hy⟩ : ∃ y, ps[k]? = some y := ⟨_, List.getElem?_eq_getElem (by rw [HN.out]; exact hlt)⟩
      rcases HPS.out with h | ⟨b, off, rfl, hc⟩
      · have := HN.out; rw [h] at this; simp at this; omega
      obtain ⟨c0, c1⟩ := hc k y hy
      have HYO := Lib.hid (HOK.out y (List.mem_of_getElem? hy))
      obtain ⟨ya, yn⟩ := y
      dsimp only at c0 c1 HYO
      have HC := Lib.hid (show ∀ U : World, Below w.heap.size w U → U.cell? ⟨b, off + k * 2, none⟩ = some (.int .u32 ya) ∧ U.cell? ⟨b, off + k * 2 + 1, none⟩ = some (.int .i64 yn) from fun U hU => ⟨kept hU c0, kept hU c1⟩)
      obtain ⟨C0, C1⟩ := HC.out wr HO2.out.bel
      clear hc hy c0 c1
      have HS := Lib.hid (set_any_int wr w.heap.size t w.heap.size N L ya yn 1 HO2.out.tr HO2.out.bel.size HYO.out.1 (by have := HYO.out.2; omega) (by omega))
      go_wp2_with fail
      refine HS.out.mono ?_
      rintro e w4 ⟨ee, N', g, rfl, hr⟩
      have HO4 := Lib.hid (HO2.out.turnT hr)
      have HLE := Lib.hid (setT_le HO2.out.tr.tl ya yn (.int .i64 1) g)
      have HRS := Lib.hid (rset_any w4 u (L.map o3) ya yn 1 HYO.out.1 (by have := HYO.out.2; omega) HO4.out.rf (by rw [List.length_map]; omega))
      clear hr C0 C1 HS
      obtain ⟨D0, D1⟩ := HC.out w4 HO4.out.bel
      go_wp2_with fail
      refine HRS.out.mono ?_
      rintro e w5 ⟨rfl, hrf, htu⟩
      have HO5 := Lib.hid (HO4.out.turnX (l' := (setT L ya yn (.int .i64 1) g).map o3) (by rw [← setO_o3 HO2.out.tr.tl]; exact hrf) htu)
      clear hrf htu D0 D1
      go_wp2_with fail
      go_roundw
      case rel => exact ⟨k + 1, N', _, by go_num, by omega, by have := HLE.out; omega, HO5.out⟩
      case measure => simp [intOf]; omega
    · obtain rfl : k = n := by omega
      have HL100 := Lib.hid (show L.length ≤ 100 by have := HN100.out; omega)
      go_wp2_with fail
      go_loopw [8] (fun v wr => ∃ (j : Nat) (N : Int → Nat → Option Nat), v = .int .i64 j ∧ j ≤ m ∧ GS w wr t w.heap.size u N L (L.map o3)) (fun v _ => m - (intOf v).toNat)
      case atStart => exact ⟨0, _, rfl, Nat.zero_le _, HO2.out⟩
      case round =>
        obtain ⟨j, N2, rfl, hj, hO⟩ := hrel
        have HQ2 := Lib.hid hO
        clear hO
        by_cases hltj : j < m
        · have hltj' : (j : Int) < (m : Int) := by omega
          have j0 : (0 : Int) ≤ (j : Int) := by omega
          have hm100 : (m : Int) ≤ 100 := by have := HM100.out; omega
          obtain ⟨y, hy⟩ : ∃ y, ms[j]? = some y := ⟨_, List.getElem?_eq_getElem (by rw [HM.out]; exact hltj)⟩
          rcases HPS2.out with h | ⟨b, off, rfl, hc⟩
          · have := HM.out; rw [h] at this; simp at this; omega
          obtain ⟨c0, c1⟩ := hc j y hy
          have HYO := Lib.hid (HOK2.out y (List.mem_of_getElem? hy))
          obtain ⟨ya, yn⟩ := y
          dsimp only at c0 c1 HYO
          have HC := Lib.hid (show ∀ U : World, Below w.heap.size w U → U.cell? ⟨b, off + j * 2, none⟩ = some (.int .u32 ya) ∧ U.cell? ⟨b, off + j * 2 + 1, none⟩ = some (.int .i64 yn) from fun U hU => ⟨kept hU c0, kept hU c1⟩)
          obtain ⟨C0, C1⟩ := HC.out wr HQ2.out.bel
          clear hc hy c0 c1
          have HRG := Lib.hid (rget_any wr u (L.map o3) ya yn HQ2.out.rf (by rw [List.length_map]; have := HL100.out; omega))
          have HFB := Lib.hid (fB_o3 HQ2.out.tr.tl ya yn)
          obtain ⟨fb, hfb⟩ : ∃ fb, fB (L.map o3) ya yn = fb := ⟨_, rfl⟩
          rw [hfb] at HRG HFB
          clear hfb
          go_wp2_with fail
          refine HRG.out.mono ?_
          rintro e w4 ⟨⟨v, rfl, -⟩, hb⟩
          have HQ4 := Lib.hid (HQ2.out.below hb)
          clear hb C0 C1 HRG
          rcases fb with _ | _
          · have HNO := Lib.hid (show atT L ya yn = none from by
              rcases h : atT L ya yn with _ | e
              · rfl
              · have := HFB.out; rw [h] at this; cases this)
            obtain ⟨D0, D1⟩ := HC.out w4 HQ4.out.bel
            have HS := Lib.hid (set_any_int w4 w.heap.size t w.heap.size N2 L ya yn 2 HQ4.out.tr HQ4.out.bel.size HYO.out.1 (by have := HYO.out.2; omega) (by have := HL100.out; omega))
            go_wp2_with fail
            refine HS.out.mono ?_
            rintro e w5 ⟨ee, N', g, rfl, hr⟩
            have HQ5 := Lib.hid (HQ4.out.turnT hr)
            have HLE := Lib.hid (setT_le HQ4.out.tr.tl ya yn (.int .i64 2) g)
            have HDL := Lib.hid (at_insT HQ4.out.tr.tl ya yn (.int .i64 2) g HNO.out)
            clear hr D0 D1 HS
            obtain ⟨D0, D1⟩ := HC.out w5 HQ5.out.bel
            have HD := Lib.hid (delete_int w5 w.heap.size t w.heap.size N' _ ya yn HQ5.out.tr HYO.out.1 (by have := HYO.out.2; omega) (by have := HLE.out; have := HL100.out; omega))
            go_wp2_with fail
            refine HD.out.mono ?_
            rintro e w6 ⟨N'', rfl, hr⟩
            rw [HDL.out] at hr
            have HQ6 := Lib.hid (HQ5.out.turnT hr)
            clear hr D0 D1 HD
            go_wp2_with fail
            go_roundw
            case rel => exact ⟨j + 1, N'', by go_num, by omega, HQ6.out⟩
            case measure => simp [intOf]; omega
          · go_wp2_with fail
            go_roundw
            case rel => exact ⟨j + 1, N2, by go_num, by omega, HQ4.out⟩
            case measure => simp [intOf]; omega
        · obtain rfl : j = m := by omega
          have HPR := Lib.hid (prefixes_int wr w.heap.size t w.heap.size _ N2 L HQ2.out.tr (by have := HL100.out; omega))
          go_wp2_with fail
          refine HPR.out.mono ?_
          rintro e w4 ⟨ks, kq, kc, hks, rfl, hrow, hb⟩
          have HQ4 := Lib.hid (HQ2.out.below hb)
          have HKS := Lib.hid (show PAt w4 kq ks ∧ ks = L.map tkey from ⟨pat_row hrow rfl, hks⟩)
          clear hb hrow hks
          have HRI := Lib.hid (rin_any w4 u (L.map o3) 0 0 (by omega) (by omega) HQ4.out.rf (fun p hp => by
            obtain ⟨e, he, rfl⟩ := List.mem_map.1 hp
            exact ⟨(HQ4.out.tr.tl.ok e he).a0, (HQ4.out.tr.tl.ok e he).a1⟩) (by rw [List.length_map]; have := HL100.out; omega))
          rw [held_all HQ4.out.tr.tl] at HRI
          go_wp2_with fail
          refine HRI.out.mono ?_
          rintro e w5 ⟨z, zq, zc, rfl, hz, hrow, hb⟩
          have HKA := Lib.hid (HKS.out.1.below hb)
          have HMA := Lib.hid (pat_row hrow hz.symm)
          have hle : ks.length ≤ 1000000 := by rw [HKS.out.2, List.length_map]; have := HL100.out; omega
          have hzk : z = ks.length := by rw [hz, HKS.out.2]
          rw [← HKS.out.2] at HMA
          have HQ5 := Lib.hid (HQ4.out.below hb)
          clear hb hrow hz
          subst hzk
          have HSM := Lib.hid (same_any w5 kq zq ks ks ks.length ks.length kc zc HKA.out HMA.out rfl rfl hle hle)
          rw [show sameB ks ks = true by unfold sameB; simp] at HSM
          obtain ⟨kl, hkl⟩ : ∃ kl, ks.length = kl := ⟨_, rfl⟩
          rw [hkl] at HSM ⊢
          clear hle hkl
          go_wp2_with fail
          refine HSM.out.mono ?_
          rintro e w6 ⟨rfl, hb⟩
          have HQ6 := Lib.hid (HQ5.out.below hb)
          clear hb
          go_wp2_with fail
          go_ret
          exact ⟨rfl, HQ6.out.bel⟩
end Go.Proofs.Ytipecocalmmmbaa
