/- trie: TrieOrders's walk, on the way. -/
import Derived.Test.YtpamkckhhffgdaaTZ
namespace Go.Proofs.Ytpamkckhhffgdaa
open Go.RowKit
set_option linter.unusedVariables false
set_option linter.unusedSimpArgs false

set_option maxRecDepth 100000 in
set_option maxHeartbeats 16000000 in
theorem orders_walk (w : World) (x : Option Addr × List (Int × Int) × Nat) (hp : PAt w x.1 x.2.1) (hok : ∀ m ∈ x.2.1, 0 ≤ m.1 ∧ m.1 ≤ 4294967295) (tn : Int) (t0 : -9223372036854775808 ≤ tn) (t1 : tn ≤ 9223372036854775807) (a : Int) (a0 : 0 ≤ a) (a1 : a ≤ 4294967295) :
    Calls Try.prog 4 #[.slice x.1 x.2.1.length x.2.2, .int .i64 tn, .int .u32 a] w fun e w' => e = .returned (.bool true) ∧ Below w.heap.size w w' := by
  obtain ⟨q, ps, c⟩ := x
  dsimp only at hp hok ⊢
  have a1 : a < 4294967296 := by omega
  obtain ⟨n, hn⟩ : ∃ n, ps.length = n := ⟨_, rfl⟩
  rw [hn]
  have HPS := Lib.hid hp
  have HOK := Lib.hid hok
  have HN := Lib.hid hn
  have HL := Lib.hid (lives_any w)
  clear hp hok hn
  go_enter Try.func4, Try.ntmps4
  by_cases h100 : 100 < n
  · have hg : (100 : Int) < (n : Int) := by omega
    have hg2 : decide ((100 : Int) < (n : Int)) = true := decide_eq_true hg
    go_wp2_with fail
    refine HL.out.mono ?_
    rintro e w2 ⟨rfl, hb⟩
    have HB := Lib.hid hb
    clear hb
    go_wp2_with fail
    go_ret
    exact ⟨rfl, HB.out⟩
  have hg : ¬ (100 : Int) < (n : Int) := by omega
  have hg2 : decide ((100 : Int) < (n : Int)) = false := decide_eq_false hg
  rcases Nat.eq_zero_or_pos n with rfl | hpos
  · go_wp2_with fail
    refine HL.out.mono ?_
    rintro e w2 ⟨rfl, hb⟩
    have HB := Lib.hid hb
    clear hb
    go_wp2_with fail
    go_ret
    exact ⟨rfl, HB.out⟩
  have hz : ¬ (n : Int) = 0 := by omega
  by_cases hneg : tn < 0
  · go_wp2_with fail
    refine HL.out.mono ?_
    rintro e w2 ⟨rfl, hb⟩
    have HB := Lib.hid hb
    clear hb
    go_wp2_with fail
    go_ret
    exact ⟨rfl, HB.out⟩
  obtain ⟨T, rfl⟩ := Int.eq_ofNat_of_zero_le (show (0 : Int) ≤ tn from by omega)
  have HNP := Lib.hid hpos
  have HN100 := Lib.hid h100
  have HNEW := Lib.hid (new_int w)
  obtain ⟨V, hV⟩ : ∃ V, (w.alloc (.cells #[.pointer none, .pointer none, .pointer none] NDi)).alloc (.cells #[.pointer (some ⟨w.heap.size, 0, none⟩), .int .i64 0] TRi) = V := ⟨_, rfl⟩
  have HNEW2 := Lib.hid (new_int V)
  obtain ⟨V2, hV2⟩ : ∃ V2, (V.alloc (.cells #[.pointer none, .pointer none, .pointer none] NDi)).alloc (.cells #[.pointer (some ⟨V.heap.size, 0, none⟩), .int .i64 0] TRi) = V2 := ⟨_, rfl⟩
  have hs : V.heap.size = w.heap.size + 2 := by rw [← hV, sz_alloc, sz_alloc]
  have ho := OS.new w
  rw [hV, ← hs, hV2, hs] at ho
  have HO := Lib.hid ho
  rw [hV] at HNEW
  rw [hV2, hs] at HNEW2
  obtain ⟨t, ht⟩ : ∃ t, w.heap.size + 1 = t := ⟨_, rfl⟩
  obtain ⟨u, hu⟩ : ∃ u, w.heap.size + 2 + 1 = u := ⟨_, rfl⟩
  rw [ht, show w.heap.size + 3 = u from by omega] at HO
  rw [ht] at HNEW
  rw [hu] at HNEW2
  clear hs ho hV hV2 ht hu
  go_wp2_with fail
  refine HNEW.out.mono ?_
  rintro e w1 ⟨rfl, rfl⟩
  go_wp2_with fail
  refine HNEW2.out.mono ?_
  rintro e w2 ⟨rfl, rfl⟩
  go_wp2_with fail
  refine (lives_any _).mono ?_
  rintro e w3 ⟨rfl, hb⟩
  have HO1 := Lib.hid (HO.out.below hb)
  clear hb
  go_wp2_with fail
  go_loopw [9] (fun v wr => ∃ (k : Nat) (N M : Int → Nat → Option Nat) (L K : List TE), v = .int .i64 k ∧ k ≤ n ∧ L.length ≤ k ∧ K.length ≤ k ∧ OS w wr t w.heap.size u (w.heap.size + 2) N M L K (fun p => ∃ i, i < k ∧ ps[i]? = some p) (fun p => ∃ i, i < k ∧ ps[n - 1 - (i + T % n) % n]? = some p)) (fun v _ => n - (intOf v).toNat)
  case atStart => exact ⟨0, _, _, [], [], rfl, Nat.zero_le _, Nat.le_refl _, Nat.le_refl _, ⟨HO1.out.tr1, HO1.out.tr2, HO1.out.dis, HO1.out.b1.congr (by simp), HO1.out.b2.congr (by simp), HO1.out.bel⟩⟩
  case round =>
    obtain ⟨k, N, M, L, K, rfl, hk, hL, hK, hO⟩ := hrel
    have HO2 := Lib.hid hO
    clear hO
    by_cases hlt : k < n
    · have hlt' : (k : Int) < (n : Int) := by omega
      have k0 : (0 : Int) ≤ (k : Int) := by omega
      have hn100 : (n : Int) ≤ 100 := by have := HN100.out; omega
      have hDn : T % n < n := Nat.mod_lt _ HNP.out
      have m1 : Int.tmod (T : Int) (n : Int) = ((T % n : Nat) : Int) := by rw [Int.tmod_eq_emod_of_nonneg (by omega)]; omega
      obtain ⟨D, hD⟩ : ∃ D, T % n = D := ⟨_, rfl⟩
      rw [hD] at hDn m1
      have HZn : (k + D) % n < n := Nat.mod_lt _ HNP.out
      have m2 : Int.tmod ((k : Int) + (D : Int)) (n : Int) = (((k + D) % n : Nat) : Int) := by rw [Int.tmod_eq_emod_of_nonneg (by omega)]; simp
      obtain ⟨Z, hZ⟩ : ∃ Z, (k + D) % n = Z := ⟨_, rfl⟩
      rw [hZ] at HZn m2
      obtain ⟨n1, hn1⟩ : ∃ n1, n - 1 = n1 := ⟨_, rfl⟩
      have e1 : IntKind.i64.wrap ((n : Int) - 1) = (n1 : Int) := by rw [IntKind.wrap_i64]; omega
      obtain ⟨J, hJ⟩ : ∃ J, n1 - Z = J := ⟨_, rfl⟩
      have e2 : IntKind.i64.wrap ((n1 : Int) - (Z : Int)) = (J : Int) := by rw [IntKind.wrap_i64]; omega
      have hJn : J < n := by omega
      have HJE := Lib.hid (show n - 1 - (k + T % n) % n = J by rw [hD, hZ, hn1, hJ])
      obtain ⟨y, hy⟩ : ∃ y, ps[k]? = some y := ⟨_, List.getElem?_eq_getElem (by rw [HN.out]; exact hlt)⟩
      obtain ⟨z, hz⟩ : ∃ z, ps[J]? = some z := ⟨_, List.getElem?_eq_getElem (by rw [HN.out]; exact hJn)⟩
      rcases HPS.out with h | ⟨b, off, rfl, hc⟩
      · have := HN.out; rw [h] at this; simp at this; omega
      obtain ⟨c0, c1⟩ := hc k y hy
      obtain ⟨d0, d1⟩ := hc J z hz
      have HYO := Lib.hid (HOK.out y (List.mem_of_getElem? hy))
      have HZO := Lib.hid (HOK.out z (List.mem_of_getElem? hz))
      have HY := Lib.hid hy
      have HZ := Lib.hid hz
      obtain ⟨ya, yn⟩ := y
      obtain ⟨za, zn⟩ := z
      dsimp only at c0 c1 d0 d1 HYO HZO
      have HC := Lib.hid (show ∀ U : World, Below w.heap.size w U → U.cell? ⟨b, off + J * 2, none⟩ = some (.int .u32 za) ∧ U.cell? ⟨b, off + J * 2 + 1, none⟩ = some (.int .i64 zn) from fun U hU => ⟨kept hU d0, kept hU d1⟩)
      have HO3 := Lib.hid (HO2.out.below (W' := wr.drew) (Below.refl _ _).drew)
      have C0 : wr.drew.cell? ⟨b, off + k * 2, none⟩ = some (.int .u32 ya) := kept HO3.out.bel c0
      have C1 : wr.drew.cell? ⟨b, off + k * 2 + 1, none⟩ = some (.int .i64 yn) := kept HO3.out.bel c1
      have HX := Lib.hid (show n1 < 100 ∧ Z < 100 ∧ D < 100 ∧ J < n by omega)
      clear hc hy hz c0 c1 d0 d1 hD hZ hn1 hJ
      go_wp2_with fail
      go_still_tail 10, (by kernel_rfl)
      change wpList _ _ _ _ _ wr.drew
      obtain ⟨U, hU⟩ : ∃ U, wr.drew = U := ⟨_, rfl⟩
      rw [hU] at HO3 C0 C1 ⊢
      clear hU
      have HS := Lib.hid (set_any_int U w.heap.size t w.heap.size N L ya yn yn HO3.out.tr1 HO3.out.bel.size HYO.out.1 (by have := HYO.out.2; omega) (by omega))
      go_wp2_with fail
      refine HS.out.mono ?_
      rintro e w4 ⟨ee, N', g, rfl, hr⟩
      have HO4 := Lib.hid (HO3.out.turn1 hr (HO3.out.b1.step HO3.out.tr1.tl HYO.out.1 (by have := HYO.out.2; omega) g))
      have HLE := Lib.hid (setT_le HO3.out.tr1.tl ya yn (.int .i64 yn) g)
      clear hr C0 C1 HO3 HO2 HS
      obtain ⟨D0, D1⟩ := HC.out w4.drew (HO4.out.bel.trans ((Below.refl _ _).drew.mono HO4.out.bel.size))
      have HO5 := Lib.hid (HO4.out.below (W' := w4.drew) (Below.refl _ _).drew)
      go_wp2_with fail
      go_still_tail 18, (by kernel_rfl)
      change wpList _ _ _ _ _ w4.drew
      obtain ⟨U2, hU2⟩ : ∃ U, w4.drew = U := ⟨_, rfl⟩
      rw [hU2] at HO5 D0 D1 ⊢
      clear hU2
      have HS := Lib.hid (set_any_int U2 w.heap.size u (w.heap.size + 2) M K za zn zn HO5.out.tr2 HO5.out.bel.size HZO.out.1 (by have := HZO.out.2; omega) (by omega))
      go_wp2_with fail
      refine HS.out.mono ?_
      rintro e w5 ⟨ee2, M', g2, rfl, hr⟩
      have HO6 := Lib.hid (HO5.out.turn2 hr (HO5.out.b2.step HO5.out.tr2.tl HZO.out.1 (by have := HZO.out.2; omega) g2))
      have HLE2 := Lib.hid (setT_le HO5.out.tr2.tl za zn (.int .i64 zn) g2)
      clear hr D0 D1 HO4 HO5 HS
      go_wp2_with fail
      go_roundw
      case rel =>
        refine ⟨k + 1, N', M', _, _, by go_num, by omega, by have := HLE.out; omega, by have := HLE2.out; omega, ⟨HO6.out.tr1, HO6.out.tr2, HO6.out.dis, HO6.out.b1.congr fun p => ?_, HO6.out.b2.congr fun p => ?_, HO6.out.bel⟩⟩
        · constructor
          · rintro (⟨i, hi, h⟩ | rfl)
            · exact ⟨i, by omega, h⟩
            · exact ⟨k, by omega, HY.out⟩
          · rintro ⟨i, hi, h⟩
            rcases Nat.lt_succ_iff_lt_or_eq.1 hi with h1 | rfl
            · exact .inl ⟨i, h1, h⟩
            · exact .inr (Option.some.inj (h.symm.trans HY.out))
        · constructor
          · rintro (⟨i, hi, h⟩ | rfl)
            · exact ⟨i, by omega, h⟩
            · exact ⟨k, by omega, by rw [HJE.out]; exact HZ.out⟩
          · rintro ⟨i, hi, h⟩
            rcases Nat.lt_succ_iff_lt_or_eq.1 hi with h1 | rfl
            · exact .inl ⟨i, h1, h⟩
            · rw [HJE.out] at h
              exact .inr (Option.some.inj (h.symm.trans HZ.out))
      case measure => simp [intOf]; omega
    · obtain rfl : k = n := by omega
      have HAL := Lib.hid (HO2.out.b1.alike HO2.out.b2 fun p => by
        constructor
        · rintro ⟨i, hi, h⟩
          obtain ⟨j, hj, e⟩ := turn_hits (c := T) hi
          exact ⟨j, hj, by rw [e]; exact h⟩
        · rintro ⟨i, hi, h⟩
          exact ⟨k - 1 - (i + T % k) % k, by have := HNP.out; omega, h⟩)
      have HLK := Lib.hid (Alike.keys HO2.out.tr1.tl HO2.out.tr2.tl HAL.out)
      have HLN := Lib.hid (show L.length ≤ 1000000 ∧ K.length ≤ 1000000 from by omega)
      have HLG1 := Lib.hid (longest_int wr w.heap.size t w.heap.size _ N L HO2.out.tr1 (fun e he => ⟨_, HO2.out.b1.val e he⟩) a a0 a1)
      have hcs := core_same (HAL.out.lng a 33) (.int .i64 0)
      obtain ⟨xv, hxv⟩ : ∃ xv, lV (.int .i64 0) (lngTo L a 33) = .int .i64 xv := by
        rcases hq : lngTo L a 33 with _ | e
        · exact ⟨0, rfl⟩
        · obtain ⟨d, _, hd⟩ := lngTo_some hq
          exact ⟨e.n, HO2.out.b1.val e (atT_some hd).1⟩
      obtain ⟨pa, pn, hpp⟩ : ∃ pa pn : Int, lP (lngTo L a 33) = [.int .u32 pa, .int .i64 pn] := by cases lngTo L a 33 <;> exact ⟨_, _, rfl⟩
      obtain ⟨bb, hbb⟩ : ∃ bb, (lngTo L a 33).isSome = bb := ⟨_, rfl⟩
      rw [hxv, hpp, hbb] at HLG1
      have HCS := Lib.hid (show lP (lngTo K a 33) = [.int .u32 pa, .int .i64 pn] ∧ lV (.int .i64 0) (lngTo K a 33) = .int .i64 xv ∧ (lngTo K a 33).isSome = bb from ⟨by rw [← hcs.1, hpp], by rw [← hcs.2.1, hxv], by rw [← hcs.2.2, hbb]⟩)
      clear hcs hxv hpp hbb
      go_wp2_with fail
      refine HLG1.out.mono ?_
      rintro e w4 ⟨rfl, hb⟩
      have hb2 : Below wr.heap.size wr (w4.alloc (.cells #[.int .u32 pa, .int .i64 pn] 32)) := hb.alloc hb.size _
      have hP := Blk.new w4 32 [.int .u32 pa, .int .i64 pn]
      obtain ⟨V4, hV4⟩ : ∃ V, w4.alloc (.cells #[.int .u32 pa, .int .i64 pn] 32) = V := ⟨_, rfl⟩
      obtain ⟨P, hPP⟩ : ∃ P, w4.heap.size = P := ⟨_, rfl⟩
      have hP : Blk V4 P 32 [.int .u32 pa, .int .i64 pn] := hPP ▸ hV4 ▸ hP
      rw [hV4] at hb2
      have HO4 := Lib.hid (HO2.out.below hb2)
      have HPB := Lib.hid hP
      have HV4 := Lib.hid hV4
      have HPP := Lib.hid hPP
      clear hb hb2 hP hV4 hPP
      have HLG2 := Lib.hid (longest_int V4 w.heap.size u (w.heap.size + 2) _ M K HO4.out.tr2 (fun e he => ⟨_, HO4.out.b2.val e he⟩) a a0 a1)
      rw [HCS.out.1, HCS.out.2.1, HCS.out.2.2] at HLG2
      go_wp2_with fail
      rw [HV4.out, HPP.out]
      refine HLG2.out.mono ?_
      rintro e w5 ⟨rfl, hb⟩
      have hb2 : Below V4.heap.size V4 (w5.alloc (.cells #[.int .u32 pa, .int .i64 pn] 32)) := hb.alloc hb.size _
      have hQ := Blk.new w5 32 [.int .u32 pa, .int .i64 pn]
      obtain ⟨V5, hV5⟩ : ∃ V, w5.alloc (.cells #[.int .u32 pa, .int .i64 pn] 32) = V := ⟨_, rfl⟩
      obtain ⟨Q, hQQ⟩ : ∃ Q, w5.heap.size = Q := ⟨_, rfl⟩
      have hQ : Blk V5 Q 32 [.int .u32 pa, .int .i64 pn] := hQQ ▸ hV5 ▸ hQ
      rw [hV5] at hb2
      have HO5 := Lib.hid (HO4.out.below hb2)
      have HPB5 := Lib.hid (HPB.out.next hb2)
      have HQB := Lib.hid hQ
      have HV5 := Lib.hid hV5
      have HQQ := Lib.hid hQQ
      clear hb hb2 hQ hV5 hQQ
      have HPR := Lib.hid (prefixes_int V5 w.heap.size t w.heap.size _ N L HO5.out.tr1 HLN.out.1)
      go_wp2_with fail
      rw [HV5.out, HQQ.out]
      refine HPR.out.mono ?_
      rintro e w6 ⟨ks, kq, kc, hks, rfl, hrow, hb⟩
      have HO6 := Lib.hid (HO5.out.below hb)
      have HPB6 := Lib.hid (HPB5.out.next hb)
      have HQB6 := Lib.hid (HQB.out.next hb)
      have HKS := Lib.hid (show PAt w6 kq ks ∧ ks = L.map tkey from ⟨pat_row hrow rfl, hks⟩)
      clear hb hrow hks
      have HPR2 := Lib.hid (prefixes_int w6 w.heap.size u (w.heap.size + 2) _ M K HO6.out.tr2 HLN.out.2)
      go_wp2_with fail
      refine HPR2.out.mono ?_
      rintro e w7 ⟨ms, mq, mc, hms, rfl, hrow, hb⟩
      have hkm : ks = ms := by rw [HKS.out.2, hms]; exact map_tkey HLK.out
      have HKA := Lib.hid (HKS.out.1.below hb)
      have HMA := Lib.hid (pat_row hrow rfl)
      have hle : ks.length ≤ 1000000 := by rw [HKS.out.2, List.length_map]; exact HLN.out.1
      subst hkm
      have HO7 := Lib.hid (HO6.out.below hb)
      have HPB7 := Lib.hid (HPB6.out.next hb)
      have HQB7 := Lib.hid (HQB6.out.next hb)
      clear hb hrow hms
      have HSM := Lib.hid (same_any w7 kq mq ks ks ks.length ks.length kc mc HKA.out HMA.out rfl rfl hle hle)
      rw [show sameB ks ks = true by unfold sameB; simp] at HSM
      obtain ⟨kl, hkl⟩ : ∃ kl, ks.length = kl := ⟨_, rfl⟩
      rw [hkl] at HSM ⊢
      clear hle hkl
      go_wp2_with fail
      refine HSM.out.mono ?_
      rintro e w8 ⟨rfl, hb⟩
      have HO8 := Lib.hid (HO7.out.below hb)
      have HPB8 := Lib.hid (HPB7.out.next hb)
      have HQB8 := Lib.hid (HQB7.out.next hb)
      have x0 : w8.cell? ⟨P, 0, none⟩ = some (.int .u32 pa) := HPB8.out.cell 0 (by simp)
      have x1 : w8.cell? ⟨P, 1, none⟩ = some (.int .i64 pn) := HPB8.out.cell 1 (by simp)
      have y0 : w8.cell? ⟨Q, 0, none⟩ = some (.int .u32 pa) := HQB8.out.cell 0 (by simp)
      have y1 : w8.cell? ⟨Q, 1, none⟩ = some (.int .i64 pn) := HQB8.out.cell 1 (by simp)
      have hE := fun (U : World) => pfx_eql pa pn pa pn U
      rw [show (pa == pa && pn == pn) = true from by simp] at hE
      have hEG := fun (op : BinOp) (x y : Operand) (xs ys : Array Value) (U : World) => pfx_eqGuard op x y xs ys U
      have HLN1 := Lib.hid (len_int w8 t _ (HO8.out.tr1.tb.cell 1 (by simp)))
      have HLN2 := Lib.hid (len_int w8 u _ (HO8.out.tr2.tb.cell 1 (by simp)))
      have hlk : L.length = K.length := by have := congrArg List.length HLK.out; simpa using this
      rw [← hlk] at HLN2
      obtain ⟨sz, hsz⟩ : ∃ sz : Int, (L.length : Int) = sz := ⟨_, rfl⟩
      rw [hsz] at HLN1 HLN2
      clear hb hlk hsz
      go_wp2_with fail
      refine HLN1.out.mono ?_
      rintro e w9 ⟨rfl, rfl⟩
      go_wp2_with fail
      refine HLN2.out.mono ?_
      rintro e w10 ⟨rfl, rfl⟩
      go_wp2_with fail
      go_ret
      exact ⟨rfl, HO8.out.bel⟩
end Go.Proofs.Ytpamkckhhffgdaa
