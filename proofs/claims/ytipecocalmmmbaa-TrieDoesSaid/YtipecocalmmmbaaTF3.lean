/- trie: TrieDoes's walk. -/
import Derived.Test.YtipecocalmmmbaaTF2
import Derived.Test.YtipecocalmmmbaaTJ
import Derived.Test.YtipecocalmmmbaaTGb
import Derived.Test.YtipecocalmmmbaaCdZ
namespace Go.Proofs.Ytipecocalmmmbaa
open Go.RowKit
set_option linter.unusedVariables false
set_option linter.unusedSimpArgs false

theorem ne_op : 34 ≠ TRi ∧ 34 ≠ NDi ∧ 34 ≠ RTy := by decide
theorem Blk.turnT {w W W' : World} {t r x Q : Nat} {N N' : Int → Nat → Option Nat} {L L' : List TE} {l : List O3} {vs : List Value} (hq : Blk W Q 34 vs) (h : GS w W t r x N L l) (hr : SetR TRi NDi THi W W' w.heap.size t r N L N' L') : Blk W' Q 34 vs :=
  hq.of_same (hr.turn.block _ hq.lt (fun hk => by
    rcases hk with rfl | ⟨y, d, hk⟩
    · exact ne_op.1 (hq.type h.tr.tb)
    · exact ne_op.2.1 (hq.type (h.tr.node _ _ _ hk))))
theorem Blk.turnX {w W W' : World} {t r x Q : Nat} {N : Int → Nat → Option Nat} {L : List TE} {l : List O3} {vs : List Value} (hq : Blk W Q 34 vs) (h : GS w W t r x N L l) (ht : Turns (fun k => k = x) W W') : Blk W' Q 34 vs :=
  hq.of_same (ht.block _ hq.lt (fun e => by
    subst e
    obtain ⟨B, q, n, c, hb, ho⟩ := h.rf.is
    exact ne_op.2.2 (hq.type hb)))
theorem Blk.opt {W : World} {Q : Nat} {yk ya yn yx : Int} (h : Blk W Q 34 [.int .i64 yk, .int .u32 ya, .int .i64 yn, .int .i64 yx]) : W.cell? ⟨Q, 0, none⟩ = some (.int .i64 yk) ∧ W.cell? ⟨Q, 1, none⟩ = some (.int .u32 ya) ∧ W.cell? ⟨Q, 2, none⟩ = some (.int .i64 yn) ∧ W.cell? ⟨Q, 3, none⟩ = some (.int .i64 yx) := ⟨h.cell 0 (by simp), h.cell 1 (by simp), h.cell 2 (by simp), h.cell 3 (by simp)⟩
set_option maxRecDepth 100000 in
set_option maxHeartbeats 16000000 in
theorem does_walk (w : World) (x : Option Addr × List Opt × Nat) (hp : OptsAt w x.1 x.2.1) (hok : ∀ m ∈ x.2.1, 0 ≤ m.a ∧ m.a ≤ 4294967295) (a : Int) (a0 : 0 ≤ a) (a1 : a ≤ 4294967295) :
    Calls Try.prog 3 #[.slice x.1 x.2.1.length x.2.2, .int .u32 a] w fun e w' => e = .returned (.bool true) ∧ Below w.heap.size w w' := by
  obtain ⟨q, ps, c⟩ := x
  dsimp only at hp hok ⊢
  have a1 : a < 4294967296 := by omega
  obtain ⟨n, hn⟩ : ∃ n, ps.length = n := ⟨_, rfl⟩
  rw [hn]
  have HPS := Lib.hid hp
  have HOK := Lib.hid hok
  have HN := Lib.hid hn
  clear hp hok hn
  have HNEW := Lib.hid (new_int w)
  have ho := GS.new w
  obtain ⟨V, hV⟩ : ∃ V, (w.alloc (.cells #[.pointer none, .pointer none, .pointer none] NDi)).alloc (.cells #[.pointer (some ⟨w.heap.size, 0, none⟩), .int .i64 0] TRi) = V := ⟨_, rfl⟩
  have hs : V.heap.size = w.heap.size + 2 := by rw [← hV, sz_alloc, sz_alloc]
  rw [hV] at ho HNEW
  obtain ⟨t, ht⟩ : ∃ t, w.heap.size + 1 = t := ⟨_, rfl⟩
  obtain ⟨u, hu⟩ : ∃ u, w.heap.size + 2 = u := ⟨_, rfl⟩
  rw [ht, hu] at ho
  rw [ht] at HNEW
  rw [hu] at hs
  obtain ⟨V2, hV2⟩ : ∃ V2, V.alloc (.cells #[.slice none 0 0] RTy) = V2 := ⟨_, rfl⟩
  rw [hV2] at ho
  have HO := Lib.hid ho
  have HV2 := Lib.hid hV2
  have HSV := Lib.hid hs
  clear hs ho hV hV2 ht hu
  go_enter Try.func3, Try.ntmps3
  go_wp2_with fail
  refine HNEW.out.mono ?_
  rintro e w1 ⟨rfl, rfl⟩
  go_wp2_with fail
  rw [HV2.out, HSV.out]
  refine (lives_any _).mono ?_
  rintro e w3 ⟨rfl, hb⟩
  have HO1 := Lib.hid (HO.out.below hb)
  clear hb
  go_wp2_with fail
  go_loopw [7] (fun v wr => ∃ (k : Nat) (N : Int → Nat → Option Nat) (L : List TE), v = .int .i64 k ∧ k ≤ n ∧ k ≤ 150 ∧ L.length ≤ k ∧ Ints L ∧ GS w wr t w.heap.size u N L (L.map o3)) (fun v _ => 150 - (intOf v).toNat)
  case atStart => exact ⟨0, _, [], rfl, Nat.zero_le _, Nat.zero_le _, Nat.le_refl _, (fun e h => by cases h), HO1.out⟩
  case round =>
    obtain ⟨k, N, L, rfl, hk, hk150, hL, hI, hO⟩ := hrel
    have HO2 := Lib.hid hO
    have HLL := Lib.hid hL
    have HI := Lib.hid hI
    clear hO hI hL
    by_cases hlt : k < n
    · have hlt' : (k : Int) < (n : Int) := by omega
      have k0 : (0 : Int) ≤ (k : Int) := by omega
      by_cases hlt1 : k < 150
      · have hlt2 : (k : Int) < 150 := by omega
        obtain ⟨y, hy⟩ : ∃ y, ps[k]? = some y := ⟨_, List.getElem?_eq_getElem (by rw [HN.out]; exact hlt)⟩
        rcases HPS.out with h | ⟨b, off, rfl, hc⟩
        · have := HN.out; rw [h] at this; simp at this; omega
        obtain ⟨c0, c1, c2, c3⟩ := hc k y hy
        have HYO := Lib.hid (HOK.out y (List.mem_of_getElem? hy))
        obtain ⟨yk, ya, yn, yx⟩ := y
        dsimp only at c0 c1 c2 c3 HYO
        have HCY := Lib.hid (show ∀ U : World, Below w.heap.size w U → U.cell? ⟨b, off + k * 4, none⟩ = some (.int .i64 yk) ∧ U.cell? ⟨b, off + k * 4 + 1, none⟩ = some (.int .u32 ya) ∧ U.cell? ⟨b, off + k * 4 + 2, none⟩ = some (.int .i64 yn) ∧ U.cell? ⟨b, off + k * 4 + 3, none⟩ = some (.int .i64 yx) from fun U hU => ⟨kept hU c0, kept hU c1, kept hU c2, kept hU c3⟩)
        obtain ⟨C0, C1, C2, C3⟩ := HCY.out wr HO2.out.bel
        clear hc hy c0 c1 c2 c3
        have hQ := Blk.new wr 34 [.int .i64 yk, .int .u32 ya, .int .i64 yn, .int .i64 yx]
        have hb1 : Below wr.heap.size wr (wr.alloc (.cells #[.int .i64 yk, .int .u32 ya, .int .i64 yn, .int .i64 yx] 34)) := newB _ _
        obtain ⟨V1, hV1⟩ : ∃ V, wr.alloc (.cells #[.int .i64 yk, .int .u32 ya, .int .i64 yn, .int .i64 yx] 34) = V := ⟨_, rfl⟩
        obtain ⟨Q, hQE⟩ : ∃ Q, wr.heap.size = Q := ⟨_, rfl⟩
        have hQ : Blk V1 Q 34 [.int .i64 yk, .int .u32 ya, .int .i64 yn, .int .i64 yx] := hQE ▸ hV1 ▸ hQ
        rw [hV1] at hb1
        have HO1 := Lib.hid (HO2.out.below hb1)
        have HOd := Lib.hid (HO2.out.below (hb1.drew))
        have HQ1 := Lib.hid hQ
        have HQd := Lib.hid hQ.drew
        have HV1 := Lib.hid hV1
        have HQE := Lib.hid hQE
        have hSd := HQd.out.opt
        clear hQ hb1 hV1 hQE
        by_cases hk1 : yk = 1
        · subst hk1
          rcases hok : okP ya yn with _ | _
          · have HS := set_full_int V1.drew w.heap.size t w.heap.size N L ya yn yx HOd.out.tr HOd.out.bel.size HYO.out.1 (by have := HYO.out.2; omega) (by have := HLL.out; omega)
            rw [hok] at HS
            have HS := Lib.hid HS
            have HOKB := Lib.hid hok
            clear hok
            go_wp2_with fail
            rw [HV1.out, HQE.out]
            go_region_held_law (fun w' => w'.cell? ⟨Q, 0, none⟩ = some (.int .i64 1) ∧ w'.cell? ⟨Q, 1, none⟩ = some (.int .u32 ya) ∧ w'.cell? ⟨Q, 2, none⟩ = some (.int .i64 yn) ∧ w'.cell? ⟨Q, 3, none⟩ = some (.int .i64 yx)) (with_reducible assumption) (first
              | (go_at_call 10; refine HS.out.mono ?_; rintro e w4 ⟨N', g, rfl, hr⟩; have HQ4 := Lib.hid (HQd.out.turnT HOd.out hr); have HO4 := Lib.hid (HOd.out.turnT hr); have HLE := Lib.hid (setT_le HOd.out.tr.tl ya yn (.int .i64 yx) g); have HI4 := Lib.hid (ints_set HI.out ya yn yx g); have hS4 := HQ4.out.opt; clear hr)
              | (go_at_call 11; refine (rset_any w4 u (L.map o3) ya yn yx HYO.out.1 (by have := HYO.out.2; omega) HO4.out.rf (by rw [List.length_map]; have := HLL.out; omega)).mono ?_; rintro e w5 ⟨he, hrf, htu⟩; rw [HOKB.out] at he; subst he; have HQ5 := Lib.hid (HQ4.out.turnX HO4.out htu); have HO5 := Lib.hid (HO4.out.turnX (l' := (setT L ya yn (.int .i64 yx) g).map o3) (by rw [← setO_o3 HOd.out.tr.tl]; exact hrf) htu); have hS5 := HQ5.out.opt; clear hrf htu))
            clear hSd hS4 hS5
            have HL5 := Lib.hid (show (setT L ya yn (.int .i64 yx) g).length ≤ k + 1 by have := HLE.out; have := HLL.out; omega)
            have HA1 := Lib.hid (alike_any w w5 t w.heap.size u _ _ HO5.out HI4.out (by have := HL5.out; omega) ya yn a HYO.out.1 (by have := HYO.out.2; omega) a0 a1)
            have HA2 := Lib.hid (show ∀ U : World, Below w5.heap.size w5 U → Calls Try.prog 14 #[.pointer (some ⟨t, 0, none⟩), .pointer (some ⟨u, 0, none⟩), .agg #[.int .u32 ya, .int .i64 yn], .int .u32 ya] U fun e w' => e = .returned (.bool true) ∧ Below U.heap.size U w' from fun U hU => alike_any w U t w.heap.size u _ _ (HO5.out.below hU) HI4.out (by have := HL5.out; omega) ya yn ya HYO.out.1 (by have := HYO.out.2; omega) HYO.out.1 (by have := HYO.out.2; omega))
            obtain ⟨d0, d1, d2, d3⟩ := HQ5.out.opt
            go_wp2_with fail
            refine HA1.out.mono ?_
            rintro e w8 ⟨rfl, b8⟩
            obtain ⟨g0, g1, g2, g3⟩ := (HQ5.out.next b8).opt
            have HB8 := Lib.hid b8
            clear d0 d1 d2 d3 b8
            go_wp2_with fail
            refine (HA2.out w8 HB8.out).mono ?_
            rintro e w9 ⟨rfl, b9⟩
            have HB9 := Lib.hid (HB8.out.trans (b9.mono HB8.out.size))
            clear g0 g1 g2 g3 b9
            go_wp2_with fail
            go_roundw
            case rel => exact ⟨k + 1, _, _, by go_num, by omega, by omega, HL5.out, HI4.out, HO5.out.below HB9.out⟩
            case measure => simp [intOf]; omega
          · have HS := set_full_int V1.drew w.heap.size t w.heap.size N L ya yn yx HOd.out.tr HOd.out.bel.size HYO.out.1 (by have := HYO.out.2; omega) (by have := HLL.out; omega)
            rw [hok] at HS
            have HS := Lib.hid HS
            have HOKB := Lib.hid hok
            clear hok
            go_wp2_with fail
            rw [HV1.out, HQE.out]
            go_region_held_law (fun w' => w'.cell? ⟨Q, 0, none⟩ = some (.int .i64 1) ∧ w'.cell? ⟨Q, 1, none⟩ = some (.int .u32 ya) ∧ w'.cell? ⟨Q, 2, none⟩ = some (.int .i64 yn) ∧ w'.cell? ⟨Q, 3, none⟩ = some (.int .i64 yx)) (with_reducible assumption) (first
              | (go_at_call 10; refine HS.out.mono ?_; rintro e w4 ⟨N', g, rfl, hr⟩; have HQ4 := Lib.hid (HQd.out.turnT HOd.out hr); have HO4 := Lib.hid (HOd.out.turnT hr); have HLE := Lib.hid (setT_le HOd.out.tr.tl ya yn (.int .i64 yx) g); have HI4 := Lib.hid (ints_set HI.out ya yn yx g); have hS4 := HQ4.out.opt; clear hr)
              | (go_at_call 11; refine (rset_any w4 u (L.map o3) ya yn yx HYO.out.1 (by have := HYO.out.2; omega) HO4.out.rf (by rw [List.length_map]; have := HLL.out; omega)).mono ?_; rintro e w5 ⟨he, hrf, htu⟩; rw [HOKB.out] at he; subst he; have HQ5 := Lib.hid (HQ4.out.turnX HO4.out htu); have HO5 := Lib.hid (HO4.out.turnX (l' := (setT L ya yn (.int .i64 yx) g).map o3) (by rw [← setO_o3 HOd.out.tr.tl]; exact hrf) htu); have hS5 := HQ5.out.opt; clear hrf htu))
            clear hSd hS4 hS5
            have HL5 := Lib.hid (show (setT L ya yn (.int .i64 yx) g).length ≤ k + 1 by have := HLE.out; have := HLL.out; omega)
            have HA1 := Lib.hid (alike_any w w5 t w.heap.size u _ _ HO5.out HI4.out (by have := HL5.out; omega) ya yn a HYO.out.1 (by have := HYO.out.2; omega) a0 a1)
            have HA2 := Lib.hid (show ∀ U : World, Below w5.heap.size w5 U → Calls Try.prog 14 #[.pointer (some ⟨t, 0, none⟩), .pointer (some ⟨u, 0, none⟩), .agg #[.int .u32 ya, .int .i64 yn], .int .u32 ya] U fun e w' => e = .returned (.bool true) ∧ Below U.heap.size U w' from fun U hU => alike_any w U t w.heap.size u _ _ (HO5.out.below hU) HI4.out (by have := HL5.out; omega) ya yn ya HYO.out.1 (by have := HYO.out.2; omega) HYO.out.1 (by have := HYO.out.2; omega))
            obtain ⟨d0, d1, d2, d3⟩ := HQ5.out.opt
            go_wp2_with fail
            refine HA1.out.mono ?_
            rintro e w8 ⟨rfl, b8⟩
            obtain ⟨g0, g1, g2, g3⟩ := (HQ5.out.next b8).opt
            have HB8 := Lib.hid b8
            clear d0 d1 d2 d3 b8
            go_wp2_with fail
            refine (HA2.out w8 HB8.out).mono ?_
            rintro e w9 ⟨rfl, b9⟩
            have HB9 := Lib.hid (HB8.out.trans (b9.mono HB8.out.size))
            clear g0 g1 g2 g3 b9
            go_wp2_with fail
            go_roundw
            case rel => exact ⟨k + 1, _, _, by go_num, by omega, by omega, HL5.out, HI4.out, HO5.out.below HB9.out⟩
            case measure => simp [intOf]; omega
        by_cases hk2 : yk = 2
        · subst hk2
          obtain ⟨fb, hfb⟩ : ∃ fb, fB (L.map o3) ya yn = fb := ⟨_, rfl⟩
          have HS := delete_int V1.drew w.heap.size t w.heap.size N L ya yn HOd.out.tr HYO.out.1 (by have := HYO.out.2; omega) (by have := HLL.out; omega)
          rw [← fB_o3 HOd.out.tr.tl, hfb] at HS
          have HS := Lib.hid HS
          have HFB := Lib.hid hfb
          clear hfb
          go_wp2_with fail
          rw [HV1.out, HQE.out]
          go_region_held_law (fun w' => w'.cell? ⟨Q, 0, none⟩ = some (.int .i64 2) ∧ w'.cell? ⟨Q, 1, none⟩ = some (.int .u32 ya) ∧ w'.cell? ⟨Q, 2, none⟩ = some (.int .i64 yn) ∧ w'.cell? ⟨Q, 3, none⟩ = some (.int .i64 yx)) (with_reducible assumption) (first
            | (go_at_call 12; refine HS.out.mono ?_; rintro e w4 ⟨N', rfl, hr⟩; have HQ4 := Lib.hid (HQd.out.turnT HOd.out hr); have HO4 := Lib.hid (HOd.out.turnT hr); have HI4 := Lib.hid (ints_del HI.out ya yn); have hS4 := HQ4.out.opt; clear hr)
            | (go_at_call 13; refine (rdel_any w4 u (L.map o3) ya yn HO4.out.rf (by rw [List.length_map]; have := HLL.out; omega)).mono ?_; rintro e w5 ⟨he, hrf, htu⟩; rw [HFB.out] at he; subst he; have HQ5 := Lib.hid (HQ4.out.turnX HO4.out htu); have HO5 := Lib.hid (HO4.out.turnX (l' := (delT L ya yn).map o3) (by rw [← delO_o3 HOd.out.tr.tl]; exact hrf) htu); have hS5 := HQ5.out.opt; clear hrf htu))
          clear hSd hS4 hS5
          have HL5 := Lib.hid (show (delT L ya yn).length ≤ k + 1 by have := del_le HOd.out.tr.tl ya yn; have := HLL.out; omega)
          have HA1 := Lib.hid (alike_any w w5 t w.heap.size u _ _ HO5.out HI4.out (by have := HL5.out; omega) ya yn a HYO.out.1 (by have := HYO.out.2; omega) a0 a1)
          have HA2 := Lib.hid (show ∀ U : World, Below w5.heap.size w5 U → Calls Try.prog 14 #[.pointer (some ⟨t, 0, none⟩), .pointer (some ⟨u, 0, none⟩), .agg #[.int .u32 ya, .int .i64 yn], .int .u32 ya] U fun e w' => e = .returned (.bool true) ∧ Below U.heap.size U w' from fun U hU => alike_any w U t w.heap.size u _ _ (HO5.out.below hU) HI4.out (by have := HL5.out; omega) ya yn ya HYO.out.1 (by have := HYO.out.2; omega) HYO.out.1 (by have := HYO.out.2; omega))
          obtain ⟨d0, d1, d2, d3⟩ := HQ5.out.opt
          go_wp2_with fail
          refine HA1.out.mono ?_
          rintro e w8 ⟨rfl, b8⟩
          obtain ⟨g0, g1, g2, g3⟩ := (HQ5.out.next b8).opt
          have HB8 := Lib.hid b8
          clear d0 d1 d2 d3 b8
          go_wp2_with fail
          refine (HA2.out w8 HB8.out).mono ?_
          rintro e w9 ⟨rfl, b9⟩
          have HB9 := Lib.hid (HB8.out.trans (b9.mono HB8.out.size))
          clear g0 g1 g2 g3 b9
          go_wp2_with fail
          go_roundw
          case rel => exact ⟨k + 1, _, _, by go_num, by omega, by omega, HL5.out, HI4.out, HO5.out.below HB9.out⟩
          case measure => simp [intOf]; omega
        have hk3 : (yk == 1) = false := by simpa using hk1
        have hk4 : (yk == 2) = false := by simpa using hk2
        have HL1 := Lib.hid (show L.length ≤ k + 1 by have := HLL.out; omega)
        have HA1 := Lib.hid (alike_any w V1 t w.heap.size u _ _ HO1.out HI.out (by have := HL1.out; omega) ya yn a HYO.out.1 (by have := HYO.out.2; omega) a0 a1)
        have HA2 := Lib.hid (show ∀ U : World, Below V1.heap.size V1 U → Calls Try.prog 14 #[.pointer (some ⟨t, 0, none⟩), .pointer (some ⟨u, 0, none⟩), .agg #[.int .u32 ya, .int .i64 yn], .int .u32 ya] U fun e w' => e = .returned (.bool true) ∧ Below U.heap.size U w' from fun U hU => alike_any w U t w.heap.size u _ _ (HO1.out.below hU) HI.out (by have := HL1.out; omega) ya yn ya HYO.out.1 (by have := HYO.out.2; omega) HYO.out.1 (by have := HYO.out.2; omega))
        obtain ⟨d0, d1, d2, d3⟩ := HQ1.out.opt
        go_wp2_with fail
        rw [HV1.out, HQE.out]
        refine HA1.out.mono ?_
        rintro e w8 ⟨rfl, b8⟩
        obtain ⟨g0, g1, g2, g3⟩ := (HQ1.out.next b8).opt
        have HB8 := Lib.hid b8
        clear d0 d1 d2 d3 b8
        go_wp2_with fail
        refine (HA2.out w8 HB8.out).mono ?_
        rintro e w9 ⟨rfl, b9⟩
        have HB9 := Lib.hid (HB8.out.trans (b9.mono HB8.out.size))
        clear g0 g1 g2 g3 b9
        go_wp2_with fail
        go_roundw
        case rel => exact ⟨k + 1, _, _, by go_num, by omega, by omega, HL1.out, HI.out, HO1.out.below HB9.out⟩
        case measure => simp [intOf]; omega
      · obtain rfl : k = 150 := by omega
        have HL150 := Lib.hid (show L.length ≤ 150 by have := HLL.out; omega)
        have HPR := Lib.hid (prefixes_int wr w.heap.size t w.heap.size _ N L HO2.out.tr (by have := HL150.out; omega))
        go_wp2_with fail
        refine HPR.out.mono ?_
        rintro e w4 ⟨ks, kq, kc, hks, rfl, hrow, hb⟩
        have HQ4 := Lib.hid (HO2.out.below hb)
        have HKS := Lib.hid (show PAt w4 kq ks ∧ ks = L.map tkey from ⟨pat_row hrow rfl, hks⟩)
        clear hb hrow hks
        have HRI := Lib.hid (rin_any w4 u (L.map o3) 0 0 (by omega) (by omega) HQ4.out.rf (fun p hp => by
          obtain ⟨e, he, rfl⟩ := List.mem_map.1 hp
          exact ⟨(HQ4.out.tr.tl.ok e he).a0, (HQ4.out.tr.tl.ok e he).a1⟩) (by rw [List.length_map]; have := HL150.out; omega))
        rw [held_all HQ4.out.tr.tl] at HRI
        go_wp2_with fail
        refine HRI.out.mono ?_
        rintro e w5 ⟨z, zq, zc, rfl, hz, hrow, hb⟩
        have HKA := Lib.hid (HKS.out.1.below hb)
        have HMA := Lib.hid (pat_row hrow hz.symm)
        have hle : ks.length ≤ 1000000 := by rw [HKS.out.2, List.length_map]; have := HL150.out; omega
        have hzk : z = ks.length := by rw [hz, HKS.out.2]
        rw [← HKS.out.2] at HMA
        have HQ5 := Lib.hid (HQ4.out.below hb)
        clear hb hrow hz
        subst hzk
        have HSM := Lib.hid (same_any w5 kq zq ks ks ks.length ks.length kc zc HKA.out HMA.out rfl rfl hle hle)
        rw [show sameB ks ks = true by unfold sameB; simp] at HSM
        obtain ⟨kl, hkl⟩ : ∃ kl, ks.length = kl := ⟨_, rfl⟩
        rw [hkl] at HSM ⊢
        clear hle hkl
        go_wp2_with fail
        refine HSM.out.mono ?_
        rintro e w6 ⟨rfl, hb⟩
        have HQ6 := Lib.hid (HQ5.out.below hb)
        clear hb
        go_wp2_with fail
        go_ret
        exact ⟨rfl, HQ6.out.bel⟩
    · obtain rfl : k = n := by omega
      have HL150 := Lib.hid (show L.length ≤ 150 by have := HLL.out; omega)
      have HPR := Lib.hid (prefixes_int wr w.heap.size t w.heap.size _ N L HO2.out.tr (by have := HL150.out; omega))
      go_wp2_with fail
      refine HPR.out.mono ?_
      rintro e w4 ⟨ks, kq, kc, hks, rfl, hrow, hb⟩
      have HQ4 := Lib.hid (HO2.out.below hb)
      have HKS := Lib.hid (show PAt w4 kq ks ∧ ks = L.map tkey from ⟨pat_row hrow rfl, hks⟩)
      clear hb hrow hks
      have HRI := Lib.hid (rin_any w4 u (L.map o3) 0 0 (by omega) (by omega) HQ4.out.rf (fun p hp => by
        obtain ⟨e, he, rfl⟩ := List.mem_map.1 hp
        exact ⟨(HQ4.out.tr.tl.ok e he).a0, (HQ4.out.tr.tl.ok e he).a1⟩) (by rw [List.length_map]; have := HL150.out; omega))
      rw [held_all HQ4.out.tr.tl] at HRI
      go_wp2_with fail
      refine HRI.out.mono ?_
      rintro e w5 ⟨z, zq, zc, rfl, hz, hrow, hb⟩
      have HKA := Lib.hid (HKS.out.1.below hb)
      have HMA := Lib.hid (pat_row hrow hz.symm)
      have hle : ks.length ≤ 1000000 := by rw [HKS.out.2, List.length_map]; have := HL150.out; omega
      have hzk : z = ks.length := by rw [hz, HKS.out.2]
      rw [← HKS.out.2] at HMA
      have HQ5 := Lib.hid (HQ4.out.below hb)
      clear hb hrow hz
      subst hzk
      have HSM := Lib.hid (same_any w5 kq zq ks ks ks.length ks.length kc zc HKA.out HMA.out rfl rfl hle hle)
      rw [show sameB ks ks = true by unfold sameB; simp] at HSM
      obtain ⟨kl, hkl⟩ : ∃ kl, ks.length = kl := ⟨_, rfl⟩
      rw [hkl] at HSM ⊢
      clear hle hkl
      go_wp2_with fail
      refine HSM.out.mono ?_
      rintro e w6 ⟨rfl, hb⟩
      have HQ6 := Lib.hid (HQ5.out.below hb)
      clear hb
      go_wp2_with fail
      go_ret
      exact ⟨rfl, HQ6.out.bel⟩
theorem does_frame (W : World) (x : Option Addr × List Opt × Nat) (g : OptsArg W x) (a : Int) (a0 : 0 ≤ a) (a1 : a ≤ 4294967295) :
    Calls Try.prog 3 #[.slice x.1 x.2.1.length x.2.2, .int .u32 a] W fun e w' => e = .returned (.bool true) ∧ Below W.heap.size W w' :=
  does_walk W x g.at_ (fun m hm => (g.ok m hm).1) a a0 a1
end Go.Proofs.Ytipecocalmmmbaa
