/- best: least. -/
import Derived.Test.YtljbebeaahcjaaaJ7
namespace Go.Proofs.Ytljbebeaahcjaaa
open Go.RowKit Go.Maps
set_option linter.unusedVariables false
set_option linter.unusedSimpArgs false
set_option maxRecDepth 100000

/-- Places as numbers. -/
def plc (B : List Nat) : List Int := B.map fun i : Nat => (i : Int)
theorem plc_get {B : List Nat} {m k : Nat} (hm : B.length = m) (hk : k < m) : (plc B).getD k 0 = ((B.getD k 0 : Nat) : Int) := by unfold plc; simp [List.getD, show k < B.length by omega]
theorem plc_in {B : List Nat} {n : Nat} (h : ∀ i ∈ B, i < n) (hn : n ≤ 1000000) : ∀ x ∈ plc B, InI x := by
  intro x hx
  obtain ⟨i, hi, rfl⟩ := List.mem_map.1 hx
  have := h i hi
  show (Lit.int .i64 i).wf = true
  have h2 : IntKind.i64.min ≤ (i : Int) ∧ (i : Int) ≤ IntKind.i64.max := by
    rw [show IntKind.i64.min = -9223372036854775808 from rfl, show IntKind.i64.max = 9223372036854775807 from rfl]; omega
  simpa [Lit.wf] using h2
/-- The least of the first k, from the first one on. -/
def minF (f : Nat → Int) (B : List Nat) : Nat → Int
  | 0 => f (B.getD 0 0)
  | k + 1 => min (minF f B k) (f (B.getD k 0))
theorem minF_le (f : Nat → Int) (B : List Nat) : ∀ k j, j < k → minF f B k ≤ f (B.getD j 0)
  | 0, j, h => absurd h (Nat.not_lt_zero _)
  | k + 1, j, h => by
    show min (minF f B k) (f (B.getD k 0)) ≤ _
    rcases Nat.lt_succ_iff_lt_or_eq.1 h with h | rfl
    · exact Int.le_trans (Int.min_le_left _ _) (minF_le f B k j h)
    · exact Int.min_le_right _ _
theorem minF_mem (f : Nat → Int) (B : List Nat) (hB : 0 < B.length) : ∀ k, k ≤ B.length → ∃ j, j < B.length ∧ f (B.getD j 0) = minF f B k
  | 0, _ => ⟨0, hB, rfl⟩
  | k + 1, h => by
    obtain ⟨j, hj, e⟩ := minF_mem f B hB k (by omega)
    show ∃ j, _ ∧ _ = min (minF f B k) (f (B.getD k 0))
    by_cases hc : minF f B k ≤ f (B.getD k 0)
    · exact ⟨j, hj, by rw [e, Int.min_eq_left hc]⟩
    · exact ⟨k, by omega, by rw [Int.min_eq_right (by omega)]⟩
theorem least_eq (f : Nat → Int) (B : List Nat) {m : Nat} (hm : B.length = m) (h0 : 0 < m) : (plc B).filter (fun x => !decide (minF f B m < f x.toNat)) = plc (leastV f B) := by
  unfold plc leastV
  rw [List.filter_map]
  congr 1
  refine List.filter_congr fun i hi => ?_
  have e : minF f B m = minK f B := by
    obtain ⟨j, hj, e1⟩ := minF_mem f B (by omega) m (by omega)
    obtain ⟨i, hi, e2⟩ := minK_mem f (l := B) (by intro e; rw [e] at hm; simp at hm; omega)
    have h1 := minK_le f (l := B) (i := B.getD j 0) (by simp [List.getD, hj])
    obtain ⟨q, hq, e3⟩ := List.getElem_of_mem hi
    have h2 := minF_le f B m q (by omega)
    rw [show B.getD q 0 = i by simp [List.getD, hq, e3]] at h2
    omega
  simp only [Function.comp, Int.toNat_natCast, e]
  by_cases h : minK f B < f i
  · rw [decide_eq_true h, decide_eq_false (by omega)]; rfl
  · rw [decide_eq_false h, decide_eq_true (by omega)]; rfl
/-- What least hands back. -/
def LeastR (f : Nat → Int) (B : List Nat) (g N c : Nat) (w w' : World) (e : Ending) : Prop := ∃ m, e = .returned (.slice (some ⟨g, 0, none⟩) m c) ∧ (leastV f B).length = m ∧ AtBk w' g (plc (leastV f B)) N ∧ Turns (fun k => k = g) w w'

set_option maxHeartbeats 8000000 in
theorem least0_any (w : World) (p : Option Addr) (l : List Rv) (n c g : Nat) (B : List Nat) (m cap N : Nat) (HR : ∀ u, Turns (fun k => k = g) w u → Looks u p l n) (hB : ∀ i ∈ B, i < n) (hA : AtBk w g (plc B) N) (hm : B.length = m) (h0 : 0 < m) (hcap : m ≤ cap) (hmx : cap ≤ 9223372036854775807) :
    Calls Try.prog 17 #[.slice p n c, .slice (some ⟨g, 0, none⟩) m cap, (.func (.func 43) #[] #[])] w fun e w' => LeastR (fun i => keyAt 0 l i) B g N cap w w' e := by
  have hU := two_below w (.cells #[.slice p n c] 22) (.cells #[(.func (.func 43) #[] #[])] 48)
  have hP := (Blk.new w 22 [.slice p n c]).alloc (.cells #[(.func (.func 43) #[] #[])] 48)
  have hQ := Blk.new (w.alloc (.cells #[.slice p n c] 22)) 48 [(.func (.func 43) #[] #[])]
  rw [sz_alloc] at hQ
  obtain ⟨U, hUE⟩ : ∃ U, (w.alloc (.cells #[.slice p n c] 22)).alloc (.cells #[(.func (.func 43) #[] #[])] 48) = U := ⟨_, rfl⟩
  change Blk ((w.alloc (.cells #[.slice p n c] 22)).alloc (.cells #[(.func (.func 43) #[] #[])] 48)) _ _ _ at hP
  change Blk ((w.alloc (.cells #[.slice p n c] 22)).alloc (.cells #[(.func (.func 43) #[] #[])] 48)) _ _ _ at hQ
  rw [hUE] at hU hP hQ
  obtain ⟨P, hPE⟩ : ∃ P, w.heap.size = P := ⟨_, rfl⟩
  rw [hPE] at hP
  obtain ⟨Q, hQE⟩ : ∃ Q, P + 1 = Q := ⟨_, rfl⟩
  rw [show w.heap.size + 1 = Q by rw [hPE, hQE]] at hQ
  have HUE := Lib.hid hUE
  have HPE := Lib.hid hPE
  have HQE := Lib.hid hQE
  have HU := Lib.hid hU
  have HP := Lib.hid hP
  have HQ := Lib.hid hQ
  have HGW := Lib.hid hA.lt
  have hAU : AtBk U g (plc B) N := hA.same (hU.block g hA.lt)
  have HA := Lib.hid hAU
  have HB := Lib.hid hB
  have HM := Lib.hid hm
  have hL0 := HR w (.refl _ w)
  have hsm := hL0.small
  have HII := Lib.hid (plc_in hB hsm)
  have HRU := Lib.hid (fun (u : World) (hu : Turns (fun k => k = g) U u) => HR u ((Turns.of_below hU).trans hu))
  obtain ⟨b0, o0, hp0, hc0⟩ := in_cell (hAU.at HII.out) (show (plc B).length = m by unfold plc; rw [List.length_map, hm]) h0
  simp only [Option.some.injEq, Addr.mk.injEq, and_true] at hp0
  obtain ⟨rfl, rfl⟩ := hp0
  have hj0m : B.getD 0 0 < n := hB _ (by simp [List.getD, show 0 < B.length by omega])
  rw [plc_get hm h0] at hc0
  obtain ⟨j0, hj0⟩ : ∃ j0, B.getD 0 0 = j0 := ⟨_, rfl⟩
  rw [hj0] at hc0 hj0m
  have HJ0 := Lib.hid hj0
  have g0 : U.cell? ⟨g, 0, none⟩ = some (.int .i64 (j0 : Int)) := hc0
  have hjI : (j0 : Int) < (n : Int) := by omega
  obtain ⟨b, off, rfl, _⟩ := look0_at w p l n j0 hL0 hj0m
  have HLK := Lib.hid (fun (u : World) (hu : Turns (fun k => k = g) U u) (j : Nat) (hj : j < n) => show Calls Try.prog 43 #[.pointer (some ⟨b, off + j * 10, none⟩)] u fun e w' => e = .returned (.int .i64 (keyAt 0 l j)) ∧ Below u.heap.size u w' from by
    obtain ⟨b', off', hp, hc⟩ := look0_at u (some ⟨b, off, none⟩) l n j (HRU.out u hu) hj
    simp only [Option.some.injEq, Addr.mk.injEq, and_true] at hp
    obtain ⟨rfl, rfl⟩ := hp
    exact hc)
  have HSS := Lib.hid (fun (u : World) (hu : Below U.heap.size U u) => show u.cell? ⟨P, 0, none⟩ = some (.slice (some ⟨b, off, none⟩) n c) ∧ u.cell? ⟨Q, 0, none⟩ = some (.func (.func 43) #[] #[]) ∧ u.cell? ⟨g, 0, none⟩ = some (.int .i64 (j0 : Int)) from ⟨(hP.next hu).cellAt rfl, (hQ.next hu).cellAt rfl, kept hu g0⟩)
  have t0 : decide ((m : Int) = 0) = false := decide_eq_false (by omega)
  have t00 : ((m : Int) == 0) = false := by simp; omega
  clear hU hP hQ hUE hPE hQE hA hAU hB hL0 hc0 hj0 g0
  go_enter Try.func17, Try.ntmps17
  have HTD := Lib.hid (show Turns (fun k => k = g) U U.drew from (Turns.refl _ U).drew)
  have HTA := Lib.hid (show Turns (fun k => k = g) U (U.alloc (.cells #[.int .i64 0] 3)).drew from ((Turns.refl _ U).alloc _).drew)
  have hSD := HSS.out U.drew (Below.refl _ _).drew
  have hSA := HSS.out (U.alloc (.cells #[.int .i64 0] 3)).drew (newB U _).drew
  have HBX := Lib.hid (show Blk (U.alloc (.cells #[.int .i64 0] 3)).drew U.heap.size 3 [.int .i64 0] from (Blk.new U 3 [.int .i64 0]).drew)
  obtain ⟨V, hV⟩ : ∃ V, keyAt 0 l j0 = V := ⟨_, rfl⟩
  have HV := Lib.hid hV
  have HC1 := HLK.out U.drew HTD.out j0 hj0m
  have HC2 := HLK.out (U.alloc (.cells #[.int .i64 0] 3)).drew HTA.out j0 hj0m
  rw [hV] at HC1 HC2
  have HC1 := Lib.hid HC1
  have HC2 := Lib.hid HC2
  clear hV
  go_wp2_with fail
  rw [HUE.out, HPE.out, HQE.out]
  go_region_held_law (fun W => W.cell? ⟨P, 0, none⟩ = some (.slice (some ⟨b, off, none⟩) n c) ∧ W.cell? ⟨Q, 0, none⟩ = some (.func (.func 43) #[] #[]) ∧ W.cell? ⟨g, 0, none⟩ = some (.int .i64 (j0 : Int))) (with_reducible assumption) (first | (go_at_call 43; (with_reducible refine HC1.out.mono ?_); rintro e u ⟨rfl, hu⟩; have HBu := Lib.hid (show Below U.heap.size U u from (Below.refl U.heap.size U).drew.trans hu); have hSu := HSS.out u HBu.out; have hSuA := HSS.out (u.alloc (.cells #[.int .i64 0] 3)) (HBu.out.trans ((newB u _).mono HBu.out.size)); have hSuV := HSS.out (u.alloc (.cells #[.int .i64 V] 3)) (HBu.out.trans ((newB u _).mono HBu.out.size)); clear hu) | (go_at_call 43; (with_reducible refine HC2.out.mono ?_); rintro e u ⟨rfl, hu⟩; have HBu := Lib.hid (show Below U.heap.size U u from (newB U _).drew.trans (hu.mono (newB U _).size)); have HBXu := Lib.hid (HBX.out.next hu); have hSu := HSS.out u HBu.out; have e0 := HBXu.out.cell 0 (by simp); have f0 := HBXu.out.f 0; have hSuV := HSS.out (u.setCell ⟨U.heap.size, 0, none⟩ (.int .i64 V)) (HBu.out.setCell (Nat.le_refl _) _); clear hu))
  · have hD3 : Blk (u.alloc (.cells #[.int .i64 V] 3)) u.heap.size 3 [.int .i64 V] := Blk.new u 3 [.int .i64 V]
    have hB3 : Below U.heap.size U (u.alloc (.cells #[.int .i64 V] 3)) := HBu.out.trans ((newB u _).mono HBu.out.size)
    obtain ⟨D, hDE⟩ : ∃ D, u.heap.size = D := ⟨_, rfl⟩
    have hDU : U.heap.size ≤ D := by rw [← hDE]; exact HBu.out.size
    obtain ⟨W3, hW3⟩ : ∃ W, (u.alloc (.cells #[.int .i64 V] 3)) = W := ⟨_, rfl⟩
    rw [hW3, hDE] at hD3
    rw [hW3] at hB3
    have HW3 := Lib.hid hW3
    have HDE := Lib.hid hDE
    have HDU := Lib.hid hDU
    have HD3 := Lib.hid hD3
    have HB3 := Lib.hid hB3
    clear hD3 hB3 hW3 hDE hDU hSD hSA hSu hSuV hSuA
    rw [HW3.out, HDE.out]
    clear HW3 HDE HBu HC1 HC2 HBX
    go_wp2_with fail
    go_loopw [22] (fun iv wr => ∃ k : Nat, k ≤ m ∧ iv = .int .i64 k ∧ Blk wr D 3 [.int .i64 (minF (fun i => keyAt 0 l i) B k)] ∧ Below U.heap.size U wr) (fun iv _ => m - (intOf iv).toNat)
    case atStart => exact ⟨0, Nat.zero_le _, rfl, by have h := HD3.out; rw [← HV.out, ← HJ0.out] at h; exact h, HB3.out⟩
    case round =>
      obtain ⟨k, hk, rfl, hd, hB4⟩ := hrel
      have HD := Lib.hid hd
      have HB4 := Lib.hid hB4
      clear hd hB4
      by_cases hlt : k < m
      · have hltI : (k : Int) < (m : Int) := by omega
        obtain ⟨b1, o1, hp1, g1⟩ := in_cell ((HA.out.at HII.out).below HB4.out) (show (plc B).length = m by unfold plc; rw [List.length_map, HM.out]) hlt
        simp only [Option.some.injEq, Addr.mk.injEq, and_true] at hp1
        obtain ⟨rfl, rfl⟩ := hp1
        rw [plc_get HM.out hlt, Nat.zero_add] at g1
        have hjn : B.getD k 0 < n := HB.out _ (by simp [List.getD, show k < B.length by have := HM.out; omega])
        obtain ⟨j, hj⟩ : ∃ j, B.getD k 0 = j := ⟨_, rfl⟩
        rw [hj] at g1 hjn
        have hjnI : (j : Int) < (n : Int) := by omega
        obtain ⟨M, hM⟩ : ∃ M, minF (fun i => keyAt 0 l i) B k = M := ⟨_, rfl⟩
        obtain ⟨X, hX⟩ : ∃ X, keyAt 0 l j = X := ⟨_, rfl⟩
        have HMS := Lib.hid (show minF (fun i => keyAt 0 l i) B (k + 1) = min M X from by show min (minF _ B k) (keyAt 0 l ((B.getD k 0 : Nat) : Int)) = _; rw [hM, hj, hX])
        rw [hM] at HD
        have HC := HLK.out wr.drew ((Turns.of_below HB4.out).trans (.of_below (Below.refl _ _).drew)) j hjn
        rw [hX] at HC
        have HC := Lib.hid HC
        obtain ⟨s0, s1, _⟩ := HSS.out wr.drew HB4.out.drew
        have d0 : wr.drew.cell? ⟨D, 0, none⟩ = some (.int .i64 M) := HD.out.cellAt rfl
        clear hj hM hX
        go_wp2_with fail
        go_region_law (first | (go_simp; go_at_call 43; refine HC.out.mono ?_; rintro e u2 ⟨rfl, hu⟩; have HD2 := Lib.hid (HD.out.next ((Below.refl wr.heap.size wr).drew.trans hu)); have HB5 := Lib.hid (HB4.out.drew.trans (hu.mono HB4.out.size)); obtain ⟨r0, r1, _⟩ := HSS.out u2 HB5.out; have e0 := HD2.out.cell 0 (by simp); have f0 := HD2.out.f 0; clear hu))
        all_goals
          go_wp2_with fail
          go_roundw
          case rel => exact ⟨k + 1, by omega, by go_num, by rw [HMS.out]; exact HD2.out.set 0 _, HB5.out.setCell HDU.out _⟩
          case measure => simp [intOf]; omega
      · obtain rfl : k = m := by omega
        have hkI : ¬ (k : Int) < (k : Int) := by omega
        have HLE := Lib.hid (least_eq (fun i => keyAt 0 l i) B HM.out h0)
        obtain ⟨s0, s1, _⟩ := HSS.out wr HB4.out
        have hgne : P ≠ g ∧ Q ≠ g ∧ D ≠ g := by have h1 := HGW.out; have h2 := HPE.out; have h3 := HQE.out; have h4 := HDU.out; have h5 := HU.out.size; exact ⟨by omega, by omega, by omega⟩
        have hd0 : wr.cell? ⟨D, 0, none⟩ = some (.int .i64 (minF (fun i => keyAt 0 l i) B k)) := HD.out.cellAt rfl
        have HDL := Lib.hid (delL_any wr g (plc B) k cap N (HA.out.same (HB4.out.block g HA.out.lt)) HII.out (by unfold plc; rw [List.length_map, HM.out]) hcap hmx (fun x => decide (minF (fun i => keyAt 0 l i) B k < keyAt 0 l ((x.toNat : Nat) : Int))) Q P D (fun u hu x hx => by
          obtain ⟨i, hi, rfl⟩ := List.mem_map.1 hx
          have hT : Turns (fun k => k = g) U u := (Turns.of_below HB4.out).trans hu
          have h := lessF0_any u (some ⟨b, off, none⟩) l n c i Q P D _ (HRU.out u hT) (HB.out i hi) (cell_same s1 (hu.block Q (World.block_lt_of_cell? wr _ s1) hgne.2.1)) (cell_same s0 (hu.block P (World.block_lt_of_cell? wr _ s0) hgne.1)) (cell_same hd0 (hu.block D (World.block_lt_of_cell? wr _ hd0) hgne.2.2))
          rw [Int.toNat_natCast]
          exact h))
        clear s0 s1 hgne hd0
        go_wp2_with (go_at_call 31; refine HDL.out.mono ?_; rintro e w9 ⟨m9, rfl, h1, h2, h3⟩)
        go_ret
        rw [HLE.out] at h1 h2
        exact ⟨m9, rfl, by rw [← h1]; unfold plc; rw [List.length_map], h2, (Turns.of_below HU.out).trans ((Turns.of_below HB4.out).trans h3)⟩
  · have hD3 : Blk (u.setCell ⟨U.heap.size, 0, none⟩ (.int .i64 V)) U.heap.size 3 [.int .i64 V] := HBXu.out.set 0 _
    have hB3 : Below U.heap.size U (u.setCell ⟨U.heap.size, 0, none⟩ (.int .i64 V)) := HBu.out.setCell (Nat.le_refl _) _
    obtain ⟨D, hDE⟩ : ∃ D, U.heap.size = D := ⟨_, rfl⟩
    have hDU : U.heap.size ≤ D := by rw [← hDE]; exact Nat.le_refl _
    obtain ⟨W3, hW3⟩ : ∃ W, (u.setCell ⟨U.heap.size, 0, none⟩ (.int .i64 V)) = W := ⟨_, rfl⟩
    rw [hW3, hDE] at hD3
    rw [hW3] at hB3
    have HW3 := Lib.hid hW3
    have HDE := Lib.hid hDE
    have HDU := Lib.hid hDU
    have HD3 := Lib.hid hD3
    have HB3 := Lib.hid hB3
    clear hD3 hB3 hW3 hDE hDU hSD hSA hSu hSuV e0 f0 HBXu
    rw [HW3.out, HDE.out]
    clear HW3 HDE HBu HC1 HC2 HBX
    go_wp2_with fail
    go_loopw [22] (fun iv wr => ∃ k : Nat, k ≤ m ∧ iv = .int .i64 k ∧ Blk wr D 3 [.int .i64 (minF (fun i => keyAt 0 l i) B k)] ∧ Below U.heap.size U wr) (fun iv _ => m - (intOf iv).toNat)
    case atStart => exact ⟨0, Nat.zero_le _, rfl, by have h := HD3.out; rw [← HV.out, ← HJ0.out] at h; exact h, HB3.out⟩
    case round =>
      obtain ⟨k, hk, rfl, hd, hB4⟩ := hrel
      have HD := Lib.hid hd
      have HB4 := Lib.hid hB4
      clear hd hB4
      by_cases hlt : k < m
      · have hltI : (k : Int) < (m : Int) := by omega
        obtain ⟨b1, o1, hp1, g1⟩ := in_cell ((HA.out.at HII.out).below HB4.out) (show (plc B).length = m by unfold plc; rw [List.length_map, HM.out]) hlt
        simp only [Option.some.injEq, Addr.mk.injEq, and_true] at hp1
        obtain ⟨rfl, rfl⟩ := hp1
        rw [plc_get HM.out hlt, Nat.zero_add] at g1
        have hjn : B.getD k 0 < n := HB.out _ (by simp [List.getD, show k < B.length by have := HM.out; omega])
        obtain ⟨j, hj⟩ : ∃ j, B.getD k 0 = j := ⟨_, rfl⟩
        rw [hj] at g1 hjn
        have hjnI : (j : Int) < (n : Int) := by omega
        obtain ⟨M, hM⟩ : ∃ M, minF (fun i => keyAt 0 l i) B k = M := ⟨_, rfl⟩
        obtain ⟨X, hX⟩ : ∃ X, keyAt 0 l j = X := ⟨_, rfl⟩
        have HMS := Lib.hid (show minF (fun i => keyAt 0 l i) B (k + 1) = min M X from by show min (minF _ B k) (keyAt 0 l ((B.getD k 0 : Nat) : Int)) = _; rw [hM, hj, hX])
        rw [hM] at HD
        have HC := HLK.out wr.drew ((Turns.of_below HB4.out).trans (.of_below (Below.refl _ _).drew)) j hjn
        rw [hX] at HC
        have HC := Lib.hid HC
        obtain ⟨s0, s1, _⟩ := HSS.out wr.drew HB4.out.drew
        have d0 : wr.drew.cell? ⟨D, 0, none⟩ = some (.int .i64 M) := HD.out.cellAt rfl
        clear hj hM hX
        go_wp2_with fail
        go_region_law (first | (go_simp; go_at_call 43; refine HC.out.mono ?_; rintro e u2 ⟨rfl, hu⟩; have HD2 := Lib.hid (HD.out.next ((Below.refl wr.heap.size wr).drew.trans hu)); have HB5 := Lib.hid (HB4.out.drew.trans (hu.mono HB4.out.size)); obtain ⟨r0, r1, _⟩ := HSS.out u2 HB5.out; have e0 := HD2.out.cell 0 (by simp); have f0 := HD2.out.f 0; clear hu))
        all_goals
          go_wp2_with fail
          go_roundw
          case rel => exact ⟨k + 1, by omega, by go_num, by rw [HMS.out]; exact HD2.out.set 0 _, HB5.out.setCell HDU.out _⟩
          case measure => simp [intOf]; omega
      · obtain rfl : k = m := by omega
        have hkI : ¬ (k : Int) < (k : Int) := by omega
        have HLE := Lib.hid (least_eq (fun i => keyAt 0 l i) B HM.out h0)
        obtain ⟨s0, s1, _⟩ := HSS.out wr HB4.out
        have hgne : P ≠ g ∧ Q ≠ g ∧ D ≠ g := by have h1 := HGW.out; have h2 := HPE.out; have h3 := HQE.out; have h4 := HDU.out; have h5 := HU.out.size; exact ⟨by omega, by omega, by omega⟩
        have hd0 : wr.cell? ⟨D, 0, none⟩ = some (.int .i64 (minF (fun i => keyAt 0 l i) B k)) := HD.out.cellAt rfl
        have HDL := Lib.hid (delL_any wr g (plc B) k cap N (HA.out.same (HB4.out.block g HA.out.lt)) HII.out (by unfold plc; rw [List.length_map, HM.out]) hcap hmx (fun x => decide (minF (fun i => keyAt 0 l i) B k < keyAt 0 l ((x.toNat : Nat) : Int))) Q P D (fun u hu x hx => by
          obtain ⟨i, hi, rfl⟩ := List.mem_map.1 hx
          have hT : Turns (fun k => k = g) U u := (Turns.of_below HB4.out).trans hu
          have h := lessF0_any u (some ⟨b, off, none⟩) l n c i Q P D _ (HRU.out u hT) (HB.out i hi) (cell_same s1 (hu.block Q (World.block_lt_of_cell? wr _ s1) hgne.2.1)) (cell_same s0 (hu.block P (World.block_lt_of_cell? wr _ s0) hgne.1)) (cell_same hd0 (hu.block D (World.block_lt_of_cell? wr _ hd0) hgne.2.2))
          rw [Int.toNat_natCast]
          exact h))
        clear s0 s1 hgne hd0
        go_wp2_with (go_at_call 31; refine HDL.out.mono ?_; rintro e w9 ⟨m9, rfl, h1, h2, h3⟩)
        go_ret
        rw [HLE.out] at h1 h2
        exact ⟨m9, rfl, by rw [← h1]; unfold plc; rw [List.length_map], h2, (Turns.of_below HU.out).trans ((Turns.of_below HB4.out).trans h3)⟩

end Go.Proofs.Ytljbebeaahcjaaa
