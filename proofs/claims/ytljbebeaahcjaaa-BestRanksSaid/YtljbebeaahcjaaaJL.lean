/- best: leastMed. -/
import Derived.Test.YtljbebeaahcjaaaJK
namespace Go.Proofs.Ytljbebeaahcjaaa
open Go.RowKit Go.Maps
set_option linter.unusedVariables false
set_option linter.unusedSimpArgs false
set_option maxRecDepth 100000

theorem grown_turns {w w' : World} {b : Nat} (hg : w.grownBy w' (some b)) : Turns (fun k => k = b) w w' := ⟨hg.os, hg.tape, hg.output, hg.size, fun k hk hn => hg.block k hk (fun e => hn (by injection e))⟩
/-- What leastMed hands back. -/
def LeastRM (f asn : Nat → Int) (B : List Nat) (g N c : Nat) (w w' : World) (e : Ending) : Prop := ∃ m, e = .returned (.slice (some ⟨g, 0, none⟩) m c) ∧ (leastMV f asn B).length = m ∧ AtBk w' g (plc (leastMV f asn B)) N ∧ Turns (fun k => k = g) w w'
set_option maxHeartbeats 8000000 in
theorem leastMedG_any (w : World) (p : Option Addr) (l : List Rv) (n c g : Nat) (B : List Nat) (m cap N : Nat) (HR : ∀ u, Turns (fun k => k = g) w u → Looks u p l n) (hB : ∀ i ∈ B, i < n) (hA : AtBk w g (plc B) N) (hm : B.length = m) (h0 : 0 < m) (hmx0 : m ≤ 1000000) (hcap : m ≤ cap) (hmx : cap ≤ 9223372036854775807) :
    Calls Try.prog 28 #[.slice p n c, .slice (some ⟨g, 0, none⟩) m cap] w fun e w' => LeastRM (fun i => keyAt 3 l i) (fun i => asAt l i) B g N cap w w' e := by
  have hU := newB w (.cells #[.slice p n c] 22)
  have hP := Blk.new w 22 [.slice p n c]
  obtain ⟨U, hUE⟩ : ∃ U, w.alloc (.cells #[.slice p n c] 22) = U := ⟨_, rfl⟩
  change Blk (w.alloc (.cells #[.slice p n c] 22)) _ _ _ at hP
  rw [hUE] at hU hP
  obtain ⟨P, hPE⟩ : ∃ P, w.heap.size = P := ⟨_, rfl⟩
  have hUs : U.heap.size = P + 1 := by rw [← hUE, sz_alloc, hPE]
  rw [hPE] at hP
  obtain ⟨Bm, hBE⟩ : ∃ Bm, U.heap.size = Bm := ⟨_, rfl⟩
  obtain ⟨D, hDE⟩ : ∃ D, Bm + 1 = D := ⟨_, rfl⟩
  have hM0 := (MapAt.fresh keyIntC elIntC U).alloc (.cells #[.map (some Bm)] 81)
  have hD0 := Blk.new (U.alloc (.map #[] 0)) 81 [.map (some Bm)]
  have hB0 : Below U.heap.size U ((U.alloc (.map #[] 0)).alloc (.cells #[.map (some Bm)] 81)) := two_below U _ _
  rw [sz_alloc] at hD0
  change Blk ((U.alloc (.map #[] 0)).alloc (.cells #[.map (some Bm)] 81)) _ _ _ at hD0
  rw [hBE] at hM0 hD0
  rw [hDE] at hD0
  obtain ⟨V2, hV2⟩ : ∃ V2, (U.alloc (.map #[] 0)).alloc (.cells #[.map (some Bm)] 81) = V2 := ⟨_, rfl⟩
  rw [hV2] at hM0 hD0 hB0
  have HUE := Lib.hid hUE
  have HPE := Lib.hid hPE
  have HBE := Lib.hid hBE
  have HDE := Lib.hid hDE
  have HV2 := Lib.hid hV2
  have HM0 := Lib.hid hM0
  have HD0 := Lib.hid hD0
  have HB0 := Lib.hid hB0
  have HU := Lib.hid hU
  have HP := Lib.hid hP
  have HGW := Lib.hid hA.lt
  have HA := Lib.hid (show AtBk U g (plc B) N from hA.same (hU.block g hA.lt))
  have HB := Lib.hid hB
  have HM := Lib.hid hm
  have hL0 := HR w (.refl _ w)
  have hsm := hL0.small
  have HII := Lib.hid (plc_in hB hsm)
  have HRU := Lib.hid (fun (u : World) (hu : Turns (fun k => k = g) U u) => HR u ((Turns.of_below hU).trans hu))
  obtain ⟨b, off, rfl, _⟩ := rv_here hL0.at_ hL0.len (hB (B.getD 0 0) (by simp [List.getD, show 0 < B.length by omega]))
  have HUS := Lib.hid hUs
  have HPB := Lib.hid (show P + 1 = Bm from by omega)
  clear hU hP hUE hPE hBE hDE hV2 hM0 hD0 hB0 hA hB hL0 hUs
  have hmm := @run_makeMap Try.prog
  go_enter Try.func28, Try.ntmps28
  go_wp2_with fail
  rw [HUE.out, HPE.out]
  go_wp2_with fail
  rw [HPB.out, HDE.out, HV2.out]
  go_wp2_with fail
  go_loopw [15] (fun iv wr => ∃ k s : Nat, k ≤ m ∧ iv = .int .i64 k ∧ MapAt keyIntC elIntC wr Bm k s (mG (fun i => keyAt 3 l i) (fun i => asAt l i) B k) ∧ Blk wr D 81 [.map (some Bm)] ∧ Below U.heap.size U wr) (fun iv _ => m - (intOf iv).toNat)
  case atStart => exact ⟨0, 0, Nat.zero_le _, rfl, HM0.out, HD0.out, HB0.out⟩
  case round =>
    obtain ⟨k, s, hk, rfl, hm, hd, hB4⟩ := hrel
    have HMP := Lib.hid hm
    have HD := Lib.hid hd
    have HB4 := Lib.hid hB4
    clear hm hd hB4
    by_cases hlt : k < m
    · have hltI : (k : Int) < (m : Int) := by omega
      obtain ⟨b1, o1, hp1, g1⟩ := in_cell ((HA.out.at HII.out).below HB4.out) (show (plc B).length = m by unfold plc; rw [List.length_map, HM.out]) hlt
      simp only [Option.some.injEq, Addr.mk.injEq, and_true] at hp1
      obtain ⟨rfl, rfl⟩ := hp1
      rw [plc_get HM.out hlt, Nat.zero_add] at g1
      have hjm : B.getD k 0 ∈ B := by simp [List.getD, show k < B.length by have := HM.out; omega]
      have hjn : B.getD k 0 < n := HB.out _ hjm
      have hput := @mG_put (fun i => keyAt 3 l i) (fun i => asAt l i) B k
      have hkeep := fun M : Int => @mG_keep (fun i => keyAt 3 l i) (fun i => asAt l i) B k M
      try dsimp only at hput hkeep
      obtain ⟨j, hj⟩ : ∃ j, B.getD k 0 = j := ⟨_, rfl⟩
      rw [hj] at g1 hjn hput hkeep
      have hjnI : (j : Int) < (n : Int) := by omega
      have hL := HRU.out wr ((Turns.of_below HB4.out))
      obtain ⟨b', off', hp', hr⟩ := rv_here hL.at_ hL.len hjn
      simp only [Option.some.injEq, Addr.mk.injEq, and_true] at hp'
      obtain ⟨rfl, rfl⟩ := hp'
      have hV0 : keyAt 3 l (j : Int) = keyV 3 (l.getD j Rv.zero) := by unfold keyAt; rw [Int.toNat_natCast]
      have hA0 : asAt l (j : Int) = firstL (l.getD j Rv.zero).x.L := by unfold asAt; rw [Int.toNat_natCast]
      rw [hV0, hA0] at hput hkeep
      obtain ⟨y, hy⟩ : ∃ y, l.getD j Rv.zero = y := ⟨_, rfl⟩
      rw [hy] at hr hput hkeep
      have hi := first_in hr.ao
      obtain ⟨a, hf⟩ : ∃ a, firstL y.x.L = a := ⟨_, rfl⟩
      rw [hf] at hi hput hkeep
      have hwm := hr.in_.wm
      have hXi : (Lit.int .i64 (keyV 3 y)).wf = true := by
        have h1 : IntKind.i64.min ≤ y.x.md ∧ y.x.md ≤ IntKind.i64.max := by simpa [Lit.wf] using hwm
        rw [show IntKind.i64.min = -9223372036854775808 from rfl, show IntKind.i64.max = 9223372036854775807 from rfl] at h1
        have h2 : IntKind.i64.min ≤ max y.x.md 0 ∧ max y.x.md 0 ≤ IntKind.i64.max := by
          rw [show IntKind.i64.min = -9223372036854775808 from rfl, show IntKind.i64.max = 9223372036854775807 from rfl]; omega
        simpa [Lit.wf, keyV] using h2
      obtain ⟨X, hX⟩ : ∃ X, keyV 3 y = X := ⟨_, rfl⟩
      have HMD := Lib.hid (fun (u : World) (hu : Below wr.heap.size wr u) => look3_any u b (off + j * 10) y (hr.below hu))
      have HFI := Lib.hid (fun (u : World) (hu : Below wr.heap.size wr u) => first_any u y.x (hr.below hu).ao)
      rw [hX] at HMD hput hkeep hXi
      rw [hf] at HFI
      have HSS := Lib.hid (fun (u : World) (hu : Below wr.heap.size wr u) => show u.cell? ⟨P, 0, none⟩ = some (.slice (some ⟨b, off, none⟩) n c) ∧ u.cell? ⟨b, off + j * 10 + 4, none⟩ = some (.int .i64 y.x.og) ∧ u.cell? ⟨b, off + j * 10 + 5, none⟩ = some (.slice y.x.p1 y.x.n1 y.x.c1) ∧ u.cell? ⟨b, off + j * 10 + 6, none⟩ = some (.int .u32 y.x.nx) ∧ u.cell? ⟨b, off + j * 10 + 7, none⟩ = some (.int .i64 y.x.md) ∧ u.cell? ⟨b, off + j * 10 + 8, none⟩ = some (.int .i64 y.x.pf) ∧ u.cell? ⟨b, off + j * 10 + 9, none⟩ = some (.slice y.x.p2 y.x.n2 y.x.c2) from ⟨(HP.out.next (HB4.out.trans (hu.mono HB4.out.size))).cellAt rfl, kept hu hr.c4, kept hu hr.c5, kept hu hr.c6, kept hu hr.c7, kept hu hr.c8, kept hu hr.c9⟩)
      have hS := HSS.out wr.drew (Below.refl _ _).drew
      have HPUT := Lib.hid hput
      have HKEEP := Lib.hid hkeep
      have HXI := Lib.hid hXi
      clear hL hr hf hj hjm hV0 hA0 hy hwm hX hput hkeep hXi
      go_wp2_with fail
      go_region_held_law (fun W => W.cell? ⟨P, 0, none⟩ = some (.slice (some ⟨b, off, none⟩) n c) ∧ W.cell? ⟨b, off + j * 10 + 4, none⟩ = some (.int .i64 y.x.og) ∧ W.cell? ⟨b, off + j * 10 + 5, none⟩ = some (.slice y.x.p1 y.x.n1 y.x.c1) ∧ W.cell? ⟨b, off + j * 10 + 6, none⟩ = some (.int .u32 y.x.nx) ∧ W.cell? ⟨b, off + j * 10 + 7, none⟩ = some (.int .i64 y.x.md) ∧ W.cell? ⟨b, off + j * 10 + 8, none⟩ = some (.int .i64 y.x.pf) ∧ W.cell? ⟨b, off + j * 10 + 9, none⟩ = some (.slice y.x.p2 y.x.n2 y.x.c2)) (with_reducible assumption) (first | (go_at_call 35; refine (HMD.out _ (by first | exact HBu.out | exact (Below.refl _ _).drew)).mono ?_; rintro e u ⟨rfl, rfl⟩) | (go_at_call 34; refine (HFI.out _ (Below.refl _ _).drew).mono ?_; rintro e u ⟨rfl, hu⟩; have HBu := Lib.hid (show Below wr.heap.size wr u from (Below.refl wr.heap.size wr).drew.trans hu); have hSu := HSS.out u HBu.out; clear hu))
      all_goals
        clear hS hSu
        have hmu := HMP.out.next HBu.out
        have hdu := HD.out.next HBu.out
        have HB5 := Lib.hid (HB4.out.trans (HBu.out.mono HB4.out.size))
        have HDB := Lib.hid (show D ≠ Bm ∧ U.heap.size ≤ Bm ∧ Bm ≤ u.heap.size from by
          have h1 := HDE.out; have h2 := HBE.out; have h3 := hmu.lt
          exact ⟨by omega, by omega, by omega⟩)
        have d0 : u.cell? ⟨D, 0, none⟩ = some (.map (some Bm)) := hdu.cellAt rfl
        have hl := hmu.look_ok Try.underlying81 hi
        have HMU := Lib.hid hmu
        have HDU := Lib.hid hdu
        clear hmu hdu
        rcases hg0 : mG (fun i => keyAt 3 l i) (fun i => asAt l i) B k a with _ | M
        · rw [hg0] at hl
          simp only [Option.getD_none, Option.isSome_none] at hl
          obtain ⟨W3, hrun, hM3, hg3⟩ := HMU.out.update Try.underlying81 (by unfold maxLen; omega) hi HXI.out
          have HM3 := Lib.hid hM3
          have HG3 := Lib.hid hg3
          have HNX := Lib.hid (HPUT.out (.inl hg0))
          clear hM3 hg3 hg0
          go_wp2_with fail
          go_roundw
          case rel => exact ⟨k + 1, _, by omega, by go_num, by rw [← HNX.out]; exact HM3.out, HDU.out.of_same ((grown_turns HG3.out).block D HDU.out.lt HDB.out.1), HB5.out.trans ((grown_turns HG3.out).below (by have := HDB.out; omega) (fun q hq => by have := HDB.out; omega))⟩
          case measure => simp [intOf]; omega
        · rw [hg0] at hl
          simp only [Option.getD_some, Option.isSome_some] at hl
          by_cases hc : X < M
          · have t1 : decide (X < M) = true := decide_eq_true hc
            obtain ⟨W3, hrun, hM3, hg3⟩ := HMU.out.update Try.underlying81 (by unfold maxLen; omega) hi HXI.out
            have HM3 := Lib.hid hM3
            have HG3 := Lib.hid hg3
            have HNX := Lib.hid (HPUT.out (.inr ⟨M, hg0, hc⟩))
            clear hM3 hg3 hg0
            go_wp2_with fail
            go_roundw
            case rel => exact ⟨k + 1, _, by omega, by go_num, by rw [← HNX.out]; exact HM3.out, HDU.out.of_same ((grown_turns HG3.out).block D HDU.out.lt HDB.out.1), HB5.out.trans ((grown_turns HG3.out).below (by have := HDB.out; omega) (fun q hq => by have := HDB.out; omega))⟩
            case measure => simp [intOf]; omega
          · have t1 : decide (X < M) = false := decide_eq_false hc
            have HNX := Lib.hid (HKEEP.out M hg0 (by first | exact hc | exact Int.not_lt.1 hc))
            clear hg0
            go_wp2_with fail
            go_roundw
            case rel => exact ⟨k + 1, s, by omega, by go_num, by rw [← HNX.out]; exact HMU.out.more (Nat.le_succ k), HDU.out, HB5.out⟩
            case measure => simp [intOf]; omega
    · obtain rfl : k = m := by omega
      have hkI : ¬ (k : Int) < (k : Int) := by omega
      have HLE := Lib.hid (leastM_eq (fun i => keyAt 3 l i) (fun i => asAt l i) B HM.out)
      have s0 : wr.cell? ⟨P, 0, none⟩ = some (.slice (some ⟨b, off, none⟩) n c) := (HP.out.next HB4.out).cellAt rfl
      have hd0 : wr.cell? ⟨D, 0, none⟩ = some (.map (some Bm)) := HD.out.cellAt rfl
      have hgne : P ≠ g ∧ Bm ≠ g ∧ D ≠ g := by have h1 := HGW.out; have h2 := HPE.out; have h3 := HBE.out; have h4 := HDE.out; have h5 := HUS.out; exact ⟨by omega, by omega, by omega⟩
      have HDL := Lib.hid (delM_any wr g (plc B) k cap N (HA.out.same (HB4.out.block g HA.out.lt)) HII.out (by unfold plc; rw [List.length_map, HM.out]) hcap hmx (fun x => decide ((mG (fun i => keyAt 3 l i) (fun i => asAt l i) B k (asAt l ((x.toNat : Nat) : Int))).getD 0 < keyAt 3 l ((x.toNat : Nat) : Int))) P D (fun u hu x hx => by
        obtain ⟨i, hi2, rfl⟩ := List.mem_map.1 hx
        have hT : Turns (fun k => k = g) U u := (Turns.of_below HB4.out).trans hu
        obtain ⟨b9, o9, _, hr9⟩ := rv_here (HRU.out u hT).at_ (HRU.out u hT).len (HB.out i hi2)
        have h := lessM_any u (some ⟨b, off, none⟩) l n c i P D Bm k s _ (asAt l (i : Int)) (HRU.out u hT) (HB.out i hi2) (cell_same s0 (hu.block P (World.block_lt_of_cell? wr _ s0) hgne.1)) (cell_same hd0 (hu.block D (World.block_lt_of_cell? wr _ hd0) hgne.2.2)) (HMP.out.of_same (hu.block Bm HMP.out.lt hgne.2.1)) rfl (first_in hr9.ao)
        rw [Int.toNat_natCast]
        exact h))
      clear s0 hgne hd0
      go_wp2_with (go_at_call 31; refine HDL.out.mono ?_; rintro e w9 ⟨m9, rfl, h1, h2, h3⟩)
      go_ret
      rw [HLE.out] at h1 h2
      exact ⟨m9, rfl, by rw [← h1]; unfold plc; rw [List.length_map], h2, (Turns.of_below HU.out).trans ((Turns.of_below HB4.out).trans h3)⟩
end Go.Proofs.Ytljbebeaahcjaaa
