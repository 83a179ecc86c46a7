/- the document's meter: Demands. -/
import Derived.Test.YtgididkpgncdjaaYA
import Derived.Test.YtgididkpgncdjaaZY
namespace Go.Proofs.Ytgididkpgncdjaa
open Go.RowKit Go.Maps
set_option linter.unusedVariables false
set_option linter.unusedSimpArgs false
set_option maxRecDepth 100000

theorem box2 {w : World} {g : Nat} {T : TypeId} {a n : Int} (H : Blk w g T [.int .u32 a, .int .i64 n]) : w.cell? ⟨g, 0, none⟩ = some (.int .u32 a) ∧ w.cell? ⟨g, 1, none⟩ = some (.int .i64 n) := ⟨H.cell 0 (by simp), H.cell 1 (by simp)⟩
theorem cts_cell {w : World} {p : Option Addr} {l : List Ct} {n k : Nat} (h : CtsAt w p l) (hn : l.length = n) (hk : k < n) : ∃ b off, p = some ⟨b, off, none⟩ ∧ w.cell? ⟨b, off + k * 3, none⟩ = some (.int .u32 (l.getD k Ct.zero).p.a) ∧ w.cell? ⟨b, off + k * 3 + 1, none⟩ = some (.int .i64 (l.getD k Ct.zero).p.n) := by
  obtain ⟨b, off, e, c0, c1, _⟩ := ct_cell h hn hk
  exact ⟨b, off, e, c0, c1⟩
theorem sz_allocD (w : World) (o : Obj) : (w.alloc o).drew.heap.size = w.heap.size + 1 := sz_alloc w o
set_option maxHeartbeats 16000000 in
theorem rdemandsM_any (w : World) (x : Nat) (Z : Nat → Lz) (H : RfM w x Z) (V : Nat → Mv) (hrel : RelV V Z) (hok : OkV V) :
    Calls Try.prog 20 #[.pointer (some ⟨x, 0, none⟩)] w fun e w' => DemTo w w' V e := by
  have HK := Lib.hid H
  have HREL := Lib.hid hrel
  have HOK := Lib.hid hok
  clear H hrel hok
  go_enter Try.func20, Try.ntmps20
  go_wp2_with fail
  go_loopw [3, 4] (fun vo vi wr => ∃ (i : Nat) (os : List Ct) (po : Option Addr) (m co : Nat), i ≤ 16 ∧ vi = .int .i64 i ∧ vo = .slice po m co ∧ CtsOwn wr w.heap.size po m co os ∧ DemI V Z i 0 os ∧ Below w.heap.size w wr) (fun _ vi _ => 16 - (intOf vi).toNat)
  case atStart => exact ⟨0, [], none, 0, 0, Nat.zero_le _, rfl, rfl, LOwn.nil _ _ _ _ _ _, DemI.nil V Z, Below.refl _ _⟩
  case round =>
    obtain ⟨i, os, po, m, co, hi, rfl, rfl, hown, hdem, hB⟩ := hrel
    have HOWN := Lib.hid hown
    have HDEM := Lib.hid hdem
    have HB := Lib.hid hB
    clear hown hdem hB
    by_cases hlt : i < 16
    · have hlt' : (i : Int) < 16 := by omega
      have i0 : (0 : Int) ≤ (i : Int) := by omega
      obtain ⟨⟨_, _, _, z3, _⟩, _⟩ := (HK.out.below HB.out).src hlt
      have HZ3 := Lib.hid (fun (u : World) (hu : Below w.heap.size w u) => show u.cell? ⟨x, i * 9 + 1 + 2, none⟩ = some (.slice (Z i).R.p (Z i).R.n (Z i).R.cap) from ((HK.out.below hu).src hlt).1.2.2.2.1)
      have HZL := Lib.hid (fun (u : World) (hu : Below w.heap.size w u) => ((HK.out.below hu).at_ i hlt).r)
      have hzn := (HK.out.at_ i hlt).rn
      have hzm := (HK.out.at_ i hlt).rm
      obtain ⟨zp, hzp⟩ : ∃ a, (Z i).R.p = a := ⟨_, rfl⟩
      obtain ⟨n, hzn'⟩ : ∃ a, (Z i).R.n = a := ⟨_, rfl⟩
      obtain ⟨zc, hzc⟩ : ∃ a, (Z i).R.cap = a := ⟨_, rfl⟩
      rw [hzp, hzn', hzc] at HZ3
      rw [hzp] at HZL
      rw [hzn'] at hzm hzn
      have HZN := Lib.hid hzn
      clear z3 hzp hzn' hzc hzn
      go_wp2_with fail
      go_loopw [3, 5] (fun vo vj wi => ∃ (j : Nat) (os : List Ct) (po : Option Addr) (m co : Nat), j ≤ n ∧ vj = .int .i64 j ∧ vo = .slice po m co ∧ CtsOwn wi w.heap.size po m co os ∧ DemI V Z i j os ∧ Below w.heap.size w wi) (fun _ vj _ => n - (intOf vj).toNat)
      case atStart => exact ⟨0, os, po, m, co, Nat.zero_le _, rfl, rfl, HOWN.out, HDEM.out, HB.out⟩
      case round =>
        clear HOWN HDEM HB
        obtain ⟨j, os, po, m, co, hj, rfl, rfl, hown, hdem, hB⟩ := hrel
        have hm := hown.len
        have hmc := hown.cap_
        have hml : m ≤ 17408 := by have := hdem.len; omega
        have HM := Lib.hid hm
        have HMC := Lib.hid hmc.1
        have HOWN := Lib.hid hown
        have HDEM := Lib.hid hdem
        have HB := Lib.hid hB
        have z3 := HZ3.out wr hB
        clear hown hdem hB hm hmc
        by_cases hltj : j < n
        · have hltj' : (j : Int) < (n : Int) := by omega
          have j0 : (0 : Int) ≤ (j : Int) := by omega
          have hxi := (HZL.out wr HB.out).in_ HZN.out hltj
          obtain ⟨b9, off, rfl, c0, c1⟩ := cts_cell (HZL.out wr HB.out) HZN.out hltj
          obtain ⟨p, hp⟩ : ∃ p, ((Z i).R.L.getD j Ct.zero).p = p := ⟨_, rfl⟩
          have hxi : InPf p := hp ▸ hxi
          rw [hp] at c0 c1
          obtain ⟨pa, pn⟩ := p
          dsimp only at c0 c1
          have HXI := Lib.hid hxi
          have HP := Lib.hid hp
          have hn1 := newB wr (.cells #[.int .u32 pa, .int .i64 pn] 25)
          have hx1 := Blk.new wr 25 [.int .u32 pa, .int .i64 pn]
          obtain ⟨G, hG⟩ : ∃ Q, wr.heap.size = Q := ⟨_, rfl⟩
          obtain ⟨U1, hU1⟩ : ∃ U, wr.alloc (.cells #[.int .u32 pa, .int .i64 pn] 25) = U := ⟨_, rfl⟩
          rw [hU1] at hn1 hx1
          rw [hG] at hx1
          have HX := Lib.hid hx1
          have HB1 := Lib.hid (HB.out.trans (hn1.mono HB.out.size))
          have HOW := Lib.hid (HOWN.out.below hn1)
          have HUE := Lib.hid hU1
          have HGE := Lib.hid hG
          clear hp hn1 hx1 hU1 hG hxi HOWN
          go_wp2_with fail
          rw [HUE.out, HGE.out]
          clear z3 c0 c1
          go_loopw [7] (fun vk wk => ∃ k : Nat, k ≤ m ∧ vk = .int .i64 k ∧ (∀ q, q < k → ltN (os.getD q Ct.zero).p ⟨pa, pn⟩) ∧ Below U1.heap.size U1 wk) (fun vk _ => m - (intOf vk).toNat)
          case atStart => exact ⟨0, Nat.zero_le _, rfl, fun q hq => absurd hq (Nat.not_lt_zero _), Below.refl _ _⟩
          case round =>
            obtain ⟨k, hk, rfl, hlow, hBI⟩ := hrel
            have HBI := Lib.hid hBI
            have HLOW := Lib.hid hlow
            clear hBI hlow
            have k0 : (0 : Int) ≤ (k : Int) := by omega
            by_cases hkm : k < m
            · have hkm' : (k : Int) < (m : Int) := by omega
              have t2 : decide ((k : Int) < (m : Int)) = true := decide_eq_true hkm'
              obtain ⟨bo, oo, rfl, y0, y1⟩ := cts_cell ((HOW.out.at rowCt).below HBI.out) HM.out hkm
              obtain ⟨y, hy⟩ : ∃ y, (os.getD k Ct.zero).p = y := ⟨_, rfl⟩
              rw [hy] at y0 y1
              obtain ⟨ya, yn⟩ := y
              dsimp only at y0 y1
              have HY := Lib.hid hy
              obtain ⟨x0, x1⟩ := box2 (HX.out.next HBI.out)
              have hS : wr.drew.cell? ⟨bo, oo + k * 3, none⟩ = some (.int .u32 ya) ∧ wr.drew.cell? ⟨bo, oo + k * 3 + 1, none⟩ = some (.int .i64 yn) ∧ wr.drew.cell? ⟨G, 0, none⟩ = some (.int .u32 pa) ∧ wr.drew.cell? ⟨G, 1, none⟩ = some (.int .i64 pn) := ⟨y0, y1, x0, x1⟩
              have BB : Hid (Below wr.heap.size wr wr.drew) := Lib.hid (Below.refl _ _).drew
              have HSF := Lib.hid (fun (u : World) (hu : Below wr.heap.size wr u) => show u.cell? ⟨bo, oo + k * 3, none⟩ = some (.int .u32 ya) ∧ u.cell? ⟨bo, oo + k * 3 + 1, none⟩ = some (.int .i64 yn) ∧ u.cell? ⟨G, 0, none⟩ = some (.int .u32 pa) ∧ u.cell? ⟨G, 1, none⟩ = some (.int .i64 pn) from ⟨kept hu y0, kept hu y1, kept hu x0, kept hu x1⟩)
              have HCT := Lib.hid (cmpN_lt ⟨ya, yn⟩ ⟨pa, pn⟩)
              have hcp : cmpPf ⟨ya, yn⟩ ⟨pa, pn⟩ = cmpP ya yn pa pn := rfl
              rw [hcp] at HCT
              have HC := Lib.hid (fun u => rcompare_any ya yn pa pn u)
              obtain ⟨c, hc⟩ : ∃ c, cmpP ya yn pa pn = c := ⟨_, rfl⟩
              rw [hc] at HCT HC
              clear hy y0 y1 x0 x1 hcp hc
              by_cases hcl : c < 0
              · have t3 : decide (c < 0) = true := decide_eq_true hcl
                go_wp2_with fail
                go_region_held_law (fun W => W.cell? ⟨bo, oo + k * 3, none⟩ = some (.int .u32 ya) ∧ W.cell? ⟨bo, oo + k * 3 + 1, none⟩ = some (.int .i64 yn) ∧ W.cell? ⟨G, 0, none⟩ = some (.int .u32 pa) ∧ W.cell? ⟨G, 1, none⟩ = some (.int .i64 pn)) (with_reducible assumption) (first
                  | (go_at_call 42; (with_reducible refine (HC.out _).mono ?_); rintro e v ⟨rfl, hb⟩; have BB := Lib.hid (BB.out.trans (hb.mono BB.out.size)); have hS := HSF.out _ BB.out; clear hb))
                all_goals
                  clear hS
                  go_wp2_with fail
                  go_roundw
                  case rel => exact ⟨k + 1, by omega, by go_num, fun q hq => by
                    rcases Nat.lt_or_ge q k with h | h
                    · exact HLOW.out q h
                    · obtain rfl : q = k := by omega
                      rw [HY.out]; exact HCT.out.1 hcl, HBI.out.trans (BB.out.mono HBI.out.size)⟩
                  case measure => simp [intOf]; omega
              · have t3 : decide (c < 0) = false := decide_eq_false hcl
                go_wp2_with fail
                go_region_held_law (fun W => W.cell? ⟨bo, oo + k * 3, none⟩ = some (.int .u32 ya) ∧ W.cell? ⟨bo, oo + k * 3 + 1, none⟩ = some (.int .i64 yn) ∧ W.cell? ⟨G, 0, none⟩ = some (.int .u32 pa) ∧ W.cell? ⟨G, 1, none⟩ = some (.int .i64 pn)) (with_reducible assumption) (first
                  | (go_at_call 42; (with_reducible refine (HC.out _).mono ?_); rintro e v ⟨rfl, hb⟩; have BB := Lib.hid (BB.out.trans (hb.mono BB.out.size)); have hS := HSF.out _ BB.out; clear hb))
                all_goals
                  clear hS
                  obtain ⟨W, hWW⟩ : ∃ W, v = W := ⟨_, rfl⟩
                  have hh1 : Below U1.heap.size U1 W := hWW ▸ HBI.out.trans (BB.out.mono HBI.out.size)
                  rw [hWW]
                  clear hWW
                  have hh2 := HB1.out.trans (hh1.mono HB1.out.size)
                  obtain ⟨x0, x1⟩ := box2 (HX.out.next hh1)
                  have HD := Lib.hid (rdemand_any W x Z (HK.out.below hh2) V HREL.out HOK.out ⟨pa, pn⟩)
                  obtain ⟨d, hd⟩ : ∃ d, demV V ⟨pa, pn⟩ = d := ⟨_, rfl⟩
                  rw [hd] at HD
                  have HDE := Lib.hid hd
                  have HH1 := Lib.hid hh1
                  clear hd hh1 hh2
                  go_wp2_with fail
                  refine HD.out.mono ?_
                  rintro e W2 ⟨rfl, hb2⟩
                  have HH3 := Lib.hid (HH1.out.trans (hb2.mono HH1.out.size))
                  clear hb2 x0 x1 HD
                  obtain ⟨x0, x1⟩ := box2 (HX.out.next HH3.out)
                  by_cases hd0 : d = 0
                  · subst hd0
                    go_wp2_with fail
                    go_quiet (fail)
                    have hWB := below_dN W2.heap.size W2 nq
                    go_wp2_with fail
                    go_roundw
                    case rel => exact ⟨j + 1, os, (some ⟨bo, oo, none⟩), m, co, by omega, by go_num, rfl, HOW.out.below (HH3.out.trans (hWB.mono HH3.out.size)), HDEM.out.skip (by rw [HZN.out]; exact hltj) (.inl (by rw [HP.out]; exact HDE.out)), HB1.out.trans ((HH3.out.trans (hWB.mono HH3.out.size)).mono HB1.out.size)⟩
                    case measure => simp [intOf]; omega
                  · have t4 : (d == 0) = false := by simpa using hd0
                    have t5 : decide (d = 0) = false := decide_eq_false hd0
                    obtain ⟨b8, o8, e8, y0, y1⟩ := cts_cell ((HOW.out.at rowCt).below HH3.out) HM.out hkm
                    simp only [Option.some.injEq, Addr.mk.injEq, and_true] at e8
                    obtain ⟨rfl, rfl⟩ := e8
                    rw [HY.out] at y0 y1
                    dsimp only at y0 y1
                    have hS : W2.drew.cell? ⟨bo, oo + k * 3, none⟩ = some (.int .u32 ya) ∧ W2.drew.cell? ⟨bo, oo + k * 3 + 1, none⟩ = some (.int .i64 yn) ∧ W2.drew.cell? ⟨G, 0, none⟩ = some (.int .u32 pa) ∧ W2.drew.cell? ⟨G, 1, none⟩ = some (.int .i64 pn) := ⟨y0, y1, x0, x1⟩
                    have hg := pfx_eqGuard
                    have hq := fun u => pfx_eql ya yn pa pn u
                    clear y0 y1 x0 x1
                    by_cases he : (⟨ya, yn⟩ : Pf) = ⟨pa, pn⟩
                    · have t6 : (ya == pa && yn == pn) = true := by cases he; simp
                      rw [t6] at hq
                      have HIN := Lib.hid (show (⟨pa, pn⟩ : Pf) ∈ os.map (·.p) from by
                        rw [← he, ← HY.out]
                        have hkl : k < os.length := by rw [HM.out]; exact hkm
                        rw [show os.getD k Ct.zero = os[k] by simp [List.getD, hkl]]
                        exact List.mem_map_of_mem (List.getElem_mem hkl))
                      go_wp2_with fail
                      go_region_held_law (fun W => W.cell? ⟨bo, oo + k * 3, none⟩ = some (.int .u32 ya) ∧ W.cell? ⟨bo, oo + k * 3 + 1, none⟩ = some (.int .i64 yn) ∧ W.cell? ⟨G, 0, none⟩ = some (.int .u32 pa) ∧ W.cell? ⟨G, 1, none⟩ = some (.int .i64 pn)) (with_reducible assumption) (fail)
                      all_goals
                        clear hS
                        have hWB : Below W2.heap.size W2 W2.drew := (Below.refl _ _).drew
                        go_wp2_with fail
                        go_roundw
                        case rel => exact ⟨j + 1, os, (some ⟨bo, oo, none⟩), m, co, by omega, by go_num, rfl, HOW.out.below (HH3.out.trans (hWB.mono HH3.out.size)), HDEM.out.skip (by rw [HZN.out]; exact hltj) (.inr (by rw [HP.out]; exact HIN.out)), HB1.out.trans ((HH3.out.trans (hWB.mono HH3.out.size)).mono HB1.out.size)⟩
                        case measure => simp [intOf]; omega
                    · have t6 : (ya == pa && yn == pn) = false := by
                        rw [Bool.eq_false_iff]
                        intro h
                        simp only [Bool.and_eq_true, beq_iff_eq] at h
                        exact he (by rw [h.1, h.2])
                      rw [t6] at hq
                      go_wp2_with fail
                      go_region_held_law (fun W => W.cell? ⟨bo, oo + k * 3, none⟩ = some (.int .u32 ya) ∧ W.cell? ⟨bo, oo + k * 3 + 1, none⟩ = some (.int .i64 yn) ∧ W.cell? ⟨G, 0, none⟩ = some (.int .u32 pa) ∧ W.cell? ⟨G, 1, none⟩ = some (.int .i64 pn)) (with_reducible assumption) (fail)
                      all_goals
                        clear hS hg hq
                        have HLT := Lib.hid (show ltN ⟨pa, pn⟩ ⟨ya, yn⟩ from by
                          rcases ltN_total ⟨ya, yn⟩ ⟨pa, pn⟩ with h | h | h
                          · exact absurd (HCT.out.2 h) (Int.not_lt.2 hcl)
                          · exact absurd h he
                          · exact h)
                        obtain ⟨W3, hW3⟩ : ∃ W, W2.drew = W := ⟨_, rfl⟩
                        have hWB : Below W2.heap.size W2 W3 := hW3 ▸ (Below.refl _ _).drew
                        rw [hW3]
                        clear hW3
                        have hh4 := HH3.out.trans (hWB.mono HH3.out.size)
                        have hh5 := HB1.out.trans (hh4.mono HB1.out.size)
                        have HH5 := Lib.hid hh5
                        obtain ⟨Q1, rc1, hdr⟩ := cutL_l rowCt W3 (some ⟨bo, oo, none⟩) os m co k ((HOW.out.at rowCt).below hh4) HM.out hk HMC.out
                        obtain ⟨Q2, rc2, htk⟩ := cutL_hm rowCt W3 (some ⟨bo, oo, none⟩) os m co k ((HOW.out.at rowCt).below hh4) HM.out hk HMC.out
                        have HDR := Lib.hid (hdr.below (newB W3 (.cells #[] 67)))
                        have HTK3 := Lib.hid htk
                        have OL := Lib.hid (show CtsOwn (W3.alloc (.cells #[] 67)) W3.heap.size (some ⟨W3.heap.size, 0, none⟩) 0 0 [] from LOwn.lit rowCt W3 W3.heap.size [] (fun y hy => by cases hy) (Nat.le_refl _) (Nat.zero_le _))
                        have HDL := Lib.hid (show (os.drop k).length = m - k by have := HM.out; rw [List.length_drop]; omega)
                        have HTL := Lib.hid (show (os.take k).length = k by have := HM.out; rw [List.length_take]; omega)
                        have HXW := Lib.hid (HX.out.next hh4)
                        have HSTOP := Lib.hid (show k = os.length ∨ ltN ⟨pa, pn⟩ (os.getD k Ct.zero).p from .inr (by rw [HY.out]; exact HLT.out))
                        have HINS := Lib.hid (HDEM.out.ins (by rw [HZN.out]; exact hltj) HP.out HXI.out (by rw [HDE.out]; exact hd0) (by rw [HM.out]; exact hk) HLOW.out HSTOP.out)
                        rw [HDE.out] at HINS
                        have hkm2 : k ≤ m := hk
                        clear hdr htk hh4 hh5 hWB
                        go_wp2_with (at_builtin; refine wpList_appL (o := ⟨some 79, _, _, _, _, _⟩) rowCt (by kernel_rfl) (.tmp 75) (.tmp 78) (by rfl) W3.heap.size (some ⟨W3.heap.size, 0, none⟩) 0 0 [] OL.out (by rfl) Q1 (m - k) (co - k) (os.drop k) HDR.out HDL.out (by rfl) (m - k) (by omega) (by omega) (newB W3 _).size ?_; intro p3 c3 w3 hO3 hB3)
                        have h3b := (newB W3 (.cells #[] 67)).trans hB3.out
                        have HW3 := Lib.hid h3b
                        have hO3' := hO3.out
                        rw [List.nil_append] at hO3'
                        have hbA : Below w3.heap.size w3 (w3.alloc (.cells #[.int .u32 pa, .int .i64 pn, .int .i64 d] 67)).drew := (newB w3 _).drew
                        have hbWA := h3b.trans (hbA.mono h3b.size)
                        have hS : w3.drew.cell? ⟨G, 0, none⟩ = some (.int .u32 pa) ∧ w3.drew.cell? ⟨G, 1, none⟩ = some (.int .i64 pn) := box2 (HXW.out.next h3b.drew)
                        have HSA := Lib.hid (show (w3.alloc (.cells #[.int .u32 pa, .int .i64 pn, .int .i64 d] 67)).drew.cell? ⟨G, 0, none⟩ = some (.int .u32 pa) ∧ (w3.alloc (.cells #[.int .u32 pa, .int .i64 pn, .int .i64 d] 67)).drew.cell? ⟨G, 1, none⟩ = some (.int .i64 pn) from box2 (HXW.out.next hbWA))
                        have HXA := Lib.hid (HXW.out.next hbWA)
                        have HBL := Lib.hid (show G < w3.heap.size + 1 from Nat.lt_succ_of_lt (HXW.out.next h3b).lt)
                        have HTK := Lib.hid (HTK3.out.below hbWA)
                        have HXN := Lib.hid (show CtsAt (w3.alloc (.cells #[.int .u32 pa, .int .i64 pn, .int .i64 d] 67)).drew (some ⟨w3.heap.size, 0, none⟩) [⟨⟨pa, pn⟩, d⟩] from (((LOwn.lit rowCt w3 0 [(⟨⟨pa, pn⟩, d⟩ : Ct)] (fun y hy => by simp at hy; rw [hy]; exact HXI.out) (Nat.zero_le _) (by unfold maxLen; simp)).at rowCt).below (Below.refl _ _).drew))
                        have HRS := Lib.hid ((hO3'.at rowCt).below hbA)
                        clear h3b hO3 hO3' hB3 HDR OL rc1 hbA hbWA
                        go_wp2_with fail
                        go_region_held_law (fun W => W.cell? ⟨G, 0, none⟩ = some (.int .u32 pa) ∧ W.cell? ⟨G, 1, none⟩ = some (.int .i64 pn)) (first | with_reducible assumption | exact HSA.out) (first
                          | (refine step_appFullL (o := ⟨some 88, _, _, _, _, _⟩) rowCt (by kernel_rfl) (.tmp 83) (.tmp 87) (by rfl) Q2 k (os.take k) HTK.out HTL.out (by rfl) (some ⟨w3.heap.size, 0, none⟩) 1 1 [⟨⟨pa, pn⟩, d⟩] HXN.out rfl (by rfl) (by omega) (k + 1) rfl (by omega) (w3.heap.size + 1) (sz_allocD w3 _) ?_; intro C5 w5 hO5 hB5; have hS5 := box2 (HXA.out.below hB5.out HBL.out); have HR5 := Lib.hid (HRS.out.below (sz_allocD w3 (.cells #[.int .u32 pa, .int .i64 pn, .int .i64 d] 67) ▸ hB5.out)))
                          | (refine step_appL (o := ⟨some 90, _, _, _, _, _⟩) rowCt (by kernel_rfl) (.tmp 88) (.tmp 89) (by rfl) (w3.heap.size + 1) (some ⟨w3.heap.size + 1, 0, none⟩) (k + 1) C5 (os.take k ++ [⟨⟨pa, pn⟩, d⟩]) hO5.out (by rfl) p3 (m - k) c3 (os.drop k) HR5.out HDL.out (by rfl) (m + 1) (by omega) (by omega) (sz_allocD w3 (.cells #[.int .u32 pa, .int .i64 pn, .int .i64 d] 67) ▸ hB5.out.size) ?_; intro p6 c6 w6 hO6 hB6; have hS6 := box2 ((HXA.out.below hB5.out HBL.out).below hB6.out HBL.out)))
                        all_goals
                          have hsz := sz_allocD w3 (.cells #[.int .u32 pa, .int .i64 pn, .int .i64 d] 67)
                          have hz1 := HH5.out.size
                          have hz2 := HW3.out.size
                          go_wp2_with fail
                          go_roundw
                          case rel => exact ⟨j + 1, _, p6, m + 1, c6, by omega, by go_num, rfl, hO6.out.mono (by omega), HINS.out, (((HH5.out.trans (HW3.out.mono hz1)).trans ((newB w3 _).drew.mono (by omega))).trans (hB5.out.mono (by omega))).trans (hB6.out.mono (by omega))⟩
                          case measure => simp [intOf]; omega
            · obtain rfl : k = m := by omega
              have t2 : decide ((k : Int) < (k : Int)) = false := by simp
              go_wp2_with fail
              go_quiet (fail)
              obtain ⟨W, hWW⟩ : ∃ W, wr.drewN nq = W := ⟨_, rfl⟩
              have hh1 : Below U1.heap.size U1 W := hWW ▸ HBI.out.trans (below_dN _ _ _)
              rw [hWW]
              clear hWW
              have hh2 := HB1.out.trans (hh1.mono HB1.out.size)
              obtain ⟨x0, x1⟩ := box2 (HX.out.next hh1)
              have HD := Lib.hid (rdemand_any W x Z (HK.out.below hh2) V HREL.out HOK.out ⟨pa, pn⟩)
              obtain ⟨d, hd⟩ : ∃ d, demV V ⟨pa, pn⟩ = d := ⟨_, rfl⟩
              rw [hd] at HD
              have HDE := Lib.hid hd
              have HH1 := Lib.hid hh1
              clear hd hh1 hh2
              go_wp2_with fail
              refine HD.out.mono ?_
              rintro e W2 ⟨rfl, hb2⟩
              have HH3 := Lib.hid (HH1.out.trans (hb2.mono HH1.out.size))
              clear hb2 x0 x1 HD
              obtain ⟨x0, x1⟩ := box2 (HX.out.next HH3.out)
              by_cases hd0 : d = 0
              · subst hd0
                go_wp2_with fail
                go_quiet (fail)
                have hWB := below_dN W2.heap.size W2 nq
                go_wp2_with fail
                go_roundw
                case rel => exact ⟨j + 1, os, po, k, co, by omega, by go_num, rfl, HOW.out.below (HH3.out.trans (hWB.mono HH3.out.size)), HDEM.out.skip (by rw [HZN.out]; exact hltj) (.inl (by rw [HP.out]; exact HDE.out)), HB1.out.trans ((HH3.out.trans (hWB.mono HH3.out.size)).mono HB1.out.size)⟩
                case measure => simp [intOf]; omega
              · have t4 : (d == 0) = false := by simpa using hd0
                have t5 : decide (d = 0) = false := decide_eq_false hd0
                go_wp2_with fail
                go_quiet (fail)
                obtain ⟨W3, hW3⟩ : ∃ W, W2.drewN nq = W := ⟨_, rfl⟩
                have hWB : Below W2.heap.size W2 W3 := hW3 ▸ below_dN W2.heap.size W2 nq
                rw [hW3]
                clear hW3 x0 x1

                have hh4 := HH3.out.trans (hWB.mono HH3.out.size)
                have hh5 := HB1.out.trans (hh4.mono HB1.out.size)
                have HH5 := Lib.hid hh5
                obtain ⟨Q1, rc1, hdr⟩ := cutL_l rowCt W3 po os k co k ((HOW.out.at rowCt).below hh4) HM.out hk HMC.out
                obtain ⟨Q2, rc2, htk⟩ := cutL_hm rowCt W3 po os k co k ((HOW.out.at rowCt).below hh4) HM.out hk HMC.out
                have HDR := Lib.hid (hdr.below (newB W3 (.cells #[] 67)))
                have HTK3 := Lib.hid htk
                have OL := Lib.hid (show CtsOwn (W3.alloc (.cells #[] 67)) W3.heap.size (some ⟨W3.heap.size, 0, none⟩) 0 0 [] from LOwn.lit rowCt W3 W3.heap.size [] (fun y hy => by cases hy) (Nat.le_refl _) (Nat.zero_le _))
                have HDL := Lib.hid (show (os.drop k).length = 0 by have := HM.out; rw [List.length_drop]; omega)
                have HTL := Lib.hid (show (os.take k).length = k by have := HM.out; rw [List.length_take]; omega)
                have HXW := Lib.hid (HX.out.next hh4)
                have HSTOP := Lib.hid (show k = os.length ∨ ltN ⟨pa, pn⟩ (os.getD k Ct.zero).p from .inl HM.out.symm)
                have HINS := Lib.hid (HDEM.out.ins (by rw [HZN.out]; exact hltj) HP.out HXI.out (by rw [HDE.out]; exact hd0) (by rw [HM.out]; exact hk) HLOW.out HSTOP.out)
                rw [HDE.out] at HINS
                have hkm2 : k ≤ k := hk
                clear hdr htk hh4 hh5 hWB
                go_wp2_with (at_builtin; refine wpList_appL (o := ⟨some 79, _, _, _, _, _⟩) rowCt (by kernel_rfl) (.tmp 75) (.tmp 78) (by rfl) W3.heap.size (some ⟨W3.heap.size, 0, none⟩) 0 0 [] OL.out (by rfl) Q1 (0) (co - k) (os.drop k) HDR.out HDL.out (by rfl) (0) (by omega) (by omega) (newB W3 _).size ?_; intro p3 c3 w3 hO3 hB3)
                have h3b := (newB W3 (.cells #[] 67)).trans hB3.out
                have HW3 := Lib.hid h3b
                have hO3' := hO3.out
                rw [List.nil_append] at hO3'
                have hbA : Below w3.heap.size w3 (w3.alloc (.cells #[.int .u32 pa, .int .i64 pn, .int .i64 d] 67)).drew := (newB w3 _).drew
                have hbWA := h3b.trans (hbA.mono h3b.size)
                have hS : w3.drew.cell? ⟨G, 0, none⟩ = some (.int .u32 pa) ∧ w3.drew.cell? ⟨G, 1, none⟩ = some (.int .i64 pn) := box2 (HXW.out.next h3b.drew)
                have HSA := Lib.hid (show (w3.alloc (.cells #[.int .u32 pa, .int .i64 pn, .int .i64 d] 67)).drew.cell? ⟨G, 0, none⟩ = some (.int .u32 pa) ∧ (w3.alloc (.cells #[.int .u32 pa, .int .i64 pn, .int .i64 d] 67)).drew.cell? ⟨G, 1, none⟩ = some (.int .i64 pn) from box2 (HXW.out.next hbWA))
                have HXA := Lib.hid (HXW.out.next hbWA)
                have HBL := Lib.hid (show G < w3.heap.size + 1 from Nat.lt_succ_of_lt (HXW.out.next h3b).lt)
                have HTK := Lib.hid (HTK3.out.below hbWA)
                have HXN := Lib.hid (show CtsAt (w3.alloc (.cells #[.int .u32 pa, .int .i64 pn, .int .i64 d] 67)).drew (some ⟨w3.heap.size, 0, none⟩) [⟨⟨pa, pn⟩, d⟩] from (((LOwn.lit rowCt w3 0 [(⟨⟨pa, pn⟩, d⟩ : Ct)] (fun y hy => by simp at hy; rw [hy]; exact HXI.out) (Nat.zero_le _) (by unfold maxLen; simp)).at rowCt).below (Below.refl _ _).drew))
                have HRS := Lib.hid ((hO3'.at rowCt).below hbA)
                clear h3b hO3 hO3' hB3 HDR OL rc1 hbA hbWA
                go_wp2_with fail
                go_region_held_law (fun W => W.cell? ⟨G, 0, none⟩ = some (.int .u32 pa) ∧ W.cell? ⟨G, 1, none⟩ = some (.int .i64 pn)) (first | with_reducible assumption | exact HSA.out) (first
                  | (refine step_appFullL (o := ⟨some 88, _, _, _, _, _⟩) rowCt (by kernel_rfl) (.tmp 83) (.tmp 87) (by rfl) Q2 k (os.take k) HTK.out HTL.out (by rfl) (some ⟨w3.heap.size, 0, none⟩) 1 1 [⟨⟨pa, pn⟩, d⟩] HXN.out rfl (by rfl) (by omega) (k + 1) rfl (by omega) (w3.heap.size + 1) (sz_allocD w3 _) ?_; intro C5 w5 hO5 hB5; have hS5 := box2 (HXA.out.below hB5.out HBL.out); have HR5 := Lib.hid (HRS.out.below (sz_allocD w3 (.cells #[.int .u32 pa, .int .i64 pn, .int .i64 d] 67) ▸ hB5.out)))
                  | (refine step_appL (o := ⟨some 90, _, _, _, _, _⟩) rowCt (by kernel_rfl) (.tmp 88) (.tmp 89) (by rfl) (w3.heap.size + 1) (some ⟨w3.heap.size + 1, 0, none⟩) (k + 1) C5 (os.take k ++ [⟨⟨pa, pn⟩, d⟩]) hO5.out (by rfl) p3 (0) c3 (os.drop k) HR5.out HDL.out (by rfl) (k + 1) (by omega) (by omega) (sz_allocD w3 (.cells #[.int .u32 pa, .int .i64 pn, .int .i64 d] 67) ▸ hB5.out.size) ?_; intro p6 c6 w6 hO6 hB6; have hS6 := box2 ((HXA.out.below hB5.out HBL.out).below hB6.out HBL.out)))
                all_goals
                  have hsz := sz_allocD w3 (.cells #[.int .u32 pa, .int .i64 pn, .int .i64 d] 67)
                  have hz1 := HH5.out.size
                  have hz2 := HW3.out.size
                  go_wp2_with fail
                  go_roundw
                  case rel => exact ⟨j + 1, _, p6, k + 1, c6, by omega, by go_num, rfl, hO6.out.mono (by omega), HINS.out, (((HH5.out.trans (HW3.out.mono hz1)).trans ((newB w3 _).drew.mono (by omega))).trans (hB5.out.mono (by omega))).trans (hB6.out.mono (by omega))⟩
                  case measure => simp [intOf]; omega
        · obtain rfl : j = n := by omega
          have t1 : decide ((j : Int) < (j : Int)) = false := by simp
          go_wp2_with fail
          go_roundw
          case rel => exact ⟨i + 1, os, po, m, co, by omega, by go_num, rfl, HOWN.out, HDEM.out.next HZN.out hzm, HB.out⟩
          case measure => simp [intOf]; omega
    · obtain rfl : i = 16 := by omega
      go_wp2_with fail
      go_ret
      have hd := HDEM.out
      exact ⟨po, m, co, os, rfl, HOWN.out.len, by have := hd.len; have := HOWN.out.len; omega, HOWN.out.cap_.1, HOWN.out.at rowCt, hd.end_ HREL.out HOK.out, HB.out, HOWN.out.lo⟩
end Go.Proofs.Ytgididkpgncdjaa
