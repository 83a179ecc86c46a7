/- trie: the document's Within. -/
import Derived.Test.YtipecocalmmmbaaTG
namespace Go.Proofs.Ytipecocalmmmbaa
open Go.RowKit
set_option linter.unusedVariables false
set_option linter.unusedSimpArgs false

def okey (p : O3) : Int × Int := (p.1, p.2.1)
set_option maxRecDepth 100000 in
set_option maxHeartbeats 16000000 in
theorem rin_any (w : World) (x : Nat) (l : List O3) (pa pn : Int) (p0 : 0 ≤ pa) (p1 : pa < 4294967296) (h : RfAt w x l) (hok : ∀ p ∈ l, 0 ≤ p.1 ∧ p.1 < 4294967296) (hn : l.length ≤ 1000) :
    Calls Try.prog 17 #[.pointer (some ⟨x, 0, none⟩), .agg #[.int .u32 pa, .int .i64 pn]] w fun e w' => ∃ (z : Nat) (q' : Option Addr) (c' : Nat), e = .returned (.slice q' z c') ∧ z = (heldL pa pn (l.map okey) l.length).length ∧ w'.ownsRow w.heap.size 32 2 (.slice q' z c') z (pcells (heldL pa pn (l.map okey) l.length)) ∧ Below w.heap.size w w' := by
  obtain ⟨B, q, n, c, hx, ho⟩ := h.is
  rw [ho.len]
  have hn : n ≤ 1000 := by rw [← ho.len]; exact hn
  have HA := Lib.hid (newB w (.cells #[.int .u32 pa, .int .i64 pn] 32))
  have hX := Blk.new w 32 [.int .u32 pa, .int .i64 pn]
  obtain ⟨V, hV⟩ : ∃ V, w.alloc (.cells #[.int .u32 pa, .int .i64 pn] 32) = V := ⟨_, rfl⟩
  obtain ⟨P, hP⟩ : ∃ P, w.heap.size = P := ⟨_, rfl⟩
  have hX : Blk V P 32 [.int .u32 pa, .int .i64 pn] := hP ▸ hV ▸ hX
  rw [hV] at HA
  have HX := Lib.hid hX
  have HB := Lib.hid hx
  have HO := Lib.hid ho
  have HOK := Lib.hid hok
  have HV := Lib.hid hV
  have HP := Lib.hid hP
  clear hX hV hP hx ho h hok
  go_enter Try.func17, Try.ntmps17
  go_wp2_with fail
  rw [HV.out, HP.out]
  go_loopw [5, 6] (fun v8 v9 W => ∃ (j z : Nat) (q' : Option Addr) (c' : Nat), v8 = .slice q' z c' ∧ v9 = .int .i64 j ∧ j ≤ n ∧ z = (heldL pa pn (l.map okey) j).length ∧ W.ownsRow V.heap.size 32 2 (.slice q' z c') z (pcells (heldL pa pn (l.map okey) j)) ∧ Below V.heap.size V W) (fun _ v _ => n - (intOf v).toNat)
  case atStart => exact ⟨0, 0, none, 0, rfl, rfl, Nat.zero_le _, rfl, World.ownsRow_nil _ _ _ _, Below.refl _ _⟩
  case round =>
    obtain ⟨j, z, q', c', rfl, rfl, hj, hz, hrow, hBl⟩ := hrel
    have hlk : (l.map okey).length = n := by rw [List.length_map, HO.out.len]
    have hzm : z ≤ 1000 := by have := heldL_le pa pn (l.map okey) j; omega
    have HVr := Lib.hid hBl
    have HWr := Lib.hid (HA.out.trans (hBl.mono HA.out.size))
    have HROW := Lib.hid hrow
    have HZ := Lib.hid hz
    have x0 : wr.cell? ⟨x, 0, none⟩ = some (.slice q n c) := kept HWr.out (HB.out.cell 0 (by simp))
    clear hrow hBl hz hlk
    by_cases hltj : j < n
    · have hltj' : (j : Int) < (n : Int) := by omega
      have j0 : (0 : Int) ≤ (j : Int) := by omega
      obtain ⟨y, hy⟩ : ∃ y, l[j]? = some y := ⟨_, List.getElem?_eq_getElem (by rw [HO.out.len]; exact hltj)⟩
      rcases HO.out.at with h | ⟨b, off, rfl, hc⟩
      · rw [h] at hy; cases hy
      obtain ⟨c0, c1, _⟩ := hc j y hy
      have hyo := HOK.out y (List.mem_of_getElem? hy)
      have HST := Lib.hid (heldL_step (pa := pa) (pn := pn) (show (l.map okey)[j]? = some (okey y) by rw [List.getElem?_map, hy]; rfl))
      obtain ⟨ya, yn, yx⟩ := y
      dsimp only at c0 c1 hyo
      have HST : Hid (heldL pa pn (l.map okey) (j + 1) = if withinP pa pn ya yn then heldL pa pn (l.map okey) j ++ [(ya, yn)] else heldL pa pn (l.map okey) j) := HST
      have HC := Lib.hid (show ∀ U : World, Below wr.heap.size wr U → U.cell? ⟨b, off + j * 3, none⟩ = some (.int .u32 ya) ∧ U.cell? ⟨b, off + j * 3 + 1, none⟩ = some (.int .i64 yn) ∧ U.cell? ⟨P, 0, none⟩ = some (.int .u32 pa) ∧ U.cell? ⟨P, 1, none⟩ = some (.int .i64 pn) ∧ U.cell? ⟨x, 0, none⟩ = some (.slice (some ⟨b, off, none⟩) n c) from fun U hU => ⟨kept hU (kept HWr.out c0), kept hU (kept HWr.out c1), ((HX.out.next HVr.out).next hU).cell 0 (by simp), ((HX.out.next HVr.out).next hU).cell 1 (by simp), kept hU (kept HWr.out (HB.out.cell 0 (by simp)))⟩)
      have HD := Lib.hid (show Below wr.heap.size wr wr.drew from (Below.refl _ _).drew)
      obtain ⟨C0, C1, P0, P1, X0⟩ := HC.out wr.drew HD.out
      have HRW := Lib.hid (rwithin_any pa pn ya yn wr.drew p0 p1 hyo.1 hyo.2)
      obtain ⟨bb, hbb⟩ : ∃ bb, withinP pa pn ya yn = bb := ⟨_, rfl⟩
      rw [hbb] at HRW HST
      clear hc hy hyo hbb c0 c1
      go_wp2_with fail
      clear x0
      go_still_tail 9, (by kernel_rfl)
      change wpList _ _ _ _ _ wr.drew
      obtain ⟨U, hU⟩ : ∃ U, wr.drew = U := ⟨_, rfl⟩
      rw [hU] at HRW HD P0 P1 C0 C1 X0 ⊢
      clear hU
      go_wp2_with fail
      refine HRW.out.mono ?_
      rintro e w4 ⟨rfl, hb4⟩
      have hB4 : Below wr.heap.size wr w4 := HD.out.trans (hb4.mono HD.out.size)
      have HB4 := Lib.hid hB4
      obtain ⟨c0, c1, _, _, x0⟩ := HC.out w4 hB4
      clear hb4 P0 P1 C0 C1 X0 hB4
      rcases bb with _ | _
      · go_wp2_with fail
        go_roundw
        case rel => exact ⟨j + 1, z, q', c', rfl, by go_num, by omega, by rw [HST.out]; exact HZ.out, by rw [HST.out]; exact row_below HROW.out HB4.out, HVr.out.trans (HB4.out.mono HVr.out.size)⟩
        case measure => simp [intOf]; omega
      · obtain ⟨i0, hi, hz0, hz1, hz2⟩ := info_parts infoPfx
        have hr4 := row_below HROW.out HB4.out
        have hs4 : V.heap.size ≤ w4.heap.size := Nat.le_trans HVr.out.size HB4.out.size
        have hX4 := Blk.new w4 32 [.int .u32 ya, .int .i64 yn]
        go_wp2_with (refine wpList_append_own _ rfl _ _ 41 rfl V.heap.size 32 i0 (.agg #[.int .u32 0, .int .i64 0]) 2 16 Try.underlying41 hi hz0 hz1 hz2 rfl (by decide) _ z _ rfl (hr4.alloc _) ⟨w4.heap.size, 0, none⟩ 1 1 [.int .u32 ya, .int .i64 yn] rfl rfl (pfx_cellsAt hX4) (pfx_one_cell ya yn) (by unfold maxLen; omega) (by omega) (by simp; omega) ?_; intro v5 w5 h5 g5 _)
        obtain ⟨q5, c5, rfl⟩ := row_form h5
        have HB5 := Lib.hid (show Below V.heap.size V w5 from by
          have hb := (HVr.out.trans (HB4.out.mono HVr.out.size)).alloc (by omega) (.cells #[.int .u32 ya, .int .i64 yn] 32)
          refine hb.grown g5 hb.size (fun g e => ?_)
          have e : (Value.slice q' z c').ownBlock = some g := e
          rcases hr4.2 with ⟨h1, _⟩ | ⟨g', cap, cur, h1, hb', _⟩
          · rw [h1] at e; simp [Value.ownBlock] at e
          · rw [h1] at e
            have : g' = g := by simpa [Value.ownBlock] using e
            omega)
        have H5 := Lib.hid h5
        clear h5 g5 hr4 hX4 hi hz0 hz1 hz2 hs4
        go_wp2_with fail
        go_roundw
        case rel => exact ⟨j + 1, z + 1, q5, c5, rfl, by go_num, by omega, by rw [HST.out]; simp [← HZ.out], by rw [HST.out]; simp only [if_true, pcells_snoc]; exact H5.out, HB5.out⟩
        case measure => simp [intOf]; omega
    · obtain rfl : j = n := by omega
      go_wp2_with fail
      go_ret
      exact ⟨z, q', c', rfl, HZ.out, HROW.out.mono HA.out.size, HWr.out⟩
end Go.Proofs.Ytipecocalmmmbaa
