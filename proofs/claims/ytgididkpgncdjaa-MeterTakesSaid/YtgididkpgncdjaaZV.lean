/- the document's meter: count, rate. -/
import Derived.Test.YtgididkpgncdjaaZM
import Derived.Test.YtgididkpgncdjaaZC
import Derived.Deep.RegionHeldLaw
namespace Go.Proofs.Ytgididkpgncdjaa
open Go.RowKit Go.Maps
set_option linter.unusedVariables false
set_option linter.unusedSimpArgs false
set_option maxRecDepth 100000

def countL : List Ct → Pf → Int
  | [], _ => -1
  | x :: t, p => if x.p = p then x.c else countL t p
theorem countL_step (L : List Ct) (k : Nat) (p : Pf) (hk : k < L.length) : countL (L.drop k) p = if (L.getD k Ct.zero).p = p then (L.getD k Ct.zero).c else countL (L.drop (k + 1)) p := by
  rw [List.drop_eq_getElem_cons hk, countL, show L.getD k Ct.zero = L[k] by simp [List.getD, hk]]
theorem rrep_boxes {w : World} {g : Nat} {src seq : Int} {z : Option Addr} {n c : Nat} (H : Blk w g 31 [.int .i64 src, .int .i64 seq, .slice z n c]) : w.cell? ⟨g, 0, none⟩ = some (.int .i64 src) ∧ w.cell? ⟨g, 1, none⟩ = some (.int .i64 seq) ∧ w.cell? ⟨g, 2, none⟩ = some (.slice z n c) :=
  ⟨H.cell 0 (by simp), H.cell 1 (by simp), H.cell 2 (by simp)⟩
set_option maxHeartbeats 4000000 in
theorem rcount_any (w : World) (src seq : Int) (q : Option Addr) (L : List Ct) (n c9 : Nat) (hl : CtsAt w q L) (hn : L.length = n) (hm : n ≤ maxLen) (p : Pf) :
    Calls Try.prog 50 #[.agg #[.int .i64 src, .int .i64 seq, .slice q n c9], .agg #[.int .u32 p.a, .int .i64 p.n]] w fun e w' => e = .returned (.int .i64 (countL L p)) ∧ Below w.heap.size w w' := by
  unfold maxLen at hm
  obtain ⟨pa, pn⟩ := p
  dsimp only
  have hb1 := newB w (.cells #[.int .i64 src, .int .i64 seq, .slice q n c9] 31)
  have hx1 := Blk.new w 31 [.int .i64 src, .int .i64 seq, .slice q n c9]
  have hb2 := newB (w.alloc (.cells #[.int .i64 src, .int .i64 seq, .slice q n c9] 31)) (.cells #[.int .u32 pa, .int .i64 pn] 25)
  have hx2 := Blk.new (w.alloc (.cells #[.int .i64 src, .int .i64 seq, .slice q n c9] 31)) 25 [.int .u32 pa, .int .i64 pn]
  rw [sz_alloc] at hx2
  have hx1 := hx1.next hb2
  have hb := hb1.trans (hb2.mono hb1.size)
  obtain ⟨S, hS⟩ : ∃ S, w.heap.size = S := ⟨_, rfl⟩
  obtain ⟨U, hU⟩ : ∃ U, (w.alloc (.cells #[.int .i64 src, .int .i64 seq, .slice q n c9] 31)).alloc (.cells #[.int .u32 pa, .int .i64 pn] 25) = U := ⟨_, rfl⟩
  rw [hU] at hx1 hx2 hb
  rw [hS] at hx1 hx2
  have HX1 := Lib.hid hx1
  have HX2 := Lib.hid hx2
  have HB := Lib.hid hb
  have HU := Lib.hid hU
  have HSE := Lib.hid hS
  have HL := Lib.hid (hl.below hb)
  have HN := Lib.hid hn
  clear hb1 hb2 hx1 hx2 hb hS hU hl hn
  go_enter Try.func50, Try.ntmps50
  go_wp2_with fail
  rw [HU.out, HSE.out]
  go_loopw [5] (fun iv wr => ∃ k : Nat, k ≤ n ∧ iv = .int .i64 k ∧ countL L ⟨pa, pn⟩ = countL (L.drop k) ⟨pa, pn⟩ ∧ Below U.heap.size U wr) (fun iv _ => n - (intOf iv).toNat)
  case atStart => exact ⟨0, Nat.zero_le _, rfl, rfl, Below.refl _ _⟩
  case round =>
    obtain ⟨k, hk, rfl, hcl, hB⟩ := hrel
    have HCL := Lib.hid hcl
    have HB2 := Lib.hid hB
    have hx1 := HX1.out.next hB
    have x2 := (rrep_boxes hx1).2.2
    clear hcl hB
    by_cases hlt : k < n
    · have hlt' : (k : Int) < (n : Int) := by omega
      have k0 : (0 : Int) ≤ (k : Int) := by omega
      have hkl : k < L.length := by rw [HN.out]; exact hlt
      obtain ⟨b9, off, rfl, c0, c1, c2⟩ := ct_cell (HL.out.below HB2.out) HN.out hlt
      have HST := Lib.hid (countL_step L k ⟨pa, pn⟩ hkl)
      obtain ⟨x, hx⟩ : ∃ x, L.getD k Ct.zero = x := ⟨_, rfl⟩
      rw [hx] at c0 c1 c2 HST
      obtain ⟨⟨xa, xn⟩, xc⟩ := x
      dsimp only at c0 c1 c2
      have hx2 := HX2.out.next HB2.out
      have hS : wr.drew.cell? ⟨S, 2, none⟩ = some (.slice (some ⟨b9, off, none⟩) n c9) ∧ wr.drew.cell? ⟨b9, off + k * 3, none⟩ = some (.int .u32 xa) ∧ wr.drew.cell? ⟨b9, off + k * 3 + 1, none⟩ = some (.int .i64 xn) ∧ wr.drew.cell? ⟨b9, off + k * 3 + 2, none⟩ = some (.int .i64 xc) ∧ wr.drew.cell? ⟨S + 1, 0, none⟩ = some (.int .u32 pa) ∧ wr.drew.cell? ⟨S + 1, 1, none⟩ = some (.int .i64 pn) := ⟨x2, c0, c1, c2, hx2.cell 0 (by simp), hx2.cell 1 (by simp)⟩
      have hg := pfx_eqGuard
      have hq := fun u => pfx_eql xa xn pa pn u
      have HBD := Lib.hid (show Below U.heap.size U wr.drew from HB2.out.drew)
      have HX1D := Lib.hid (show Blk wr.drew S 31 [.int .i64 src, .int .i64 seq, .slice (some ⟨b9, off, none⟩) n c9] from hx1.drew)
      have c2 : wr.drew.cell? ⟨b9, off + k * 3 + 2, none⟩ = some (.int .i64 xc) := c2
      clear hx hkl hx1 hx2
      by_cases he : (⟨xa, xn⟩ : Pf) = ⟨pa, pn⟩
      · have t1 : (xa == pa && xn == pn) = true := by cases he; simp
        rw [t1] at hq
        have HR := Lib.hid (show countL L ⟨pa, pn⟩ = xc from by rw [HCL.out, HST.out]; exact if_pos he)
        clear he t1 c0 c1
        go_wp2_with fail
        go_region_held_law (fun W => W.cell? ⟨S, 2, none⟩ = some (.slice (some ⟨b9, off, none⟩) n c9) ∧ W.cell? ⟨b9, off + k * 3, none⟩ = some (.int .u32 xa) ∧ W.cell? ⟨b9, off + k * 3 + 1, none⟩ = some (.int .i64 xn) ∧ W.cell? ⟨b9, off + k * 3 + 2, none⟩ = some (.int .i64 xc) ∧ W.cell? ⟨S + 1, 0, none⟩ = some (.int .u32 pa) ∧ W.cell? ⟨S + 1, 1, none⟩ = some (.int .i64 pn)) (with_reducible assumption) (fail)
        all_goals
          have x2 := (rrep_boxes HX1D.out).2.2
          clear hS
          go_wp2_with fail
          go_ret
          exact ⟨by rw [HR.out]; rfl, HB.out.trans (HBD.out.mono HB.out.size)⟩
      · have t1 : (xa == pa && xn == pn) = false := by
          rw [Bool.eq_false_iff]
          intro h
          simp only [Bool.and_eq_true, beq_iff_eq] at h
          exact he (by rw [h.1, h.2])
        rw [t1] at hq
        have HR := Lib.hid (show countL L ⟨pa, pn⟩ = countL (L.drop (k + 1)) ⟨pa, pn⟩ from by rw [HCL.out, HST.out]; exact if_neg he)
        clear he t1 c0 c1
        go_wp2_with fail
        go_region_held_law (fun W => W.cell? ⟨S, 2, none⟩ = some (.slice (some ⟨b9, off, none⟩) n c9) ∧ W.cell? ⟨b9, off + k * 3, none⟩ = some (.int .u32 xa) ∧ W.cell? ⟨b9, off + k * 3 + 1, none⟩ = some (.int .i64 xn) ∧ W.cell? ⟨b9, off + k * 3 + 2, none⟩ = some (.int .i64 xc) ∧ W.cell? ⟨S + 1, 0, none⟩ = some (.int .u32 pa) ∧ W.cell? ⟨S + 1, 1, none⟩ = some (.int .i64 pn)) (with_reducible assumption) (fail)
        all_goals
          clear hS
          go_wp2_with fail
          go_roundw
          case rel => exact ⟨k + 1, by omega, by go_num, HR.out, HBD.out⟩
          case measure => simp [intOf]; omega
    · obtain rfl : k = n := by omega
      have HR := Lib.hid (show countL L ⟨pa, pn⟩ = -1 from by rw [HCL.out, List.drop_eq_nil_of_le (by rw [HN.out]; omega)]; rfl)
      go_wp2_with fail
      go_ret
      exact ⟨by rw [HR.out]; rfl, HB.out.trans (HB2.out.mono HB.out.size)⟩
end Go.Proofs.Ytgididkpgncdjaa
