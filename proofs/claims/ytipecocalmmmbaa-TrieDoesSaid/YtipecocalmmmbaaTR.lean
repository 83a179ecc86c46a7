/- trie: the document's answer: its list in memory; find. -/
import Derived.Test.YtipecocalmmmbaaTX
namespace Go.Proofs.Ytipecocalmmmbaa
open Go.RowKit
set_option linter.unusedVariables false
set_option linter.unusedSimpArgs false

/-- Things with numbers that lie one behind the other. -/
abbrev O3 := Int × Int × Int
def OAt (W : World) (q : Option Addr) (l : List O3) : Prop :=
  l = [] ∨ ∃ b off, q = some ⟨b, off, none⟩ ∧ ∀ (i : Nat) (p : O3), l[i]? = some p → W.cell? ⟨b, off + i * 3, none⟩ = some (.int .u32 p.1) ∧ W.cell? ⟨b, off + i * 3 + 1, none⟩ = some (.int .i64 p.2.1) ∧ W.cell? ⟨b, off + i * 3 + 2, none⟩ = some (.int .i64 p.2.2)
theorem OAt.below {W W' : World} {q : Option Addr} {l : List O3} (h : OAt W q l) (hb : Below W.heap.size W W') : OAt W' q l := by
  rcases h with h | ⟨b, off, hq, hc⟩
  · exact .inl h
  · exact .inr ⟨b, off, hq, fun i p hp => ⟨kept hb (hc i p hp).1, kept hb (hc i p hp).2.1, kept hb (hc i p hp).2.2⟩⟩
/-- Where a prefix stands, or would. -/
def fI (l : List O3) (a n : Int) : Nat := (l.takeWhile (fun p => decide (cmpP p.1 p.2.1 a n < 0))).length
def fB (l : List O3) (a n : Int) : Bool := match l[fI l a n]? with | some p => p.1 == a && p.2.1 == n | none => false
theorem fI_le (l : List O3) (a n : Int) : fI l a n ≤ l.length := (List.takeWhile_sublist _).length_le
theorem drewsN {B : Nat} {w W : World} (h : Below B w W) (n : Nat) : Below B w (W.drewN n) := ⟨h.os, h.tape, h.output, h.size, h.block⟩
theorem fI_lt : ∀ {l : List O3} {a n : Int} {k : Nat} (_ : k < fI l a n) {p : O3} (_ : l[k]? = some p), cmpP p.1 p.2.1 a n < 0
  | [], a, n, k, hk, p, hp => by cases hp
  | x :: l, a, n, k, hk, p, hp => by
    unfold fI at hk
    rcases hx : decide (cmpP x.1 x.2.1 a n < 0) with _ | _
    · simp only [List.takeWhile_cons, hx] at hk; simp at hk
    · simp only [List.takeWhile_cons, hx, if_true, List.length_cons] at hk
      rcases k with _ | k
      · have : x = p := by simpa using hp
        rw [← this]; exact of_decide_eq_true hx
      · rw [List.getElem?_cons_succ] at hp
        exact fI_lt (by unfold fI; omega) hp
theorem fI_at : ∀ {l : List O3} {a n : Int} {p : O3}, l[fI l a n]? = some p → ¬ cmpP p.1 p.2.1 a n < 0
  | [], a, n, p, h => by cases h
  | x :: l, a, n, p, h => by
    unfold fI at h
    rcases hx : decide (cmpP x.1 x.2.1 a n < 0) with _ | _
    · simp only [List.takeWhile_cons, hx] at h
      have : x = p := by simpa using h
      rw [← this]; exact of_decide_eq_false hx
    · simp only [List.takeWhile_cons, hx, if_true, List.length_cons, List.getElem?_cons_succ] at h
      exact fI_at h
set_option maxRecDepth 100000 in
set_option maxHeartbeats 16000000 in
theorem find_any (w : World) (x : Nat) (q : Option Addr) (n c : Nat) (l : List O3) (pa pn : Int) (hx : w.cell? ⟨x, 0, none⟩ = some (.slice q n c)) (hl : l.length = n) (hq : OAt w q l) (hn : n ≤ 1000) :
    Calls Try.prog 40 #[.pointer (some ⟨x, 0, none⟩), .agg #[.int .u32 pa, .int .i64 pn]] w fun e w' => e = .returned (.tuple #[.int .i64 (fI l pa pn : Nat), .bool (fB l pa pn)]) ∧ Below w.heap.size w w' := by
  have HA := Lib.hid (newB w (.cells #[.int .u32 pa, .int .i64 pn] 32))
  have hX := Blk.new w 32 [.int .u32 pa, .int .i64 pn]
  obtain ⟨V, hV⟩ : ∃ V, w.alloc (.cells #[.int .u32 pa, .int .i64 pn] 32) = V := ⟨_, rfl⟩
  obtain ⟨P, hP⟩ : ∃ P, w.heap.size = P := ⟨_, rfl⟩
  have hX : Blk V P 32 [.int .u32 pa, .int .i64 pn] := hP ▸ hV ▸ hX
  rw [hV] at HA
  have HX := Lib.hid hX
  have HQ := Lib.hid hq
  have HC := Lib.hid hx
  have HL := Lib.hid hl
  have HV := Lib.hid hV
  have HP := Lib.hid hP
  clear hX hV hP hq hx hl
  go_enter Try.func40, Try.ntmps40
  go_wp2_with fail
  rw [HV.out, HP.out]
  go_loopw [6] (fun v wr => ∃ (k : Nat), v = .int .i64 k ∧ k ≤ fI l pa pn ∧ Below w.heap.size w wr ∧ Blk wr P 32 [.int .u32 pa, .int .i64 pn]) (fun v _ => n - (intOf v).toNat)
  case atStart => exact ⟨0, rfl, Nat.zero_le _, HA.out, HX.out⟩
  case round =>
    obtain ⟨k, rfl, hk, hB, hX⟩ := hrel
    have HB := Lib.hid hB
    have HXr := Lib.hid hX
    have HK := Lib.hid hk
    have hfl : fI l pa pn ≤ n := by rw [← HL.out]; exact fI_le _ _ _
    have hx' : wr.cell? ⟨x, 0, none⟩ = some (.slice q n c) := kept hB HC.out
    have p0' : wr.cell? ⟨P, 0, none⟩ = some (.int .u32 pa) := HXr.out.cell 0 (by simp)
    have p1' : wr.cell? ⟨P, 1, none⟩ = some (.int .i64 pn) := HXr.out.cell 1 (by simp)
    clear hB hX
    by_cases hlt : k < n
    · have hlt' : (k : Int) < (n : Int) := by omega
      have hlt2 : decide ((k : Int) < (n : Int)) = true := decide_eq_true hlt'
      have k0 : (0 : Int) ≤ (k : Int) := by omega
      obtain ⟨y, hy⟩ : ∃ y, l[k]? = some y := ⟨_, List.getElem?_eq_getElem (by rw [HL.out]; exact hlt)⟩
      rcases HQ.out with h | ⟨b, off, rfl, hc⟩
      · have := HL.out; rw [h] at this; simp at this; omega
      obtain ⟨c0, c1, c2⟩ := hc k y hy
      have C0 : wr.drew.cell? ⟨b, off + k * 3, none⟩ = some (.int .u32 y.1) := (show wr.cell? ⟨b, off + k * 3, none⟩ = _ from kept HB.out c0)
      have C1 : wr.drew.cell? ⟨b, off + k * 3 + 1, none⟩ = some (.int .i64 y.2.1) := (show wr.cell? ⟨b, off + k * 3 + 1, none⟩ = _ from kept HB.out c1)
      have X0 : wr.drew.cell? ⟨x, 0, none⟩ = some (.slice (some ⟨b, off, none⟩) n c) := hx'
      have P0 : wr.drew.cell? ⟨P, 0, none⟩ = some (.int .u32 pa) := p0'
      have P1 : wr.drew.cell? ⟨P, 1, none⟩ = some (.int .i64 pn) := p1'
      have HD := Lib.hid (show Below wr.heap.size wr wr.drew from (Below.refl _ _).drew)
      have HCM := Lib.hid (rcompare_any y.1 y.2.1 pa pn wr.drew)
      clear hc c0 c1 c2 hx' p0' p1'
      have HY := Lib.hid hy
      obtain ⟨ya, yn, yx⟩ := y
      dsimp only at C0 C1 HCM
      have HFL := Lib.hid (fun h : k < fI l pa pn => fI_lt h hy)
      have HFA := Lib.hid (fun h : k = fI l pa pn => fI_at (l := l) (a := pa) (n := pn) (h ▸ hy))
      obtain ⟨cv, hcv⟩ : ∃ cv, cmpP ya yn pa pn = cv := ⟨_, rfl⟩
      have HFL := Lib.hid (show k < fI l pa pn → cv < 0 from fun h => by rw [← hcv]; exact HFL.out h)
      have HFA := Lib.hid (show k = fI l pa pn → ¬ cv < 0 from fun h => by rw [← hcv]; exact HFA.out h)
      rw [hcv] at HCM
      have HCC := Lib.hid (show ∀ U : World, Below wr.heap.size wr U → U.cell? ⟨b, off + k * 3, none⟩ = some (.int .u32 ya) ∧ U.cell? ⟨b, off + k * 3 + 1, none⟩ = some (.int .i64 yn) ∧ U.cell? ⟨x, 0, none⟩ = some (.slice (some ⟨b, off, none⟩) n c) ∧ U.cell? ⟨P, 0, none⟩ = some (.int .u32 pa) ∧ U.cell? ⟨P, 1, none⟩ = some (.int .i64 pn) from fun U hU => ⟨kept hU C0, kept hU C1, kept hU X0, kept hU P0, kept hU P1⟩)
      clear hy hcv
      go_wp2_with fail
      go_still_tail 17, (by kernel_rfl)
      change wpList _ _ _ _ _ wr.drew
      obtain ⟨U, hU⟩ : ∃ U, wr.drew = U := ⟨_, rfl⟩
      rw [hU] at HCM HD C0 C1 X0 P0 P1 ⊢
      clear hU
      go_wp2_with fail
      refine HCM.out.mono ?_
      rintro e w4 ⟨rfl, hb4⟩
      have hB4 : Below wr.heap.size wr w4 := HD.out.trans (hb4.mono HD.out.size)
      have HB4 := Lib.hid hB4
      obtain ⟨c0, c1, x0, q0, q1⟩ := HCC.out w4 hB4
      clear hb4 P0 P1 C0 C1 X0 hB4
      by_cases hkf : k < fI l pa pn
      · have hcv0 : cv < 0 := HFL.out hkf
        have hcv1 : decide (cv < 0) = true := decide_eq_true hcv0
        go_wp2_with fail
        go_roundw
        case rel => exact ⟨k + 1, by go_num, by omega, HB.out.trans (HB4.out.mono HB.out.size), HXr.out.next HB4.out⟩
        case measure => simp [intOf]; omega
      · have hke : fI l pa pn = k := by have := HK.out; omega
        have hcv0 : ¬ cv < 0 := by have := HFA.out hke.symm; omega
        have hcv1 : decide (cv < 0) = false := decide_eq_false hcv0
        have hE := fun (U : World) => pfx_eql ya yn pa pn U
        have hEG := fun (op : BinOp) (x y : Operand) (xs ys : Array Value) (U : World) => pfx_eqGuard op x y xs ys U
        have HFB := Lib.hid (show fB l pa pn = (ya == pa && yn == pn) by unfold fB; rw [hke, HY.out])
        have HKE := Lib.hid hke
        clear hke
        have HB5 := Lib.hid (HB.out.trans (HB4.out.mono HB.out.size))
        go_wp2_with fail
        obtain ⟨d0, d1, y0, r0, r1⟩ := HCC.out w4.drew HB4.out.drew
        go_quiet (fail)
        go_wp2_with fail
        exact bodyPost_ret (v := .tuple #[.int .i64 (k : Int), .bool (ya == pa && yn == pn)]) (by simp [results, Try.results40, go_sem]) rfl ⟨by rw [HKE.out, HFB.out], drewsN HB5.out _⟩
    · obtain rfl : k = n := by omega
      have hke : fI l pa pn = k := by have := HK.out; omega
      have HFB := Lib.hid (show fB l pa pn = false by unfold fB; rw [hke, List.getElem?_eq_none (by rw [HL.out]; exact Nat.le_refl _)])
      have HKE := Lib.hid hke
      clear hke
      have hx2 : wr.drew.cell? ⟨x, 0, none⟩ = some (.slice q k c) := hx'
      have hx3 : wr.drew.drew.cell? ⟨x, 0, none⟩ = some (.slice q k c) := hx'
      go_wp2_with fail
      go_quiet (fail)
      go_wp2_with fail
      go_quiet (fail)
      go_wp2_with fail
      exact bodyPost_ret (v := .tuple #[.int .i64 (k : Int), .bool false]) (by simp [results, Try.results40, go_sem]) rfl ⟨by rw [HKE.out, HFB.out], drewsN (drewsN HB.out _) _⟩
end Go.Proofs.Ytipecocalmmmbaa
