/- trie: two lists of prefixes, held against each other by the document's Same. -/
import Derived.Test.YtipecocalmmmbaaTO
namespace Go.Proofs.Ytipecocalmmmbaa
open Go.RowKit
set_option linter.unusedVariables false
set_option linter.unusedSimpArgs false

/-- Prefixes that lie one behind the other. -/
def PAt (W : World) (q : Option Addr) (ps : List (Int × Int)) : Prop :=
  ps = [] ∨ ∃ b off, q = some ⟨b, off, none⟩ ∧ ∀ i p, ps[i]? = some p → W.cell? ⟨b, off + i * 2, none⟩ = some (.int .u32 p.1) ∧ W.cell? ⟨b, off + i * 2 + 1, none⟩ = some (.int .i64 p.2)
theorem PAt.below {W W' : World} {q : Option Addr} {ps : List (Int × Int)} (h : PAt W q ps) (hb : Below W.heap.size W W') : PAt W' q ps := by
  rcases h with h | ⟨b, off, hq, hc⟩
  · exact .inl h
  · exact .inr ⟨b, off, hq, fun i p hp => ⟨kept hb (hc i p hp).1, kept hb (hc i p hp).2⟩⟩
theorem pcells_get : ∀ (ps : List (Int × Int)) (i : Nat) (p : Int × Int), ps[i]? = some p → (pcells ps)[i * 2]? = some (.int .u32 p.1) ∧ (pcells ps)[i * 2 + 1]? = some (.int .i64 p.2)
  | x :: ps, 0, p, h => by
    have : x = p := by simpa using h
    subst this
    exact ⟨rfl, rfl⟩
  | x :: ps, i + 1, p, h => by
    have h' : ps[i]? = some p := by simpa using h
    have := pcells_get ps i p h'
    unfold pcells at *
    rw [List.flatMap_cons]
    rw [show (i + 1) * 2 = i * 2 + 2 from by omega, show i * 2 + 2 + 1 = i * 2 + 1 + 2 from by omega]
    exact ⟨this.1, this.2⟩
theorem pat_row {W : World} {base : Nat} {q : Option Addr} {n c : Nat} {ps : List (Int × Int)} (h : W.ownsRow base 32 2 (.slice q n c) n (pcells ps)) (hn : ps.length = n) : PAt W q ps := by
  have hpl := pcells_len ps
  rcases h.2 with ⟨hv, hx⟩ | ⟨g, cap', cur, hv, hB, hh, hc, _⟩
  · injection hv with e1 e2 e3
    exact .inl (List.eq_nil_of_length_eq_zero (by omega))
  · injection hv with e1 e2 e3
    subst e1
    refine .inr ⟨g, 0, rfl, fun i p hp => ?_⟩
    have hg := pcells_get ps i p hp
    have key : ∀ j v, (pcells ps)[j]? = some v → W.cell? ⟨g, j, none⟩ = some v := fun j v hj => by
      have hlt : j < (pcells ps).length := (List.getElem?_eq_some_iff.1 hj).1
      rw [h.cellAt j (by omega)]; exact hj
    rw [Nat.zero_add]
    exact ⟨key _ _ hg.1, key _ _ hg.2⟩
def sameB (ps qs : List (Int × Int)) : Bool := decide (ps = qs)
set_option maxRecDepth 100000 in
set_option maxHeartbeats 4000000 in
theorem same_any (w : World) (p q : Option Addr) (ps qs : List (Int × Int)) (n m c d : Nat) (hp : PAt w p ps) (hq : PAt w q qs) (hn : ps.length = n) (hm : qs.length = m) (hl : n ≤ 1000000) (hl2 : m ≤ 1000000) :
    Calls Try.prog 15 #[.slice p n c, .slice q m d] w fun e w' => e = .returned (.bool (sameB ps qs)) ∧ Below w.heap.size w w' := by
  obtain ⟨R, hR⟩ : ∃ R, sameB ps qs = R := ⟨_, rfl⟩
  rw [hR]
  have HR := Lib.hid hR
  have HP := Lib.hid hp
  have HQ := Lib.hid hq
  have HN := Lib.hid hn
  have HM := Lib.hid hm
  clear hR hp hq hn hm
  by_cases hnm : n = m
  · subst hnm
    have hl' : (n : Int) ≤ 1000000 := by omega
    go_enter Try.func15, Try.ntmps15
    go_wp2
    go_loopw [5] (fun v wr => ∃ k, v = .int .i64 (k : Nat) ∧ k ≤ n ∧ Below w.heap.size w wr ∧ ps.take k = qs.take k) (fun v _ => n - (intOf v).toNat)
    case atStart => exact ⟨0, rfl, Nat.zero_le _, Below.refl _ _, rfl⟩
    case round =>
      obtain ⟨k, rfl, hk, hB, ht⟩ := hrel
      have HB := Lib.hid hB
      have HT := Lib.hid ht
      clear hB ht
      by_cases hlt : k < n
      · have hlt' : (k : Int) < (n : Int) := by omega
        have k0 : (0 : Int) ≤ (k : Int) := by omega
        obtain ⟨x, hx⟩ : ∃ x, ps[k]? = some x := ⟨_, List.getElem?_eq_getElem (by rw [HN.out]; exact hlt)⟩
        obtain ⟨y, hy⟩ : ∃ y, qs[k]? = some y := ⟨_, List.getElem?_eq_getElem (by rw [HM.out]; exact hlt)⟩
        rcases HP.out.below HB.out with h | ⟨b, off, rfl, hc⟩
        · have := HN.out; rw [h] at this; simp at this; omega
        rcases HQ.out.below HB.out with h | ⟨b', off', rfl, hc'⟩
        · have := HM.out; rw [h] at this; simp at this; omega
        obtain ⟨a0, a1⟩ := hc k x hx
        obtain ⟨b0, b1⟩ := hc' k y hy
        obtain ⟨xa, xn⟩ := x
        obtain ⟨ya, yn⟩ := y
        dsimp only at a0 a1 b0 b1
        have hE := fun (U : World) => pfx_neq xa xn ya yn U
        have hEG := fun (op : BinOp) (x y : Operand) (xs ys : Array Value) (U : World) => pfx_eqGuard op x y xs ys U
        have HX := Lib.hid hx
        have HY := Lib.hid hy
        clear hc hc' hx hy
        by_cases he : xa = ya ∧ xn = yn
        · obtain ⟨rfl, rfl⟩ := he
          have hb : (!(xa == xa && xn == xn)) = false := by simp
          rw [hb] at hE
          have HS := Lib.hid (show ps.take (k + 1) = qs.take (k + 1) from by
            have h1 := (List.getElem?_eq_some_iff.1 HX.out)
            have h2 := (List.getElem?_eq_some_iff.1 HY.out)
            obtain ⟨l1, g1⟩ := h1
            obtain ⟨l2, g2⟩ := h2
            rw [List.take_succ_eq_append_getElem l1, List.take_succ_eq_append_getElem l2, g1, g2, HT.out])
          clear hb
          go_wp2
          go_quiet (fail)
          go_wp2
          go_roundw
          case rel => exact ⟨k + 1, by go_num, by omega, HB.out.trans (below_dN _ _ _), HS.out⟩
          case measure => simp [intOf]; omega
        · have hb : (!(xa == ya && xn == yn)) = true := by simp; omega
          rw [hb] at hE
          have HS := Lib.hid (show R = false from by
            rw [← HR.out]; unfold sameB
            have : ps ≠ qs := fun e => by
              have h1 := HX.out
              rw [e, HY.out] at h1
              injection h1 with h1
              injection h1 with e1 e2
              exact he ⟨e1.symm, e2.symm⟩
            simp [this])
          clear hb he
          go_wp2
          go_quiet (fail)
          go_wp2
          go_ret
          exact ⟨by rw [HS.out]; rfl, HB.out.trans (below_dN _ _ _)⟩
      · obtain rfl : k = n := by omega
        go_wp2
        go_ret
        refine ⟨?_, HB.out⟩
        have h1 := HT.out
        rw [List.take_of_length_le (by rw [HN.out]; exact Nat.le_refl _), List.take_of_length_le (by rw [HM.out]; exact Nat.le_refl _)] at h1
        rw [← HR.out]; unfold sameB; rw [h1]; simp
  · have hnm' : ((n : Int) != (m : Int)) = true := by simp; omega
    have HNM := Lib.hid hnm
    clear hnm
    go_enter Try.func15, Try.ntmps15
    go_wp2
    go_ret
    refine ⟨?_, Below.refl _ _⟩
    rw [← HR.out]; unfold sameB
    have : ps ≠ qs := fun e => HNM.out (by rw [← HN.out, ← HM.out, e])
    simp [this]
end Go.Proofs.Ytipecocalmmmbaa
