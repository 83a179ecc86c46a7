/- trie: the way down to a prefix, as an iterator tells it. -/
import Derived.RangeFuncNested
import Derived.RangeFuncBound
import Derived.RangeFuncCalls
import Derived.RangeFuncLeaves
import Derived.RangeFuncFrom
import Derived.Shelf.Abstract
import Derived.Shelf.RegionOpen
import Derived.OwnWalkIn
import Derived.TacticsInMore
import Derived.LoopNIn
import Derived.LoopIn
import Derived.Sort.QuietIn
import Derived.Test.YtlkpalaakncicaaV5
namespace Go.Proofs.Ytlkpalaakncicaa
open Go.RowKit Go.Shelf
set_option linter.unusedVariables false
set_option linter.unusedSimpArgs false

attribute [local go_sem] Oper.semAt_some
theorem wide_fn (f : FuncId) : Fence.wide.fn f = True := rfl
attribute [local go_sem, local simp] wide_fn

/-- A node on the way to an address: how many bits lead to it, its block. -/
abbrev PN (N : Int → Nat → Option Nat) (a : Int) : Type := { x : Nat × Nat // x.1 ≤ 32 ∧ N (mk a x.1) x.1 = some x.2 }
def encPN {N : Int → Nat → Option Nat} {a : Int} (x : PN N a) : Array Value := #[.int .i64 x.1.1, .pointer (some ⟨x.1.2, 0, none⟩)]
/-- What a round keeps: of the first M blocks all but those of the caller's own. -/
def KpX (S : Nat → Prop) (M : Nat) (A C : World) : Prop := A.heap.size ≤ C.heap.size ∧ ∀ k, k < M → ¬ S k → C.heap[k]? = A.heap[k]?
theorem KpX.refl (S : Nat → Prop) (M : Nat) (A : World) : KpX S M A A := ⟨Nat.le_refl _, fun _ _ _ => rfl⟩
theorem kpX_t {S : Nat → Prop} {M : Nat} {A B C : World} (h : KpX S M A B) (k : KpX S M B C) : KpX S M A C := ⟨Nat.le_trans h.1 k.1, fun i hi hn => (k.2 i hi hn).trans (h.2 i hi hn)⟩
theorem kpX_b {S : Nat → Prop} {M : Nat} {w : World} (hM : M ≤ w.heap.size) (W : World) (l : Nat) (o o' : Obj) (hl : w.heap.size ≤ l) (h : W.heap[l]? = some o) (_ : o.isCells = false) (_ : o.isWalk = false) : KpX S M W (W.putObj l o') :=
  ⟨by simp, fun k hk _ => World.putObj_heap_other (by omega)⟩
theorem KpX.of_below {S : Nat → Prop} {M : Nat} {A C : World} (h : Below A.heap.size A C) (hM : M ≤ A.heap.size) : KpX S M A C := ⟨h.size, fun k hk _ => h.block k (by omega)⟩
theorem KpX.setCell {S : Nat → Prop} {M : Nat} {A C : World} (h : KpX S M A C) {p : Addr} (hp : S p.block ∨ M ≤ p.block) (v : Value) : KpX S M A (C.setCell p v) :=
  kpX_t h ⟨by simp [World.setCell], fun k hk hn => Below.heap_setCell _ _ _ k (fun e => by subst e; exact hp.elim hn (by omega))⟩
theorem KpX.blk {S : Nat → Prop} {M : Nat} {A C : World} (h : KpX S M A C) {g : Nat} {t : TypeId} {vs : List Value} (hb : Blk A g t vs) (hg : g < M) (hn : ¬ S g) : Blk C g t vs := hb.of_same (h.2 g hg hn)
theorem grown_dN (w : World) (q : Nat) : w.grownBy (w.drewN q) none := ⟨rfl, rfl, rfl, Nat.le_refl _, fun _ _ _ => rfl⟩
/-- As many as there are, in order. -/
def PrePN {N : Int → Nat → Option Nat} {a : Int} (m : Nat) (xs : List (PN N a)) : Prop := xs.map (·.1.1) = List.range xs.length ∧ xs.length ≤ m + 1
def AllPN {N : Int → Nat → Option Nat} {a : Int} (m : Nat) (xs : List (PN N a)) : Prop := PrePN m xs ∧ (xs.length = m + 1 ∨ N (mk a xs.length) xs.length = none)
theorem PrePN.snoc {N : Int → Nat → Option Nat} {a : Int} {m : Nat} {xs : List (PN N a)} (h : PrePN m xs) (x : PN N a) (hx : x.1.1 = xs.length) (hm : xs.length ≤ m) : PrePN m (xs ++ [x]) := by
  refine ⟨?_, by simp; omega⟩
  rw [List.map_append, h.1, List.length_append]
  simp only [List.map_cons, List.map_nil, List.length_cons, List.length_nil, Nat.zero_add]
  rw [List.range_succ, hx]
theorem along_if (w : World) (t : Nat) (a n : Int) :
    Calls Try.prog 58 #[.pointer (some ⟨t, 0, none⟩), .agg #[.int .u32 a, .int .i64 n]] w fun e w' => e = .returned (.func (.func 72) #[] #[.pointer (some ⟨w.heap.size, 0, none⟩), .pointer (some ⟨w.heap.size + 1, 0, none⟩)]) ∧ w' = (w.alloc (.cells #[.pointer (some ⟨t, 0, none⟩)] 75)).alloc (.cells #[.int .u32 a, .int .i64 n] 32) := by
  go_enter Try.func58, Try.ntmps58
  go_wp2
  go_ret
  exact ⟨by simp, rfl⟩
/-- What the iterator reads. -/
structure AlS (TR ND TH : TypeId) (w : World) (B t r : Nat) (s : Int) (N : Int → Nat → Option Nat) (L : List TE) (a : Int) (m : Nat) (Bt Bp : Nat) (S : Nat → Prop) (M : Nat) : Prop where
  intro ::
  tr : TrAt TR ND TH w B t r s N L
  bt : w.cell? ⟨Bt, 0, none⟩ = some (.pointer (some ⟨t, 0, none⟩))
  bp : Blk w Bp 32 [.int .u32 a, .int .i64 m]
  inM : ∀ k, (TrIn t N k ∨ k = Bp) → k < M ∧ ¬ S k
theorem AlS.down {TR ND TH : TypeId} {w w' : World} {B t r : Nat} {s : Int} {N : Int → Nat → Option Nat} {L : List TE} {a : Int} {m Bt Bp : Nat} {S : Nat → Prop} {M : Nat} (h : AlS TR ND TH w B t r s N L a m Bt Bp S M) (hk : KpX S M w w') (a0 : 0 ≤ a) (a1 : a < 4294967296) {d b : Nat} (hd : d ≤ 32) (hb : N (mk a d) d = some b) :
    w'.cell? ⟨b, 1 + (bitP a d).toNat, none⟩ = some (optP (N (mk a ((d + 1 : Nat) : Int)) (d + 1))) := by
  obtain ⟨hM, hS⟩ := h.inM b (.inl (.inr ⟨_, _, hb⟩))
  rw [World.cell?_of_block (w := w) (hk.2 b hM hS)]
  by_cases h31 : d ≤ 31
  · have hy := node_mk (a := a) (d := d + 1) (by omega) a0 a1
    have hdn := mk_down (a := a) (d := d) h31 a0 a1
    have hbit : bitP (mk a ((d + 1 : Nat) : Int)) d = bitP a d := by
      have h1 := kid_bit h31 hy
      rw [hdn] at h1
      have h2 := mk_next a0 a1 h31
      have hp := pw_pos d
      rcases bit_cases a d with e | e <;> rcases bit_cases (mk a ((d + 1 : Nat) : Int)) d with e' | e' <;> rw [e] at h2 <;> rw [e'] at h1 <;> omega
    have := h.tr.kids h31 hy (by rw [hdn]; exact hb)
    rw [hbit] at this
    exact this
  · obtain rfl : d = 32 := by omega
    have e0 : bitP a ((32 : Nat) : Int) = 0 := by unfold bitP; rw [if_neg (by omega), if_pos (by omega)]
    have hno : ∀ x, N x (32 + 1) = none := fun x => by
      rcases hc : N x (32 + 1) with _ | c
      · rfl
      · have := (h.tr.fit _ _ _ hc).d32; omega
    rw [e0, hno]
    have := (h.tr.node _ _ _ hb).cell 1 (by simp)
    refine Eq.trans (b := some (optP (N (mk a ((32 : Nat) : Int)) (32 + 1)))) this ?_
    rw [hno]
set_option maxRecDepth 100000 in
set_option maxHeartbeats 4000000 in
theorem along1_if (n : Nat) (w : World) (B t r : Nat) (s : Int) (N : Int → Nat → Option Nat) (L : List TE) (a : Int) (m Bt Bp : Nat) (S : Nat → Prop) (M : Nat) (h : AlS TRf NDf THf w B t r s N L a m Bt Bp S M) (hm : m ≤ 32) (a0 : 0 ≤ a) (a1 : a < 4294967296) :
    SeqStopsK Fence.wide n Try.prog 72 #[.pointer (some ⟨Bt, 0, none⟩), .pointer (some ⟨Bp, 0, none⟩)] (encPN (N := N) (a := a)) (KpX S M) (AllPN m) (PrePN m) 33 w := fun l J Jx W hW hJ hJx hY h0 => by
  have hA : AlS TRf NDf THf W B t r s N L a m Bt Bp S M := ⟨h.tr.below hW, kept hW h.bt, h.bp.next hW, h.inM⟩
  have HA := Lib.hid hA
  have HTop := Lib.hid (top_if W t r (hA.tr.tb.cell 0 (by simp)))
  have bt := hA.bt
  have hroot := Lib.hid hA.tr.root
  have HY := Lib.hid @hY
  have HAB := Lib.hid hJ
  clear h hW hA hJ hJx hY
  refine callsIn_of_wp Try.func72 rfl trivial ?_ rfl
  simp only [Try.ntmps72, List.size_toArray, List.length_cons, List.length_nil, Nat.reduceAdd, Nat.reduceSub, Array.replicate_succ, Array.replicate_zero, List.push_toArray, List.append_toArray, List.nil_append, List.cons_append]
  have hdd : ∀ k : Nat, (Fence.wide.depth.isSome = true → 1 ≤ k) := fun k h => by cases h
  have ht : Fence.wide.fn 68 := trivial
  gi_wp2_with ((try refine ⟨hdd _, ?_⟩); gi_at_call 68; refine (callsIn_wide.2 HTop.out).mono ?_; rintro e w1 ⟨rfl, rfl⟩)
  gi_loopw [4, 5] (fun v4 v5 wr => ∃ pre : List (PN N a), v5 = .int .i64 pre.length ∧ PrePN m pre ∧ KpX S M W wr ∧ J pre wr ∧ v4 = optP (N (mk a pre.length) pre.length)) (fun _ v _ => 34 - (intOf v).toNat)
  case atStart =>
    refine ⟨[], rfl, ⟨rfl, by simp⟩, KpX.refl _ _ _, h0, ?_⟩
    show _ = optP (N (mk a ((0 : Nat) : Int)) 0)
    rw [show mk a ((0 : Nat) : Int) = 0 from mk_zero a a0 a1, hroot.out]; rfl
  case round =>
    obtain ⟨pre, rfl, hpre, hkp, hj, hv⟩ := hrel
    obtain ⟨d, hd⟩ : ∃ d, pre.length = d := ⟨_, rfl⟩
    rw [hd] at hv ⊢
    have hdm : d ≤ m + 1 := by rw [← hd]; exact hpre.2
    have hbp := hkp.blk HA.out.bp (HA.out.inM _ (.inr rfl)).1 (HA.out.inM _ (.inr rfl)).2
    have p1 : wr.cell? ⟨Bp, 1, none⟩ = some (.int .i64 m) := hbp.cell 1 (by simp)
    have p0 : wr.cell? ⟨Bp, 0, none⟩ = some (.int .u32 a) := hbp.cell 0 (by simp)
    rcases hN : N (mk a d) d with _ | b
    · rw [hN, optP_none] at hv
      subst hv
      have HF := Lib.hid (show AllPN m pre ∧ J pre wr from ⟨⟨hpre, .inr (by rw [hd]; exact hN)⟩, hj⟩)
      clear hN hpre hkp hj
      have HD := Lib.hid hd
      clear hd
      gi_wp2
      first | go_end0 | (refine ⟨fun _ h => (by cases h), ?_⟩; gi_wp2; go_end0)
      exact ⟨⟨_, rfl⟩, .inl ⟨pre, HF.out.1, HF.out.2⟩⟩
    · rw [hN, optP_some] at hv
      subst hv
      by_cases hle : d ≤ m
      · have hdle : (d : Int) ≤ (m : Int) := by omega
        have hx : d ≤ 32 ∧ N (mk a d) d = some b := ⟨by omega, hN⟩
        have HSN := Lib.hid (hpre.snoc (⟨(d, b), hx⟩ : PN N a) hd.symm (by omega))
        have HLEN := Lib.hid (show (pre ++ [(⟨(d, b), hx⟩ : PN N a)]).length = d + 1 by simp [hd])
        obtain ⟨fn, tmps, assign, body, hy, hR⟩ := HY.out pre (⟨(d, b), hx⟩ : PN N a) wr hj (by omega)
        dsimp only [encPN] at hy
        have HDN := Lib.hid (fun (U : World) (hU : KpX S M wr U) => HA.out.down (kpX_t hkp hU) a0 a1 (by omega) hN)
        have HKP := Lib.hid hkp
        have HPR := Lib.hid hpre
        have HBit := Lib.hid (fun (U : World) => (bit_any a d U a0 a1).mono fun e w' (h : _ ∧ _) => (⟨h.1, h.2.symm⟩ : e = .returned (.int .i64 (bitP a d)) ∧ w' = U))
        have d0 : (0 : Int) ≤ (d : Int) := by omega
        clear hN hpre hj hkp hd
        have hyl : Fence.wide.fn 70 := trivial
        gi_wp2_with ((refine ⟨hdd _, ?_⟩); refine hR.mono ?_; clear hR; rintro e W1 (⟨rfl, hj1, hk1⟩ | ⟨rfl, hx1⟩))
        · have HJ1 := Lib.hid hj1
          have hbp1 := (kpX_t HKP.out hk1).blk HA.out.bp (HA.out.inM _ (.inr rfl)).1 (HA.out.inM _ (.inr rfl)).2
          have P0 : W1.cell? ⟨Bp, 0, none⟩ = some (.int .u32 a) := hbp1.cell 0 (by simp)
          have hcb := HDN.out W1 hk1
          have HK1 := Lib.hid hk1
          clear p0 p1 hj1 hk1 hbp1
          rcases bit_cases a d with hb | hb
          all_goals
            rw [hb] at hcb HBit
            simp only [Int.toNat_zero, Int.toNat_one, Nat.reduceAdd] at hcb
            obtain ⟨o, ho⟩ : ∃ o, optP (N (mk a ((d + 1 : Nat) : Int)) (d + 1)) = o := ⟨_, rfl⟩
            rw [ho] at hcb
            have HO := Lib.hid ho
            clear ho hb
            gi_wp2
            gi_quiet ((refine ⟨hdd _, ?_⟩; gi_at_call 70; exact CallsIn.quiet_of_same (callsIn_wide.2 (HBit.out _))))
            gi_wp2
            all_goals
              go_roundw
              case rel => exact ⟨pre ++ [(⟨(d, b), hx⟩ : PN N a)], by rw [HLEN.out]; go_num, HSN.out, kpX_t HKP.out HK1.out, HAB.out _ _ _ none HJ1.out (grown_dN _ _) (fun r e => by cases e), by rw [HLEN.out, HO.out]⟩
              case measure => simp [intOf]; omega
        · go_end0
          exact ⟨⟨_, rfl⟩, .inr ⟨_, HSN.out, hx1⟩⟩
      · have hdd1 : d = m + 1 := by omega
        have HF := Lib.hid (show AllPN m pre ∧ J pre wr from ⟨⟨hpre, .inl (by rw [hd]; exact hdd1)⟩, hj⟩)
        have hlt : ¬ (d : Int) ≤ (m : Int) := by omega
        have hlt2 : decide ((d : Int) ≤ (m : Int)) = false := decide_eq_false hlt
        clear hN hpre hkp hj
        have HD := Lib.hid hd
        clear hd hdd1
        gi_wp2
        first | go_end0 | (refine ⟨fun _ h => (by cases h), ?_⟩; gi_wp2; go_end0)
        exact ⟨⟨_, rfl⟩, .inl ⟨pre, HF.out.1, HF.out.2⟩⟩
end Go.Proofs.Ytlkpalaakncicaa
