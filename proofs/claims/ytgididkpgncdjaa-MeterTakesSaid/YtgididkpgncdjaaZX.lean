/- the document's meter in memory: Demand, Stamp. -/
import Derived.Test.YtgididkpgncdjaaZW
import Derived.Test.YtgididkpgncdjaaZN
namespace Go.Proofs.Ytgididkpgncdjaa
open Go.RowKit Go.Maps
set_option linter.unusedVariables false
set_option linter.unusedSimpArgs false
set_option maxRecDepth 100000

abbrev RMf : TypeId := 36
def rmC (Z : Nat → Lz) : List Value := (List.range 16).flatMap fun i => lzC (Z i)
theorem rmC_len (Z : Nat → Lz) : (rmC Z).length = 144 := flatN_len (sz := 9) (fun _ => rfl) 16
theorem rmC_get (Z : Nat → Lz) {i j : Nat} (hi : i < 16) (hj : j < 9) : (rmC Z)[i * 9 + j]? = (lzC (Z i))[j]? := flatN_get (sz := 9) (fun _ => rfl) 16 i j hi hj
theorem rmC_set (Z : Nat → Lz) (i : Nat) (hi : i < 16) (z : Lz) : (((((((((rmC Z).set (i * 9) (.int .i64 z.i)).set (i * 9 + 1) (.int .i64 z.R.src)).set (i * 9 + 2) (.int .i64 z.R.seq)).set (i * 9 + 3) (.slice z.R.p z.R.n z.R.cap)).set (i * 9 + 4) (.int .i64 z.t)).set (i * 9 + 5) (.int .i64 z.W.src)).set (i * 9 + 6) (.int .i64 z.W.seq)).set (i * 9 + 7) (.slice z.W.p z.W.n z.W.cap)).set (i * 9 + 8) (.int .i64 z.u) = rmC (setV Z i z) := by
  apply List.ext_getElem?
  intro k
  have hl := rmC_len Z
  have hl2 := rmC_len (setV Z i z)
  by_cases hk : k < 144
  · have hq : k / 9 < 16 := by omega
    have hr : k % 9 < 9 := by omega
    have e : k = k / 9 * 9 + k % 9 := by omega
    have g1 := rmC_get Z hq hr
    have g2 := rmC_get (setV Z i z) hq hr
    rw [← e] at g1 g2
    rw [g2]
    by_cases ei : k / 9 = i
    · rw [ei, setV_self]
      have h9 : k % 9 = 0 ∨ k % 9 = 1 ∨ k % 9 = 2 ∨ k % 9 = 3 ∨ k % 9 = 4 ∨ k % 9 = 5 ∨ k % 9 = 6 ∨ k % 9 = 7 ∨ k % 9 = 8 := by omega
      rcases h9 with h | h | h | h | h | h | h | h | h <;> rw [h]
      · rw [List.getElem?_set_ne (by omega), List.getElem?_set_ne (by omega), List.getElem?_set_ne (by omega), List.getElem?_set_ne (by omega), List.getElem?_set_ne (by omega), List.getElem?_set_ne (by omega), List.getElem?_set_ne (by omega), List.getElem?_set_ne (by omega), show i * 9 = k by omega, List.getElem?_set_self (by first | omega | (simp; omega))]; rfl
      · rw [List.getElem?_set_ne (by omega), List.getElem?_set_ne (by omega), List.getElem?_set_ne (by omega), List.getElem?_set_ne (by omega), List.getElem?_set_ne (by omega), List.getElem?_set_ne (by omega), List.getElem?_set_ne (by omega), show i * 9 + 1 = k by omega, List.getElem?_set_self (by first | omega | (simp; omega))]; rfl
      · rw [List.getElem?_set_ne (by omega), List.getElem?_set_ne (by omega), List.getElem?_set_ne (by omega), List.getElem?_set_ne (by omega), List.getElem?_set_ne (by omega), List.getElem?_set_ne (by omega), show i * 9 + 2 = k by omega, List.getElem?_set_self (by first | omega | (simp; omega))]; rfl
      · rw [List.getElem?_set_ne (by omega), List.getElem?_set_ne (by omega), List.getElem?_set_ne (by omega), List.getElem?_set_ne (by omega), List.getElem?_set_ne (by omega), show i * 9 + 3 = k by omega, List.getElem?_set_self (by first | omega | (simp; omega))]; rfl
      · rw [List.getElem?_set_ne (by omega), List.getElem?_set_ne (by omega), List.getElem?_set_ne (by omega), List.getElem?_set_ne (by omega), show i * 9 + 4 = k by omega, List.getElem?_set_self (by first | omega | (simp; omega))]; rfl
      · rw [List.getElem?_set_ne (by omega), List.getElem?_set_ne (by omega), List.getElem?_set_ne (by omega), show i * 9 + 5 = k by omega, List.getElem?_set_self (by first | omega | (simp; omega))]; rfl
      · rw [List.getElem?_set_ne (by omega), List.getElem?_set_ne (by omega), show i * 9 + 6 = k by omega, List.getElem?_set_self (by first | omega | (simp; omega))]; rfl
      · rw [List.getElem?_set_ne (by omega), show i * 9 + 7 = k by omega, List.getElem?_set_self (by first | omega | (simp; omega))]; rfl
      · rw [show i * 9 + 8 = k by omega, List.getElem?_set_self (by first | omega | (simp; omega))]; rfl
    · rw [setV_ne _ _ ei, List.getElem?_set_ne (by omega), List.getElem?_set_ne (by omega), List.getElem?_set_ne (by omega), List.getElem?_set_ne (by omega), List.getElem?_set_ne (by omega), List.getElem?_set_ne (by omega), List.getElem?_set_ne (by omega), List.getElem?_set_ne (by omega), List.getElem?_set_ne (by omega), g1]
  · rw [List.getElem?_eq_none (by simp; omega), List.getElem?_eq_none (by omega)]
def Off (x : Nat) (r : Rp) : Prop := r.L ≠ [] → ∀ b off, r.p = some ⟨b, off, none⟩ → b ≠ x
structure RfM (w : World) (x : Nat) (Z : Nat → Lz) : Prop where
  intro ::
  blk : Blk w x RMf (rmC Z)
  at_ : ∀ i, i < 16 → LzAt w (Z i)
  ne : ∀ i, i < 16 → Off x (Z i).R ∧ Off x (Z i).W
theorem RfM.below {w w' : World} {x : Nat} {Z : Nat → Lz} (h : RfM w x Z) (hb : Below w.heap.size w w') : RfM w' x Z := ⟨h.blk.next hb, fun i hi => (h.at_ i hi).below hb, h.ne⟩
theorem RfM.src {w : World} {x : Nat} {Z : Nat → Lz} (h : RfM w x Z) {i : Nat} (hi : i < 16) : (w.cell? ⟨x, i * 9, none⟩ = some (.int .i64 (Z i).i) ∧ w.cell? ⟨x, i * 9 + 1, none⟩ = some (.int .i64 (Z i).R.src) ∧ w.cell? ⟨x, i * 9 + 2, none⟩ = some (.int .i64 (Z i).R.seq) ∧ w.cell? ⟨x, i * 9 + 3, none⟩ = some (.slice (Z i).R.p (Z i).R.n (Z i).R.cap) ∧ w.cell? ⟨x, i * 9 + 4, none⟩ = some (.int .i64 (Z i).t)) ∧ w.cell? ⟨x, i * 9 + 5, none⟩ = some (.int .i64 (Z i).W.src) ∧ w.cell? ⟨x, i * 9 + 6, none⟩ = some (.int .i64 (Z i).W.seq) ∧ w.cell? ⟨x, i * 9 + 7, none⟩ = some (.slice (Z i).W.p (Z i).W.n (Z i).W.cap) ∧ w.cell? ⟨x, i * 9 + 8, none⟩ = some (.int .i64 (Z i).u) :=
  ⟨⟨h.blk.cellAt (rmC_get Z hi (j := 0) (by omega)), h.blk.cellAt (rmC_get Z hi (j := 1) (by omega)), h.blk.cellAt (rmC_get Z hi (j := 2) (by omega)), h.blk.cellAt (rmC_get Z hi (j := 3) (by omega)), h.blk.cellAt (rmC_get Z hi (j := 4) (by omega))⟩, h.blk.cellAt (rmC_get Z hi (j := 5) (by omega)), h.blk.cellAt (rmC_get Z hi (j := 6) (by omega)), h.blk.cellAt (rmC_get Z hi (j := 7) (by omega)), h.blk.cellAt (rmC_get Z hi (j := 8) (by omega))⟩
def RelV (V : Nat → Mv) (Z : Nat → Lz) : Prop := ∀ i, i < 16 → RelZ (V i) (Z i)
set_option maxHeartbeats 8000000 in
theorem rdemand_any (w : World) (x : Nat) (Z : Nat → Lz) (H : RfM w x Z) (V : Nat → Mv) (hrel : RelV V Z) (hok : OkV V) (p : Pf) :
    Calls Try.prog 17 #[.pointer (some ⟨x, 0, none⟩), .agg #[.int .u32 p.a, .int .i64 p.n]] w fun e w' => e = .returned (.int .i64 (demV V p)) ∧ Below w.heap.size w w' := by
  obtain ⟨pa, pn⟩ := p
  have hb1 := newB w (.cells #[.int .u32 pa, .int .i64 pn] 25)
  have hx := Blk.new w 25 [.int .u32 pa, .int .i64 pn]
  obtain ⟨S, hS0⟩ : ∃ Q, w.heap.size = Q := ⟨_, rfl⟩
  obtain ⟨W1, hW⟩ : ∃ W, w.alloc (.cells #[.int .u32 pa, .int .i64 pn] 25) = W := ⟨_, rfl⟩
  rw [hW] at hb1 hx
  rw [hS0] at hx
  have HX := Lib.hid hx
  have HB := Lib.hid hb1
  have HW := Lib.hid hW
  have HSE := Lib.hid hS0
  have HK := Lib.hid (H.below hb1)
  have HREL := Lib.hid hrel
  have HOK := Lib.hid hok
  clear H hb1 hx hW hS0 hrel hok
  go_enter Try.func17, Try.ntmps17
  go_wp2_with fail
  rw [HW.out, HSE.out]
  go_loopw [5, 6] (fun nv iv wr => ∃ k : Nat, k ≤ 16 ∧ iv = .int .i64 k ∧ nv = .int .i64 (near (demS V ⟨pa, pn⟩ k)) ∧ Below W1.heap.size W1 wr) (fun _ iv _ => 16 - (intOf iv).toNat)
  case atStart => exact ⟨0, Nat.zero_le _, rfl, rfl, Below.refl _ _⟩
  case round =>
    obtain ⟨k, hk, rfl, rfl, hB⟩ := hrel
    have HB2 := Lib.hid hB
    have HK1 := Lib.hid (HK.out.below hB)
    clear hB
    by_cases hlt : k < 16
    · have hlt' : (k : Int) < 16 := by omega
      have k0 : (0 : Int) ≤ (k : Int) := by omega
      have hdn := demS_nn HOK.out ⟨pa, pn⟩ k (by omega)
      have hrn := rate_nn (HOK.out k hlt) ⟨pa, pn⟩
      have HAD := Lib.hid (show add (near (demS V ⟨pa, pn⟩ k)) (rateAt (V k) ⟨pa, pn⟩) = near (demS V ⟨pa, pn⟩ (k + 1)) from add_near hdn hrn)
      have hrr := fun (u : World) (hu : Below wr.heap.size wr u) => rrate_any u (Z k) ((HK1.out.at_ k hlt).below hu) ⟨pa, pn⟩
      rw [← rel_rate (HREL.out k hlt) (HOK.out k hlt) ⟨pa, pn⟩] at hrr
      obtain ⟨R, hR⟩ : ∃ R, rateAt (V k) ⟨pa, pn⟩ = R := ⟨_, rfl⟩
      rw [hR] at hrr HAD
      have HSS := Lib.hid (fun (u : World) (hu : Below wr.heap.size wr u) => (HK1.out.below hu).src hlt)
      obtain ⟨⟨i, ⟨rs, rq, rp, rL, rn, rc⟩, t, ⟨ws, wq, wp, wL, wn, wc⟩, uu⟩, hz⟩ : ∃ z, Z k = z := ⟨_, rfl⟩
      rw [hz] at hrr HSS
      dsimp only at hrr HSS
      have HRR := Lib.hid hrr
      have HXX := Lib.hid (fun (u : World) (hu : Below wr.heap.size wr u) => show u.cell? ⟨S, 0, none⟩ = some (.int .u32 pa) ∧ u.cell? ⟨S, 1, none⟩ = some (.int .i64 pn) from ⟨((HX.out.next HB2.out).next hu).cell 0 (by simp), ((HX.out.next HB2.out).next hu).cell 1 (by simp)⟩)
      have BB : Hid (Below wr.heap.size wr wr.drew) := Lib.hid (Below.refl _ _).drew
      have hS := And.intro (HSS.out _ BB.out) (HXX.out _ BB.out)
      obtain ⟨D, hD⟩ : ∃ D, near (demS V ⟨pa, pn⟩ k) = D := ⟨_, rfl⟩
      rw [hD] at HAD ⊢
      have HA := Lib.hid (fun u => radd_any D R u)
      rw [HAD.out] at HA
      clear hrr hR hz hdn hrn hD
      go_wp2_with fail
      go_region_held_law (fun W => ((W.cell? ⟨x, k * 9, none⟩ = some (.int .i64 i) ∧ W.cell? ⟨x, k * 9 + 1, none⟩ = some (.int .i64 rs) ∧ W.cell? ⟨x, k * 9 + 2, none⟩ = some (.int .i64 rq) ∧ W.cell? ⟨x, k * 9 + 3, none⟩ = some (.slice rp rn rc) ∧ W.cell? ⟨x, k * 9 + 4, none⟩ = some (.int .i64 t)) ∧ W.cell? ⟨x, k * 9 + 5, none⟩ = some (.int .i64 ws) ∧ W.cell? ⟨x, k * 9 + 6, none⟩ = some (.int .i64 wq) ∧ W.cell? ⟨x, k * 9 + 7, none⟩ = some (.slice wp wn wc) ∧ W.cell? ⟨x, k * 9 + 8, none⟩ = some (.int .i64 uu)) ∧ W.cell? ⟨S, 0, none⟩ = some (.int .u32 pa) ∧ W.cell? ⟨S, 1, none⟩ = some (.int .i64 pn)) (with_reducible assumption) (first
        | (go_at_call 36; (with_reducible refine (HRR.out _ BB.out).mono ?_); rintro e v ⟨rfl, hb⟩; have BB := Lib.hid (BB.out.trans (hb.mono BB.out.size)); have hS := And.intro (HSS.out _ BB.out) (HXX.out _ BB.out); clear hb)
        | (go_at_call 35; (with_reducible refine (HA.out _).mono ?_); rintro e w' ⟨rfl, rfl⟩))
      all_goals
        clear hS
        go_wp2_with fail
        go_roundw
        case rel => exact ⟨k + 1, by omega, by go_num, rfl, HB2.out.trans (BB.out.mono HB2.out.size)⟩
        case measure => simp [intOf]; omega
    · obtain rfl : k = 16 := by omega
      go_wp2_with fail
      go_ret
      exact ⟨rfl, HB.out.trans (HB2.out.mono HB.out.size)⟩
theorem rstampM_any (w : World) (x : Nat) (Z : Nat → Lz) (H : RfM w x Z) (V : Nat → Mv) (hrel : RelV V Z) (hok : OkV V) (src : Int) :
    Calls Try.prog 15 #[.pointer (some ⟨x, 0, none⟩), .int .i64 src] w fun e w' => e = .returned (.tuple #[.int .i64 (stampV V src).1, .bool (stampV V src).2]) ∧ w = w' := by
  by_cases h0 : src < 0
  · have t0 : decide (src < 0) = true := decide_eq_true h0
    have hs : stampV V src = (0, false) := by unfold stampV isR; rw [if_neg (by simp; omega)]
    rw [hs]
    clear H hs
    go_enter Try.func15, Try.ntmps15
    go_wp2
    exact bodyPost_ret (v := .tuple #[.int .i64 0, .bool false]) (by simp [results, Try.results15, go_sem]) rfl ⟨rfl, rfl⟩
  have t0 : decide (src < 0) = false := decide_eq_false h0
  by_cases h1 : 15 < src
  · have t1 : decide (15 < src) = true := decide_eq_true h1
    have hs : stampV V src = (0, false) := by unfold stampV isR; rw [if_neg (by simp; omega)]
    rw [hs]
    clear H hs
    go_enter Try.func15, Try.ntmps15
    go_wp2
    exact bodyPost_ret (v := .tuple #[.int .i64 0, .bool false]) (by simp [results, Try.results15, go_sem]) rfl ⟨rfl, rfl⟩
  have t1 : decide (15 < src) = false := decide_eq_false h1
  obtain ⟨i, rfl⟩ := Int.eq_ofNat_of_zero_le (show 0 ≤ src by omega)
  have hi : i < 16 := by omega
  have i0 : (0 : Int) ≤ (i : Int) := by omega
  have i16 : (i : Int) < 16 := by omega
  have hr := hrel i hi
  have hs : stampV V (i : Int) = ((V i).a, (V i).h) := by unfold stampV isR; rw [if_pos (by simp; omega)]; rfl
  rw [hs, hr.h, hr.a]
  obtain ⟨⟨k0, _, _, _, k4⟩, _⟩ := H.src hi
  have hzero : (Z i).i = 0 → (Z i).t = 0 := fun h => by
    have h2 : (V i).h = false := by rw [hr.h, h]; rfl
    rw [← hr.a, (hok i hi).no h2]; rfl
  have hi0 := hr.i0
  obtain ⟨a, ha⟩ : ∃ a, (Z i).i = a := ⟨_, rfl⟩
  obtain ⟨t, ht⟩ : ∃ a, (Z i).t = a := ⟨_, rfl⟩
  rw [ha] at k0 hzero hi0 ⊢
  rw [ht] at k4 hzero ⊢
  clear H hs hr ha ht h0 h1
  change w.cell? ⟨x, i * 9 + 4, none⟩ = _ at k4
  by_cases hz : a = 0
  · subst hz
    obtain rfl := hzero rfl
    go_enter Try.func15, Try.ntmps15
    go_wp2
    exact bodyPost_ret (v := .tuple #[.int .i64 0, .bool false]) (by simp [results, Try.results15, go_sem]) rfl ⟨rfl, rfl⟩
  · have t2 : decide (a = 0) = false := decide_eq_false hz
    have t3 : (a == 0) = false := t2
    have t4 : decide (0 < a) = true := decide_eq_true (by omega)
    rw [t4]
    go_enter Try.func15, Try.ntmps15
    go_wp2
    exact bodyPost_ret (v := .tuple #[.int .i64 t, .bool true]) (by simp [results, Try.results15, go_sem]) rfl ⟨rfl, rfl⟩
end Go.Proofs.Ytgididkpgncdjaa
