/- best: Best. -/
import Derived.Test.YtljbebeaahcjaaaJM
namespace Go.Proofs.Ytljbebeaahcjaaa
open Go.RowKit Go.Maps
set_option linter.unusedVariables false
set_option linter.unusedSimpArgs false
set_option maxRecDepth 100000
theorem run_idxB0 : ∀ u : World, (Instr.index 49 (.agg #[(.func (.func 29) #[] #[]), (.func (.func 30) #[] #[])]) (.int .i64 0)).run Try.prog u = .ok (.func (.func 29) #[] #[]) u := fun _ => by kernel_rfl
theorem run_idxB1 : ∀ u : World, (Instr.index 49 (.agg #[(.func (.func 29) #[] #[]), (.func (.func 30) #[] #[])]) (.int .i64 1)).run Try.prog u = .ok (.func (.func 30) #[] #[]) u := fun _ => by kernel_rfl
theorem LeftS.below {g n : Nat} {B : List Nat} {v : Value} {V u u2 : World} (h : LeftS g n B v V u) (hb : Below u.heap.size u u2) : LeftS g n B v V u2 := by
  obtain ⟨m, k0, k1, k2, k3, k4, k5, k6⟩ := h
  exact ⟨m, k0, k1, k2, k3, k4, k5.same (hb.block g k5.lt), k6.trans (.of_below hb)⟩
/-- What is looked at, one behind the other. -/
def bestL (l : List Rv) (n : Nat) : List Nat := selV [fun i : Nat => keyAt 4 l i, fun i : Nat => keyAt 5 l i] (leftV l n)
set_option maxHeartbeats 8000000 in
theorem bestG_any (w : World) (p : Option Addr) (l : List Rv) (n c : Nat) (h : Looks w p l n) (h0 : 0 < n) :
    Calls Try.prog 8 #[.slice p n c] w fun e w' => ∃ i : Nat, e = .returned (.tuple #[.int .i64 i, .bool true]) ∧ (∃ t, bestL l n = i :: t) ∧ Below w.heap.size w w' := by
  have hsm := h.small
  have HL := Lib.hid (leftG_any w p l n c h h0)
  have hB0 := newB w (.cells (madeCells #[.int .i64 0] n) 3)
  obtain ⟨V, hV⟩ : ∃ V, w.alloc (.cells (madeCells #[.int .i64 0] n) 3) = V := ⟨_, rfl⟩
  rw [hV] at hB0 HL
  have HR := Lib.hid (fun (g : Nat) (hg : w.heap.size ≤ g) (u : World) (hu : Turns (fun k => k = g) V u) => h.below (hB0.trans (hu.below (B := w.heap.size) hB0.size fun k hk => by omega)))
  have HBE := Lib.hid (fun (g : Nat) (hg : w.heap.size ≤ g) (u : World) (hu : Turns (fun k => k = g) V u) => show Below w.heap.size w u from hB0.trans (hu.below (B := w.heap.size) hB0.size fun k hk => by omega))
  clear h hB0 hV
  go_enter Try.func8, Try.ntmps8
  go_wp2_with (go_at_call 15; refine HL.out.mono ?_; rintro e u ⟨g, v, rfl, hgw, hB1, hs⟩)
  have HS0 := Lib.hid (show LeftS g n (leftV l n) v V u from hs)
  have HGW := Lib.hid hgw
  clear hs hB1 hgw HL
  obtain ⟨m0, rfl, _⟩ := HS0.out
  go_wp2_with (go_at_call 16; refine (behind_any _).mono ?_; rintro e u2 ⟨rfl, hu⟩)
  have HS1 := Lib.hid (HS0.out.below hu)
  clear hu HS0
  go_loopw [4, 10] (fun sv iv wr => (iv = .int .i64 0 ∧ LeftS g n (leftV l n) sv V wr) ∨ (iv = .int .i64 1 ∧ LeftS g n (selV [fun i : Nat => keyAt 4 l i] (leftV l n)) sv V wr) ∨ (iv = .int .i64 2 ∧ LeftS g n (bestL l n) sv V wr)) (fun _ iv _ => 2 - (intOf iv).toNat)
  case atStart => exact .inl ⟨rfl, HS1.out⟩
  case round =>
    rcases hrel with ⟨rfl, m, rfl, hm, hm0, hmn, hB, hA, hT⟩ | ⟨rfl, m, rfl, hm, hm0, hmn, hB, hA, hT⟩ | ⟨rfl, m, rfl, hm, hm0, hmn, hB, hA, hT⟩
    · have HC := Lib.hid ((least4_any _ p l n c g _ m n n (fun u hu => HR.out g HGW.out u (hT.trans hu)) hB hA hm hm0 hmn (by omega)).mono fun e u hr => LeftS.of (c := c) hr hm hm0 hmn hB hT)
      clear hA hB hT hm
      have hix := run_idxB0
      go_wp2_with (go_at_call 17; refine HC.out.mono ?_; rintro e u ⟨v, rfl, hs⟩)
      go_roundw
      case rel => exact .inr (.inl ⟨rfl, hs⟩)
      case measure => simp [intOf]
    · have HC := Lib.hid ((least5_any _ p l n c g _ m n n (fun u hu => HR.out g HGW.out u (hT.trans hu)) hB hA hm hm0 hmn (by omega)).mono fun e u hr => LeftS.of (c := c) hr hm hm0 hmn hB hT)
      clear hA hB hT hm
      have hix := run_idxB1
      go_wp2_with (go_at_call 17; refine HC.out.mono ?_; rintro e u ⟨v, rfl, hs⟩)
      go_roundw
      case rel => exact .inr (.inr ⟨rfl, hs⟩)
      case measure => simp [intOf]
    · obtain ⟨L, hLE⟩ : ∃ L, bestL l n = L := ⟨_, rfl⟩
      rw [hLE] at hm hB hA
      cases L with
      | nil => simp at hm; omega
      | cons i t =>
        have HB := Lib.hid (show ∃ t, bestL l n = i :: t from ⟨t, hLE⟩)
        obtain ⟨b0, o0, hp0, hc0⟩ := in_cell (hA.at (plc_in hB hsm)) (show (plc (i :: t)).length = m by unfold plc; rw [List.length_map, hm]) hm0
        simp only [Option.some.injEq, Addr.mk.injEq, and_true] at hp0
        obtain ⟨rfl, rfl⟩ := hp0
        rw [plc_get hm hm0] at hc0
        simp only [List.getD_cons_zero] at hc0
        have HBW := Lib.hid (HBE.out g HGW.out _ hT)
        have t0 : decide ((m : Int) = 0) = false := decide_eq_false (by omega)
        have t00 : ((m : Int) == 0) = false := by simp; omega
        have hmI : (0 : Int) < (m : Int) := by omega
        clear hm hB hA hT hLE
        go_wp2_with fail
        ((try simp only [Exit.inBlock, Exit.then]); refine bodyPost_ret (v := .tuple #[.int .i64 i, .bool true]) (by simp [results, Try.results8, go_sem]) rfl ⟨i, rfl, HB.out, HBW.out⟩)
end Go.Proofs.Ytljbebeaahcjaaa
