/- best: left. -/
import Derived.Test.YtljbebeaahcjaaaJL
import Derived.Test.YtljbebeaahcjaaaJE
import Derived.Test.YtljbebeaahcjaaaJ9
namespace Go.Proofs.Ytljbebeaahcjaaa
open Go.RowKit Go.Maps
set_option linter.unusedVariables false
set_option linter.unusedSimpArgs false
set_option maxRecDepth 100000
theorem run_idx0 : ∀ u : World, (Instr.index 66 (.agg #[(.func (.func 43) #[] #[]), (.func (.func 44) #[] #[]), (.func (.func 46) #[] #[])]) (.int .i64 0)).run Try.prog u = .ok (.func (.func 43) #[] #[]) u := fun _ => by kernel_rfl
theorem run_idx1 : ∀ u : World, (Instr.index 66 (.agg #[(.func (.func 43) #[] #[]), (.func (.func 44) #[] #[]), (.func (.func 46) #[] #[])]) (.int .i64 1)).run Try.prog u = .ok (.func (.func 44) #[] #[]) u := fun _ => by kernel_rfl
theorem run_idx2 : ∀ u : World, (Instr.index 66 (.agg #[(.func (.func 43) #[] #[]), (.func (.func 44) #[] #[]), (.func (.func 46) #[] #[])]) (.int .i64 2)).run Try.prog u = .ok (.func (.func 46) #[] #[]) u := fun _ => by kernel_rfl
/-- The places that are left. -/
def LeftS (g n : Nat) (B : List Nat) (sv : Value) (V wr : World) : Prop := ∃ m, sv = .slice (some ⟨g, 0, none⟩) m n ∧ B.length = m ∧ 0 < m ∧ m ≤ n ∧ (∀ i ∈ B, i < n) ∧ AtBk wr g (plc B) n ∧ Turns (fun k => k = g) V wr
theorem LeftS.of {f : Nat → Int} {B : List Nat} {g n c m : Nat} {V wr u : World} {e : Ending} (h : LeastR f B g n n wr u e) (hm : B.length = m) (h0 : 0 < m) (hn : m ≤ n) (hB : ∀ i ∈ B, i < n) (hT : Turns (fun k => k = g) V wr) : ∃ v, e = .returned v ∧ LeftS g n (leastV f B) v V u := by
  obtain ⟨m9, rfl, h1, h2, h3⟩ := h
  obtain ⟨k0, k1, k2⟩ := leastV_ne f hm h0 h1
  exact ⟨_, rfl, m9, rfl, h1, k0, by omega, fun i hi => hB i (k2 i hi), h2, hT.trans h3⟩
theorem LeftS.ofM {f asn : Nat → Int} {B : List Nat} {g n c m : Nat} {V wr u : World} {e : Ending} (h : LeastRM f asn B g n n wr u e) (hm : B.length = m) (h0 : 0 < m) (hn : m ≤ n) (hB : ∀ i ∈ B, i < n) (hT : Turns (fun k => k = g) V wr) : ∃ v, e = .returned v ∧ LeftS g n (leastMV f asn B) v V u := by
  obtain ⟨m9, rfl, h1, h2, h3⟩ := h
  have k0 : leastMV f asn B ≠ [] := leastM_ne f asn (by intro e; rw [e] at hm; simp at hm; omega)
  have k1 : (leastMV f asn B).length ≤ B.length := List.length_filter_le _ _
  have k2 : 0 < m9 := by
    rcases Nat.eq_zero_or_pos m9 with h | h
    · rw [h] at h1; exact absurd (List.length_eq_zero_iff.1 h1) k0
    · exact h
  exact ⟨_, rfl, m9, rfl, h1, k2, by omega, fun i hi => hB i (List.mem_filter.1 hi).1, h2, hT.trans h3⟩
/-- Those that are left. -/
def leftV (l : List Rv) (n : Nat) : List Nat := leastMV (fun i => keyAt 3 l i) (fun i => asAt l i) (selV (keysA l) (List.range n))
set_option maxHeartbeats 8000000 in
theorem leftG_any (w : World) (p : Option Addr) (l : List Rv) (n c : Nat) (h : Looks w p l n) (h0 : 0 < n) :
    Calls Try.prog 15 #[.slice p n c] w fun e w' => ∃ g v, e = .returned v ∧ w.heap.size ≤ g ∧ Below w.heap.size w w' ∧ LeftS g n (leftV l n) v (w.alloc (.cells (madeCells #[.int .i64 0] n) 3)) w' := by
  have hsm := h.small
  have hmk := run_makeI n hsm
  have hA0 := AtBk.made w n
  have hB0 := newB w (.cells (madeCells #[.int .i64 0] n) 3)
  obtain ⟨g, hg⟩ : ∃ g, w.heap.size = g := ⟨_, rfl⟩
  obtain ⟨V, hV⟩ : ∃ V, w.alloc (.cells (madeCells #[.int .i64 0] n) 3) = V := ⟨_, rfl⟩
  rw [hV, hg] at hA0
  rw [hV] at hB0 ⊢
  have HR := Lib.hid (fun (u : World) (hu : Turns (fun k => k = g) V u) => h.below (hB0.trans (hu.below (B := w.heap.size) hB0.size fun k hk => by omega)))
  have HBE := Lib.hid (fun (u : World) (hu : Turns (fun k => k = g) V u) => show Below w.heap.size w u from hB0.trans (hu.below (B := w.heap.size) hB0.size fun k hk => by omega))
  have HG := Lib.hid hg
  have HV := Lib.hid hV
  have HA0 := Lib.hid hA0
  clear h hA0 hB0 hg hV
  go_enter Try.func15, Try.ntmps15
  go_wp2_with fail
  rw [HV.out, HG.out]
  go_wp2_with fail
  go_loopw [12] (fun iv wr => ∃ k : Nat, k ≤ n ∧ iv = .int .i64 k ∧ AtBk wr g (plc (List.range k)) n ∧ Turns (fun k => k = g) V wr) (fun iv _ => n - (intOf iv).toNat)
  case atStart => exact ⟨0, Nat.zero_le _, rfl, HA0.out, .refl _ _⟩
  case round =>
    obtain ⟨k, hk, rfl, hA, hT⟩ := hrel
    have HA := Lib.hid hA
    have HT := Lib.hid hT
    clear hA hT
    by_cases hlt : k < n
    · have hltI : (k : Int) < (n : Int) := by omega
      obtain ⟨⟨v, hc⟩, hf⟩ := HA.out.cellN hlt
      go_wp2_with fail
      go_roundw
      case rel => exact ⟨k + 1, by omega, by go_num, by rw [plc_range]; exact HA.out.snoc (plc_rlen k) hlt k, HT.out.setCell (p := ⟨g, k, none⟩) (.inl rfl) _⟩
      case measure => simp [intOf]; omega
    · obtain rfl : k = n := by omega
      have hkI : ¬ (k : Int) < (k : Int) := by omega
      go_wp2_with (go_at_call 27; refine (ahead_any _).mono ?_; rintro e u ⟨rfl, hu⟩)
      have HA2 := Lib.hid (HA.out.same (hu.block g HA.out.lt))
      have HT2 := Lib.hid (HT.out.trans (.of_below hu))
      clear hu
      go_loopw [3, 21] (fun sv iv wr => (iv = .int .i64 0 ∧ LeftS g k (List.range k) sv V wr) ∨ (iv = .int .i64 1 ∧ LeftS g k (selV ((keysA l).take 1) (List.range k)) sv V wr) ∨ (iv = .int .i64 2 ∧ LeftS g k (selV ((keysA l).take 2) (List.range k)) sv V wr) ∨ (iv = .int .i64 3 ∧ LeftS g k (selV (keysA l) (List.range k)) sv V wr)) (fun _ iv _ => 3 - (intOf iv).toNat)
      case atStart => exact .inl ⟨rfl, k, rfl, List.length_range, h0, Nat.le_refl _, fun i hi => List.mem_range.1 hi, HA2.out, HT2.out⟩
      case round =>
        rcases hrel with ⟨rfl, m, rfl, hm, hm0, hmn, hB, hA, hT⟩ | ⟨rfl, m, rfl, hm, hm0, hmn, hB, hA, hT⟩ | ⟨rfl, m, rfl, hm, hm0, hmn, hB, hA, hT⟩ | ⟨rfl, m, rfl, hm, hm0, hmn, hB, hA, hT⟩
        · have HC := Lib.hid ((least0_any _ p l k c g _ m k k (fun u hu => HR.out u (hT.trans hu)) hB hA hm hm0 hmn (by omega)).mono fun e u hr => LeftS.of (c := c) hr hm hm0 hmn hB hT)
          clear hA hB hT hm
          have hix := run_idx0
          go_wp2_with (go_at_call 17; refine HC.out.mono ?_; rintro e u ⟨v, rfl, hs⟩)
          go_roundw
          case rel => exact .inr (.inl ⟨rfl, hs⟩)
          case measure => simp [intOf]
        · have HC := Lib.hid ((least1_any _ p l k c g _ m k k (fun u hu => HR.out u (hT.trans hu)) hB hA hm hm0 hmn (by omega)).mono fun e u hr => LeftS.of (c := c) hr hm hm0 hmn hB hT)
          clear hA hB hT hm
          have hix := run_idx1
          go_wp2_with (go_at_call 17; refine HC.out.mono ?_; rintro e u ⟨v, rfl, hs⟩)
          go_roundw
          case rel => exact .inr (.inr (.inl ⟨rfl, hs⟩))
          case measure => simp [intOf]
        · have HC := Lib.hid ((least2_any _ p l k c g _ m k k (fun u hu => HR.out u (hT.trans hu)) hB hA hm hm0 hmn (by omega)).mono fun e u hr => LeftS.of (c := c) hr hm hm0 hmn hB hT)
          clear hA hB hT hm
          have hix := run_idx2
          go_wp2_with (go_at_call 17; refine HC.out.mono ?_; rintro e u ⟨v, rfl, hs⟩)
          go_roundw
          case rel => exact .inr (.inr (.inr ⟨rfl, hs⟩))
          case measure => simp [intOf]
        · have HC := Lib.hid ((leastMedG_any _ p l k c g _ m k k (fun u hu => HR.out u (hT.trans hu)) hB hA hm hm0 (by omega) hmn (by omega)).mono fun e u hr => LeftS.ofM (c := c) hr hm hm0 hmn hB hT)
          clear hA hB hT hm
          go_wp2_with (go_at_call 28; refine HC.out.mono ?_; rintro e u ⟨v, rfl, hs⟩)
          have HS := Lib.hid hs
          clear hs
          go_ret
          obtain ⟨m9, _, _, _, _, _, _, hT9⟩ := HS.out
          exact ⟨g, v, rfl, by have := HG.out; omega, HBE.out _ hT9, HS.out⟩
end Go.Proofs.Ytljbebeaahcjaaa
