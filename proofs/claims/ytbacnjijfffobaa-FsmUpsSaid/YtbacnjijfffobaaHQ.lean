/- fsm: Has over a row of acts; Step, with what FsmUps looks at. -/
import Derived.Test.YtbacnjijfffobaaHE
import Derived.Test.YtbacnjijfffobaaHP
import Derived.Test.YtbacnjijfffobaaCdE
namespace Go.Proofs.Ytbacnjijfffobaa
open Go.RowKit

theorem has_row (kind : Int) (q : Option Addr) (n cap : Nat) (l : List Ac) (w : World) (B : Nat) (h : w.ownsRow B 44 5 (.slice q n cap) n (acells l)) (hn : l.length = n) :
    Calls Try.prog 9 #[.slice q n cap, .int .i64 kind] w fun e w' => e = .returned (.bool (hasB kind l)) ∧ w = w' := by
  have hm : n ≤ 9223372036854775807 := by
    obtain ⟨p, c, e, h1, h2⟩ := rowH_form h
    unfold maxLen at h2
    omega
  have HX := Lib.hid (show ∀ k, k < n → ∃ g, q = some ⟨g, 0, none⟩ ∧ w.cell? ⟨g, k * 5, none⟩ = some (.int .i64 (l.getD k Ac.zero).kind) from fun k hk => by
    rcases h.2 with ⟨_, h1⟩ | ⟨g, cap', cur, hv, hB, hh, hc, _⟩
    · omega
    · injection hv with e1 e2 e3
      subst e1
      refine ⟨g, rfl, ?_⟩
      rw [h.cellAt (k * 5) (by omega)]
      have := acells_get l k (by omega) 0 (by omega)
      rw [Nat.add_zero] at this
      rw [this]; rfl)
  have HN := Lib.hid hn
  clear h hn
  obtain ⟨R, hR⟩ : ∃ R, hasB kind l = R := ⟨_, rfl⟩
  have HR := Lib.hid hR
  rw [hR]
  clear hR
  go_enter Try.func9, Try.ntmps9
  go_wp2
  go_loop [5] (fun i => ∃ k : Nat, k ≤ n ∧ i = .int .i64 k ∧ hasB kind (l.take k) = false) (fun i => n - (intOf i).toNat)
  case atStart => exact ⟨0, Nat.zero_le _, rfl, rfl⟩
  case round =>
    obtain ⟨k, hk, rfl, hf⟩ := hrel
    have HF := Lib.hid hf
    clear hf
    by_cases hlt : k < n
    · obtain ⟨g, rfl, hc⟩ := HX.out k hlt
      obtain ⟨x, hx⟩ : ∃ x, (l.getD k Ac.zero).kind = x := ⟨_, rfl⟩
      rw [hx] at hc
      have HXK := Lib.hid hx
      clear hx
      by_cases hb : x = kind
      · subst hb
        go_wp2
        go_ret
        exact ⟨by rw [← HR.out, hasB_hit (by rw [HN.out]; exact hlt) HXK.out]; rfl, rfl⟩
      · have hb' : (x == kind) = false := by simpa using hb
        have HB2 := Lib.hid hb'
        clear hb
        go_wp2
        go_round
        case rel => exact ⟨k + 1, by omega, by go_num, hasB_step (by rw [HN.out]; exact hlt) HF.out (by rw [HXK.out]; exact HB2.out)⟩
        case measure => simp [intOf]; omega
    · obtain rfl : k = n := by omega
      go_wp2
      go_ret
      refine ⟨?_, rfl⟩
      have := HF.out
      rw [List.take_of_length_le (by rw [HN.out]; exact Nat.le_refl _)] at this
      rw [← HR.out, this]; rfl
theorem step_open (U : World) (o : Op) (r : Int) (s : Ph) (kind : Int) (x : Op) (code sub : Int) (p : Option Addr) (xs : List Int) (n c : Nat) (hb : BytesAt U p xs) (hn : xs.length = n) (hm : n ≤ 1099511627776) (h1 : 1 ≤ s.phase) (h5 : s.phase ≤ 5) :
    Calls Try.prog 8 #[loV o r, s.v, evA kind x code sub p n c] U fun e w' => ∃ (tp th : Int) (tf tq : Bool) (ti : Int) (A : List Ac) (q : Option Addr) (m k : Nat), e = .returned (.tuple #[.agg #[.int .i64 tp, .int .i64 th, .bool tf, .bool tq, .int .u32 ti], .slice q m k]) ∧ UpsOk s (⟨tp, th, tf, tq, ti⟩, A) ∧ A.length = m ∧ w'.ownsRow U.heap.size 44 5 (.slice q m k) m (acells A) ∧ Below U.heap.size U w' := by
  refine (fstep_any U o r s kind x code sub p xs n c hb hn hm).mono ?_
  rintro e w' ⟨d, v, he, hr, hB⟩
  dsimp only at he hr
  have hu := ups_fact o r s kind x code sub d h1 h5
  obtain ⟨R, hR⟩ : ∃ R, stepV o r s kind x code sub d = R := ⟨_, rfl⟩
  rw [hR] at he hr hu
  obtain ⟨⟨tp, th, tf, tq, ti⟩, A⟩ := R
  obtain ⟨q, k, rfl, _, _⟩ := rowH_form hr
  exact ⟨tp, th, tf, tq, ti, A, q, A.length, k, he, hu, rfl, hr, hB⟩
/-- What holds ahead of each round. -/
structure UpsS (w wr : World) (X S : Nat) (oa oh oi op r : Int) (of : Bool) (s : Ph) : Prop where
  lo : Blk wr X 26 [.int .i64 oa, .int .i64 oh, .int .u32 oi, .bool of, .int .i64 op, .int .i64 r]
  st : Blk wr S 31 s.c
  bel : Below w.heap.size w wr
  p1 : 1 ≤ s.phase
  p5 : s.phase ≤ 5
end Go.Proofs.Ytbacnjijfffobaa
