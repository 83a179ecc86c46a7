/- The document's own One, Check, Bytes, Put of prefixes with IDs. -/
import Derived.Test.YtgmcjejgginpjaaNl4
namespace Go.Proofs.Ytgmcjejgginpjaa
open Go.RowKit

theorem rone_nl (x : Nl) (paths : Bool) (w : World) (had : InAddr x) :
    Calls Try.prog 16 #[.agg #[.int .i64 x.id, .int .u32 x.addr, .int .i64 x.len], .bool paths] w fun e w' => e = .returned (.bool (!oddNl (mostN paths) x)) ∧ Below w.heap.size w w' := by
  obtain ⟨id, a, n⟩ := x
  obtain ⟨a0, a1⟩ : 0 ≤ a ∧ a < 4294967296 := had
  simp only
  have hb := newB w (.cells #[.int .i64 id, .int .u32 a, .int .i64 n] 41)
  have HB := Lib.hid hb
  have HC := Lib.hid (rcheck_any a n (w.alloc (.cells #[.int .i64 id, .int .u32 a, .int .i64 n] 41)) a0 a1)
  obtain ⟨r, hr⟩ : ∃ r, oddNl (mostN paths) ⟨id, a, n⟩ = r := ⟨_, rfl⟩
  rw [hr]
  have HE := Lib.hid (show (decide (id < 0) || (decide (mostN paths < id) || !okP a n)) = r from hr)
  clear hr hb
  by_cases h1 : 0 ≤ id
  · have s1 : decide (id < 0) = false := by simp; omega
    by_cases h2 : id ≤ 4294967295
    · cases paths
      · by_cases h3 : id = 0
        · subst h3
          have HF := Lib.hid (show okP a n = !r from by rw [← HE.out]; simp [mostN])
          go_enter Try.func16, Try.ntmps16
          go_wp2_with fail
          refine HC.out.mono ?_; rintro e w1 ⟨rfl, hb1⟩
          have HB1 := Lib.hid (HB.out.trans (hb1.mono HB.out.size))
          clear hb1
          go_wp2_with fail
          go_ret
          exact ⟨ret_bool HF.out, HB1.out⟩
        · have t3 : (id == 0) = false := by simpa using h3
          have HF := Lib.hid (show r = true from by rw [← HE.out, s1, decide_eq_true (show mostN false < id by unfold mostN; rw [if_neg (by decide)]; omega)]; rfl)
          clear h3 HC
          go_enter Try.func16, Try.ntmps16
          go_wp2_with fail
          go_ret
          exact ⟨by rw [HF.out] <;> rfl, HB.out⟩
      · have HF := Lib.hid (show okP a n = !r from by rw [← HE.out, s1, decide_eq_false (show ¬ mostN true < id by unfold mostN; rw [if_pos rfl]; omega)]; simp)
        go_enter Try.func16, Try.ntmps16
        go_wp2_with fail
        refine HC.out.mono ?_; rintro e w1 ⟨rfl, hb1⟩
        have HB1 := Lib.hid (HB.out.trans (hb1.mono HB.out.size))
        clear hb1
        go_wp2_with fail
        go_ret
        exact ⟨ret_bool HF.out, HB1.out⟩
    · have t2 : decide (id ≤ 4294967295) = false := decide_eq_false h2
      have HF := Lib.hid (show r = true from by rw [← HE.out, s1, decide_eq_true (show mostN paths < id by unfold mostN; split <;> omega)]; rfl)
      clear h2 HC
      go_enter Try.func16, Try.ntmps16
      go_wp2_with fail
      go_ret
      exact ⟨by rw [HF.out] <;> rfl, HB.out⟩
  · have t1 : decide (0 ≤ id) = false := decide_eq_false h1
    have HF := Lib.hid (show r = true from by rw [← HE.out, decide_eq_true (show id < 0 by omega)]; rfl)
    clear h1 HC
    go_enter Try.func16, Try.ntmps16
    go_wp2_with fail
    go_ret
    exact ⟨by rw [HF.out] <;> rfl, HB.out⟩
set_option maxHeartbeats 1000000 in
theorem rcheckNl_any (p : Option Addr) (l : List Nl) (n c : Nat) (paths : Bool) (w : World) (hx : NlsAt w p l) (hn : l.length = n) (hm : n ≤ maxLen) :
    Calls Try.prog 10 #[.slice p n c, .bool paths] w fun e w' => e = .returned (.bool (okNls l paths)) ∧ Below w.heap.size w w' := by
  unfold maxLen at hm
  have HE := Lib.hid (show okNls l paths = (decide (n ≤ 1024) && !(l.any (oddNl (mostN paths)))) by unfold okNls; rw [hn])
  obtain ⟨r, hr⟩ : ∃ r, okNls l paths = r := ⟨_, rfl⟩
  rw [hr] at HE ⊢
  have HX := Lib.hid hx
  have HN := Lib.hid hn
  clear hx hn hr
  go_enter Try.func10, Try.ntmps10
  go_wp2
  go_loopw [5] (fun i wr => ∃ k : Nat, k ≤ n ∧ i = .int .i64 k ∧ (l.take k).any (oddNl (mostN paths)) = false ∧ Below w.heap.size w wr) (fun i _ => n - (intOf i).toNat)
  case atStart => exact ⟨0, Nat.zero_le _, rfl, rfl, Below.refl _ _⟩
  case round =>
    obtain ⟨k, hk, rfl, hf, hB⟩ := hrel
    have HF := Lib.hid hf
    have HB := Lib.hid hB
    clear hf hB
    by_cases hlt : k < n
    · obtain ⟨b, off, rfl, ⟨c0, c1, c2⟩, had⟩ := nl_cell (HX.out.below HB.out) HN.out hlt
      obtain ⟨x, hx⟩ : ∃ x, l.getD k Nl.none = x := ⟨_, rfl⟩
      rw [hx] at c0 c1 c2 had
      have HXK := Lib.hid hx
      have HOB := Lib.hid (rone_nl x paths wr had)
      obtain ⟨id, a, ln⟩ := x
      simp only at c0 c1 c2 HOB
      clear hx had
      rcases hb : oddNl (mostN paths) ⟨id, a, ln⟩ with _ | _
      · rw [hb] at HOB
        go_wp2_with (go_at_call 16; refine HOB.out.mono ?_; rintro e w2 ⟨rfl, hb2⟩; have HB2 := Lib.hid (HB.out.trans (hb2.mono HB.out.size)); clear hb2)
        go_roundw
        case rel => exact ⟨k + 1, by omega, by go_num, any_step _ Nl.none l k (by rw [HN.out]; exact hlt) HF.out (by rw [HXK.out]; exact hb), HB2.out⟩
        case measure => simp [intOf]; omega
      · rw [hb] at HOB
        have HR := Lib.hid (show r = false from by rw [HE.out, any_take _ Nl.none l k (by rw [HN.out]; exact hlt) HF.out (by rw [HXK.out]; exact hb)]; simp)
        go_wp2_with (go_at_call 16; refine HOB.out.mono ?_; rintro e w2 ⟨rfl, hb2⟩; have HB2 := Lib.hid (HB.out.trans (hb2.mono HB.out.size)); clear hb2)
        go_ret
        exact ⟨by rw [HR.out] <;> rfl, HB2.out⟩
    · obtain rfl : k = n := by omega
      have HR := Lib.hid (show decide ((k : Int) ≤ 1024) = r from by
        have h := HF.out
        rw [List.take_of_length_le (by rw [HN.out]; exact Nat.le_refl _)] at h
        rw [HE.out, h, Bool.not_false, Bool.and_true, decide_eq_decide]; omega)
      go_wp2
      go_ret
      exact ⟨ret_bool HR.out, HB.out⟩
theorem rput_4 (x : Int) (w : World) (h0 : 0 ≤ x) (h1 : x ≤ 4294967295) :
    Calls Try.prog 32 #[.int .i64 x, .int .i64 4] w fun e w' => e = .returned (.slice (some ⟨w.heap.size, 0, none⟩) 4 4) ∧ BRow w' w.heap.size (putL x 4) ∧ Below w.heap.size w w' :=
  (rput_fits x 4 w (by omega) (by omega) (fit_four h0 h1)).mono fun _ _ h => ⟨h.1, h.2.1.list, h.2.2⟩
theorem ownB_bytes {w : World} {B : Nat} {p : Option Addr} {n c : Nat} {xs : List Int} (h : OwnB w B (.slice p n c) xs) (hx : InByte xs) : BytesAt w p xs := by
  refine ⟨hx, ?_⟩
  rcases h.2 with ⟨hv, h0⟩ | ⟨g, cap', cur, hv, _⟩
  · left
    have := h.1
    simp only [List.length_map] at this
    simp only [Value.slice.injEq] at hv
    have h2 : xs.length = 0 := by omega
    exact List.eq_nil_of_length_eq_zero h2
  · simp only [Value.slice.injEq] at hv
    obtain ⟨rfl, _, rfl⟩ := hv
    refine .inr ⟨g, 0, rfl, fun i hi => ?_⟩
    have := h.cells (g := g) rfl i (.int .u8 (xs.getD i 0)) (by simp [List.getD, List.getElem?_eq_getElem hi])
    rw [add_litN] at this
    exact this
theorem pfxL_byte {a n : Int} (hk : okP a n = true) : InByte (pfxL a n) := by
  obtain ⟨n0, n1⟩ := okP_len hk
  intro i hi
  unfold pfxL at *
  cases i with
  | zero => simp; omega
  | succ i =>
    have hlt : i < (putL a 4).length := by
      rw [List.length_cons, List.length_take] at hi; omega
    have := putL_byte a 4 i hlt
    have h2 : i < (n.toNat + 7) / 8 := by rw [List.length_cons, List.length_take] at hi; omega
    simpa [List.getD, List.getElem?_take_of_lt h2] using this
theorem rputp_b (a n : Int) (m : Nat) (w : World) (h0 : 0 ≤ a) (h1 : a < 4294967296) (hk : okP a n = true) (hm : (pfxL a n).length = m) :
    Calls Try.prog 33 #[.agg #[.int .u32 a, .int .i64 n]] w fun e w' => ∃ g cap, e = .returned (.slice (some ⟨g, 0, none⟩) m cap) ∧ BytesAt w' (some ⟨g, 0, none⟩) (pfxL a n) ∧ Below w.heap.size w w' := by
  obtain ⟨n0, n1⟩ := okP_len hk
  obtain ⟨N, rfl⟩ := Int.eq_ofNat_of_zero_le n0
  exact (rputp_any a N w h0 h1 (by omega)).mono fun _ _ ⟨g, cap, he, ho, hb⟩ => ⟨g, cap, by rw [he, hm], ownB_bytes ho (pfxL_byte hk), hb⟩
set_option maxHeartbeats 1000000 in
theorem rbytes_any (x : Nl) (paths : Bool) (m : Nat) (w : World) (had : InAddr x) (ho : oddNl (mostN paths) x = false) (hm : (nlL paths x).length = m) :
    Calls Try.prog 17 #[.agg #[.int .i64 x.id, .int .u32 x.addr, .int .i64 x.len], .bool paths] w fun e w' => ∃ p cap, e = .returned (.slice p m cap) ∧ Own w' w.heap.size p cap (nlL paths x) ∧ Below w.heap.size w w' := by
  obtain ⟨o0, o1, o2⟩ := oddNl_no ho
  obtain ⟨id, a, n⟩ := x
  obtain ⟨a0, a1⟩ : 0 ≤ a ∧ a < 4294967296 := had
  simp only at o0 o1 o2
  simp only
  obtain ⟨W, hW⟩ : ∃ W, w.alloc (.cells #[.int .i64 id, .int .u32 a, .int .i64 n] 41) = W := ⟨_, rfl⟩
  have hb : Below w.heap.size w W := by rw [← hW]; exact newB _ _
  have hK : Blk W w.heap.size 41 [.int .i64 id, .int .u32 a, .int .i64 n] := by rw [← hW]; exact Blk.new w 41 [.int .i64 id, .int .u32 a, .int .i64 n]
  have h5 := pfxL_le a n
  obtain ⟨pl, hpl⟩ : ∃ pl, (pfxL a n).length = pl := ⟨_, rfl⟩
  rw [hpl] at h5
  have HPL := Lib.hid hpl
  have HPP := Lib.hid (fun u => rputp_b a n pl u a0 a1 o2 hpl)
  have HB := Lib.hid hb
  have HK := Lib.hid hK
  have HW := Lib.hid hW
  cases paths
  · have hm' : pl = m := by rw [← hm, ← hpl]; rfl
    subst hm'
    have k1 : (w.alloc (.cells #[.int .i64 id, .int .u32 a, .int .i64 n] 41)).cell? ⟨w.heap.size, 1, none⟩ = some (.int .u32 a) := by rw [hW]; exact hK.cell 1 (by simp)
    have k2 : (w.alloc (.cells #[.int .i64 id, .int .u32 a, .int .i64 n] 41)).cell? ⟨w.heap.size, 2, none⟩ = some (.int .i64 n) := by rw [hW]; exact hK.cell 2 (by simp)
    have HON := Lib.hid (fun v : World => Own.nil v w.heap.size)
    clear hm hpl hW hb hK ho
    go_enter Try.func17, Try.ntmps17
    go_wp2_with fail
    rw [HW.out]
    clear k1 k2
    (with_reducible refine (HPP.out W).mono ?_); rintro e w2 ⟨g, cap, rfl, hY, hb2⟩
    have HY := Lib.hid hY
    have HB2 := Lib.hid (HB.out.trans (hb2.mono HB.out.size))
    clear hY hb2
    go_wp2_with (refine wpList_appo (o := ⟨some 14, _, _, _, _, _⟩) (by rfl) (.tmp 10) (.tmp 13) (by rfl) w.heap.size none 0 [] (HON.out _) 0 (by rfl) (by rfl) (some ⟨g, 0, none⟩) pl cap (pfxL a n) HY.out HPL.out (by rfl) (0 + pl) (by rfl) (by omega) HB2.out.size ?_; intro q3 cap3 w3 hO3 hB3 hG3)
    go_ret
    exact ⟨q3, cap3, by rfl, hO3.out, HB2.out.trans hB3.out⟩
  · have hm' : 4 + pl = m := by rw [← hm, ← hpl]; unfold nlL; rw [if_pos rfl, List.length_append, putL_len]
    subst hm'
    have k0 : (w.alloc (.cells #[.int .i64 id, .int .u32 a, .int .i64 n] 41)).cell? ⟨w.heap.size, 0, none⟩ = some (.int .i64 id) := by rw [hW]; exact hK.cell 0 (by simp)
    have HPI := Lib.hid (rput_4 id W o0 o1)
    clear hm hpl hW hb hK ho
    go_enter Try.func17, Try.ntmps17
    go_wp2_with fail
    rw [HW.out]
    clear k0
    (with_reducible refine HPI.out.mono ?_); rintro e w2 ⟨rfl, hr, hb2⟩
    have HO2 := Lib.hid (show Own w2 w.heap.size (some ⟨W.heap.size, 0, none⟩) 4 (putL id 4) from by
      have h := Own.of_row hr (putL_byte _ _) (by rw [putL_len]; unfold maxLen; omega) HB.out.size
      rw [putL_len] at h; exact h)
    have HB2 := Lib.hid (HB.out.trans (hb2.mono HB.out.size))
    have HK2 := Lib.hid (HK.out.next hb2)
    have k1 := HK2.out.cell 1 (by simp)
    have k2 := HK2.out.cell 2 (by simp)
    clear hr hb2
    go_wp2_with fail
    clear k1 k2
    (with_reducible refine (HPP.out w2).mono ?_); rintro e w3 ⟨g, cap, rfl, hY, hb3⟩
    have HY := Lib.hid hY
    have HO3 := Lib.hid (HO2.out.below hb3)
    have HB3 := Lib.hid (HB2.out.trans (hb3.mono HB2.out.size))
    clear hY hb3
    go_wp2_with (refine wpList_appo (o := ⟨some 14, _, _, _, _, _⟩) (by rfl) (.tmp 10) (.tmp 13) (by rfl) w.heap.size (some ⟨W.heap.size, 0, none⟩) 4 (putL id 4) HO3.out 4 (putL_len ..) (by rfl) (some ⟨g, 0, none⟩) pl cap (pfxL a n) HY.out HPL.out (by rfl) (4 + pl) (by rfl) (by omega) HB3.out.size ?_; intro q4 cap4 w4 hO4 hB4 hG4)
    go_ret
    exact ⟨q4, cap4, rfl, hO4.out, HB3.out.trans hB4.out⟩
end Go.Proofs.Ytgmcjejgginpjaa
