/- nlri: Put. -/
import Derived.Test.YtgmcjejgginpjaaNl1
namespace Go.Proofs.Ytgmcjejgginpjaa
open Go.RowKit

/-- The bytes of one, and of all. -/
def nlL (paths : Bool) (x : Nl) : List Int := (if paths then putL x.id 4 else []) ++ pfxL x.addr x.len
def nlsL (paths : Bool) (l : List Nl) : List Int := l.flatMap (nlL paths)
theorem nlsL_snoc (paths : Bool) (l : List Nl) (k : Nat) (h : k < l.length) : nlsL paths (l.take (k + 1)) = nlsL paths (l.take k) ++ nlL paths (l.getD k Nl.none) := by
  unfold nlsL
  rw [List.take_succ_eq_append_getElem h, List.flatMap_append]
  simp [List.getD, List.getElem?_eq_getElem h]
theorem pfxL_le (a n : Int) : (pfxL a n).length ≤ 5 := by
  unfold pfxL
  rw [List.length_cons, List.length_take, putL_len]
  omega
theorem oddNl_no {most : Int} {x : Nl} (h : oddNl most x = false) : 0 ≤ x.id ∧ x.id ≤ most ∧ okP x.addr x.len = true := by
  unfold oddNl at h
  simp only [Bool.or_eq_false_iff, decide_eq_false_iff_not, Bool.not_eq_false'] at h
  exact ⟨by omega, by omega, h.2.2⟩
theorem okNls_yes {l : List Nl} {paths : Bool} (h : okNls l paths = true) : l.length ≤ 1024 ∧ ∀ i, i < l.length → oddNl (mostN paths) (l.getD i Nl.none) = false := by
  unfold okNls at h
  simp only [Bool.and_eq_true, decide_eq_true_eq, Bool.not_eq_true', List.any_eq_false] at h
  refine ⟨h.1, fun i hi => ?_⟩
  have := h.2 (l.getD i Nl.none) (by simp [List.getD, List.getElem?_eq_getElem hi])
  rwa [Bool.not_eq_true] at this
def NlRel (w : World) (paths : Bool) (n : Nat) (l : List Nl) (b i : Value) (wr : World) : Prop :=
  ∃ (k m : Nat) (p : Option Addr) (cap : Nat), k ≤ n ∧ i = .int .i64 k ∧ b = .slice p m cap ∧ (nlsL paths (l.take k)).length = m ∧ m ≤ 9 * k ∧ Own wr w.heap.size p cap (nlsL paths (l.take k)) ∧ Below w.heap.size w wr
theorem fit_four {n : Int} (h0 : 0 ≤ n) (h1 : n ≤ 4294967295) : fitsB n (4 : Nat) = true := by
  have : (2 : Int) ^ (8 * 4) = 4294967296 := rfl
  simp [fitsB, this]; omega
theorem put_4 (x : Int) (w : World) (h0 : 0 ≤ x) (h1 : x ≤ 4294967295) :
    Calls Try.prog 23 #[.int .i64 x, .int .i64 4] w fun e w' => e = .returned (.tuple #[.slice (some ⟨w.heap.size, 0, none⟩) 4 4, .int .i64 0]) ∧ BytesAt w' (some ⟨w.heap.size, 0, none⟩) (putL x 4) ∧ Below w.heap.size w w' :=
  (put_fits x 4 w (by omega) (by omega) (fit_four h0 h1)).mono fun _ _ h => ⟨h.1, h.2.1.list.bytes (putL_byte _ _), h.2.2⟩
theorem putp_b (a n : Int) (m : Nat) (w : World) (h0 : 0 ≤ a) (h1 : a < 4294967296) (hk : okP a n = true) (hm : (pfxL a n).length = m) :
    Calls Try.prog 24 #[.agg #[.int .u32 a, .int .i64 n]] w fun e w' => ∃ g, e = .returned (.tuple #[.slice (some ⟨g, 0, none⟩) m m, .int .i64 0]) ∧ BytesAt w' (some ⟨g, 0, none⟩) (pfxL a n) ∧ Below w.heap.size w w' :=
  (putp_ok a n w h0 h1 hk).mono fun _ _ ⟨g, he, hr, hx, _, hb⟩ => ⟨g, by rw [he, hm], hr.bytes hx, hb⟩
theorem putNl_no (p : Option Addr) (l : List Nl) (n c : Nat) (paths : Bool) (w : World) (hx : NlsAt w p l) (hn : l.length = n) (hm : n ≤ maxLen) (hk : okNls l paths = false) :
    Calls Try.prog 9 #[.slice p n c, .bool paths] w fun e w' => e = .returned (.tuple #[.slice none 0 0, .int .i64 60]) ∧ Below w.heap.size w w' := by
  have HC := Lib.hid (checkNl_any p l n c paths w hx hn hm)
  rw [show errNls l paths = 60 by simp [errNls, hk]] at HC
  clear hx hn hm hk
  go_enter Try.func9, Try.ntmps9
  go_wp2_with fail
  refine HC.out.mono ?_; rintro e w1 ⟨rfl, hb⟩
  have HB := Lib.hid hb
  clear hb
  go_wp2_with fail
  go_ret2
  exact ⟨rfl, HB.out⟩
set_option maxRecDepth 100000 in
set_option maxHeartbeats 4000000 in
theorem putNl_ok (p : Option Addr) (l : List Nl) (n c : Nat) (paths : Bool) (w : World) (hx : NlsAt w p l) (hn : l.length = n) (hk : okNls l paths = true) :
    Calls Try.prog 9 #[.slice p n c, .bool paths] w fun e w' => ∃ q cap, e = .returned (.tuple #[.slice q (nlsL paths l).length cap, .int .i64 0]) ∧ Own w' w.heap.size q cap (nlsL paths l) ∧ Below w.heap.size w w' := by
  obtain ⟨h24, hodd⟩ := okNls_yes hk
  have hn24 : n ≤ 1024 := by omega
  have HC := Lib.hid (checkNl_any p l n c paths w hx hn (by unfold maxLen; omega))
  rw [show errNls l paths = 0 by simp [errNls, hk]] at HC
  have HX := Lib.hid hx
  have HN := Lib.hid hn
  have HO := Lib.hid hodd
  clear hx hn hk hodd h24
  go_enter Try.func9, Try.ntmps9
  go_wp2_with fail
  refine HC.out.mono ?_; rintro e w1 ⟨rfl, hb⟩
  have HB0 := Lib.hid hb
  clear hb HC
  go_wp2_with fail
  go_loopw [7, 22] (fun b i wr => NlRel w paths n l b i wr) (fun _ i _ => n - (intOf i).toNat)
  case atStart => exact ⟨0, 0, none, 0, Nat.zero_le _, rfl, rfl, rfl, by omega, Own.nil _ _, HB0.out⟩
  case round =>
    obtain ⟨k, m, z, zc, hkn, rfl, rfl, hm, hm9, hO, hB⟩ := hrel
    have HOW := Lib.hid hO
    have HB := Lib.hid hB
    have HM := Lib.hid hm
    clear hO hB hm
    by_cases hlt : k < n
    · obtain ⟨b, off, rfl, ⟨c0, c1, c2⟩, had⟩ := nl_cell (HX.out.below HB.out) HN.out hlt
      have hod := oddNl_no (HO.out k (by rw [HN.out]; exact hlt))
      have HS := Lib.hid (nlsL_snoc paths l k (by rw [HN.out]; exact hlt))
      obtain ⟨x, hx⟩ : ∃ x, l.getD k Nl.none = x := ⟨_, rfl⟩
      rw [hx] at c0 c1 c2 hod HS had
      obtain ⟨id, a, ln⟩ := x
      simp only at c0 c1 c2 hod
      obtain ⟨o0, o1, o2⟩ := hod
      obtain ⟨a0, a1⟩ : 0 ≤ a ∧ a < 4294967296 := had
      have h5 := pfxL_le a ln
      obtain ⟨pl, hpl⟩ : ∃ pl, (pfxL a ln).length = pl := ⟨_, rfl⟩
      rw [hpl] at h5
      have HPL := Lib.hid hpl
      have HPP := Lib.hid (fun u => putp_b a ln pl u a0 a1 o2 hpl)
      obtain ⟨V, hV⟩ : ∃ V, wr.alloc (.cells #[.int .i64 id, .int .u32 a, .int .i64 ln] 41) = V := ⟨_, rfl⟩
      have hbV : Below wr.heap.size wr V := by rw [← hV]; exact newB _ _
      have hKV : Blk V wr.heap.size 41 [.int .i64 id, .int .u32 a, .int .i64 ln] := by rw [← hV]; exact Blk.new wr 41 [.int .i64 id, .int .u32 a, .int .i64 ln]
      have HKV := Lib.hid hKV
      have HOV := Lib.hid (HOW.out.below hbV)
      have HBV := Lib.hid (HB.out.trans (hbV.mono HB.out.size))
      cases paths
      · have HSEG := Lib.hid (show nlL false ⟨id, a, ln⟩ = pfxL a ln from rfl)
        have v1 : (wr.alloc (.cells #[.int .i64 id, .int .u32 a, .int .i64 ln] 41)).cell? ⟨wr.heap.size, 1, none⟩ = some (.int .u32 a) := by rw [hV]; exact hKV.cell 1 (by simp)
        have v2 : (wr.alloc (.cells #[.int .i64 id, .int .u32 a, .int .i64 ln] 41)).cell? ⟨wr.heap.size, 2, none⟩ = some (.int .i64 ln) := by rw [hV]; exact hKV.cell 2 (by simp)
        have HV := Lib.hid hV
        clear hV hbV hKV hx hpl
        go_wp2_with fail
        rw [HV.out]
        clear v1 v2 c0 c1 c2
        (with_reducible refine (HPP.out V).mono ?_); rintro e w2 ⟨g, rfl, hY, hb⟩
        have HY := Lib.hid hY
        have HO2 := Lib.hid (HOV.out.below hb)
        have HB2 := Lib.hid (HBV.out.trans (hb.mono HBV.out.size))
        clear hY hb
        go_wp2_with (refine wpList_appo (o := ⟨some 44, _, _, _, _, _⟩) (by rfl) (.tmp 42) (.tmp 43) (by rfl) w.heap.size z zc (nlsL false (l.take k)) HO2.out m HM.out (by rfl) (some ⟨g, 0, none⟩) pl pl (pfxL a ln) HY.out HPL.out (by rfl) (m + pl) (by rfl) (by omega) HB2.out.size ?_; intro q3 cap3 w3 hO3 hB3 hG3)
        go_roundw
        case rel => exact ⟨k + 1, m + pl, q3, cap3, by omega, by go_num, rfl, by rw [HS.out, HSEG.out, List.length_append, HM.out, HPL.out], by omega, by rw [HS.out, HSEG.out]; exact hO3.out, HB2.out.trans hB3.out⟩
        case measure => simp [intOf]; omega
      · have HSEG := Lib.hid (show nlL true ⟨id, a, ln⟩ = putL id 4 ++ pfxL a ln from rfl)
        have v0 : (wr.alloc (.cells #[.int .i64 id, .int .u32 a, .int .i64 ln] 41)).cell? ⟨wr.heap.size, 0, none⟩ = some (.int .i64 id) := by rw [hV]; exact hKV.cell 0 (by simp)
        have HPI := Lib.hid (put_4 id V o0 o1)
        have HV := Lib.hid hV
        have hgv := hKV.lt
        clear hV hbV hKV hx hpl
        go_wp2_with fail
        rw [HV.out]
        clear v0 c0 c1 c2
        (with_reducible refine HPI.out.mono ?_); rintro e w2 ⟨rfl, hY, hb⟩
        have HY := Lib.hid hY
        have HO2 := Lib.hid (HOV.out.below hb)
        have HB2 := Lib.hid (HBV.out.trans (hb.mono HBV.out.size))
        have HK2 := Lib.hid (HKV.out.next hb)
        have hg2 : wr.heap.size < w2.heap.size := HK2.out.lt
        clear hY hb
        go_wp2_with (refine wpList_appo (o := ⟨some 35, _, _, _, _, _⟩) (by rfl) (.tmp 33) (.tmp 34) (by rfl) w.heap.size z zc (nlsL true (l.take k)) HO2.out m HM.out (by rfl) (some ⟨V.heap.size, 0, none⟩) 4 4 (putL id 4) HY.out (putL_len ..) (by rfl) (m + 4) (by rfl) (by omega) HB2.out.size ?_; intro q3 cap3 w3 hO3 hB3 hG3; have HO3 := Lib.hid hO3.out; have HB3 := Lib.hid (HB2.out.trans hB3.out); have hK3 := HK2.out.of_same (hG3.out.1.block _ hg2 (fun e => by have := (HOW.out.block_lt e.symm).2; omega)); have v1 := hK3.cell 1 (by simp); have v2 := hK3.cell 2 (by simp); clear hK3 hO3 hB3 hG3)
        clear v1 v2
        (with_reducible refine (HPP.out _).mono ?_); rintro e w4 ⟨g, rfl, hY, hb⟩
        have HY4 := Lib.hid hY
        have HO4 := Lib.hid (HO3.out.below hb)
        have HB4 := Lib.hid (HB3.out.trans (hb.mono HB3.out.size))
        clear hY hb
        go_wp2_with (refine wpList_appo (o := ⟨some 44, _, _, _, _, _⟩) (by rfl) (.tmp 42) (.tmp 43) (by rfl) w.heap.size q3 cap3 (nlsL true (l.take k) ++ putL id 4) HO4.out (m + 4) (by rw [List.length_append, HM.out, putL_len]) (by rfl) (some ⟨g, 0, none⟩) pl pl (pfxL a ln) HY4.out HPL.out (by rfl) (m + 4 + pl) (by rfl) (by omega) HB4.out.size ?_; intro q5 cap5 w5 hO5 hB5 hG5)
        go_roundw
        case rel => exact ⟨k + 1, m + 4 + pl, q5, cap5, by omega, by go_num, rfl, by rw [HS.out, HSEG.out, List.length_append, HM.out, List.length_append, HPL.out, putL_len]; omega, by omega, by rw [HS.out, HSEG.out, ← List.append_assoc]; exact hO5.out, HB4.out.trans hB5.out⟩
        case measure => simp [intOf]; omega
    · obtain rfl : k = n := by omega
      go_wp2
      go_ret2
      have hO := HOW.out
      have hL := HM.out
      rw [List.take_of_length_le (by rw [HN.out]; exact Nat.le_refl _)] at hO hL
      exact ⟨z, zc, by rw [hL] <;> rfl, hO, HB.out⟩
end Go.Proofs.Ytgmcjejgginpjaa
