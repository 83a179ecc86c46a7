/- trie: the document's Set. -/
import Derived.Test.YtipecocalmmmbaaTS
namespace Go.Proofs.Ytipecocalmmmbaa
open Go.RowKit
set_option linter.unusedVariables false
set_option linter.unusedSimpArgs false

abbrev RTy : TypeId := 29
def setO (l : List O3) (a n v : Int) : List O3 := if okP a n then l.take (fI l a n) ++ (a, n, v) :: l.drop (if fB l a n then fI l a n + 1 else fI l a n) else l
theorem fB_lt {l : List O3} {a n : Int} (h : fB l a n = true) : fI l a n < l.length := by
  unfold fB at h
  rcases hc : l[fI l a n]? with _ | y
  · rw [hc] at h; cases h
  · exact (List.getElem?_eq_some_iff.1 hc).1
theorem OOwn.form {w : World} {B n cap : Nat} {q : Option Addr} {l : List O3} (h : OOwn w B q n cap l) : (q = none ∧ n = 0 ∧ cap = 0 ∧ l = []) ∨ ∃ g, q = some ⟨g, 0, none⟩ := by
  have hn := h.len
  rcases h.row.2 with ⟨hv, hx⟩ | ⟨g, cap', cur, hv, _⟩
  · injection hv with e1 e2 e3
    exact .inl ⟨e1, e2, e3, List.eq_nil_of_length_eq_zero (by omega)⟩
  · injection hv with e1 e2 e3
    exact .inr ⟨g, e1⟩
theorem oat_one (w : World) (a n v : Int) : OAt (w.alloc (.cells #[.int .u32 a, .int .i64 n, .int .i64 v] 78)) (some ⟨w.heap.size, 0, none⟩) [(a, n, v)] := by
  have h := Blk.new w 78 [.int .u32 a, .int .i64 n, .int .i64 v]
  refine .inr ⟨_, _, rfl, fun i p hp => ?_⟩
  rcases i with _ | i
  · have : (a, n, v) = p := by simpa using hp
    subst this
    exact ⟨h.cell 0 (by simp), h.cell 1 (by simp), h.cell 2 (by simp)⟩
  · cases hp
/-- The document's trie in memory. -/
structure RfAt (w : World) (x : Nat) (l : List O3) : Prop where
  intro ::
  is : ∃ B q n c, Blk w x RTy [.slice q n c] ∧ OOwn w B q n c l
theorem OOwn.same {w w' : World} {B n cap : Nat} {q : Option Addr} {l : List O3} (h : OOwn w B q n cap l) (hb : ∀ k, k < w.heap.size → B ≤ k → w'.heap[k]? = w.heap[k]?) : OOwn w' B q n cap l := by
  refine ⟨h.len, h.row.1, ?_⟩
  rcases h.row.2 with h1 | ⟨g, c, cur, hv, hB, hh, r⟩
  · exact .inl h1
  · exact .inr ⟨g, c, cur, hv, hB, by rw [hb g (Array.getElem?_eq_some_iff.1 hh).1 hB]; exact hh, r⟩
theorem rset_end {w w3 w7 : World} {x t c7 : Nat} {q7 : Option Addr} {l l' : List O3} {v0 : Value} (hx : Blk w x RTy [v0]) (hb3 : Below w.heap.size w w3) (hb7 : Below w3.heap.size w3 w7) (h7 : OOwn w7 w3.heap.size q7 t c7 l) (hl : l = l') :
    RfAt (w7.setCell ⟨x, 0, none⟩ (.slice q7 t c7)) x l' ∧ Turns (fun k => k = x) w (w7.setCell ⟨x, 0, none⟩ (.slice q7 t c7)) := by
  subst hl
  have hb := hb3.trans (hb7.mono hb3.size)
  have hs : Turns (fun k => k = x) w7 (w7.setCell ⟨x, 0, none⟩ (.slice q7 t c7)) := Turns.setCell (S := fun k => k = x) (Turns.refl _ w7) (p := ⟨x, 0, none⟩) (.inl rfl) _
  have hlt := hx.lt
  have h3 := hb3.size
  exact ⟨⟨_, _, _, _, (hx.next hb).set 0 _, h7.same fun k hk hB => hs.block k hk (fun e => by omega)⟩, (Turns.of_below hb).trans hs⟩
set_option maxRecDepth 100000 in
set_option maxHeartbeats 16000000 in
theorem rset_any (w : World) (x : Nat) (l : List O3) (pa pn xv : Int) (p0 : 0 ≤ pa) (p1 : pa < 4294967296) (h : RfAt w x l) (hn : l.length ≤ 1000) :
    Calls Try.prog 11 #[.pointer (some ⟨x, 0, none⟩), .agg #[.int .u32 pa, .int .i64 pn], .int .i64 xv] w fun e w' => e = .returned (.bool (okP pa pn)) ∧ RfAt w' x (setO l pa pn xv) ∧ Turns (fun k => k = x) w w' := by
  obtain ⟨B, q, n, c, hx, ho⟩ := h.is
  have hn : n ≤ 1000 := by rw [← ho.len]; exact hn
  have HRC := Lib.hid (fun U => rcheck_any pa pn U p0 p1)
  have HA := Lib.hid (newB w (.cells #[.int .u32 pa, .int .i64 pn] 32))
  have hX := Blk.new w 32 [.int .u32 pa, .int .i64 pn]
  obtain ⟨V, hV⟩ : ∃ V, w.alloc (.cells #[.int .u32 pa, .int .i64 pn] 32) = V := ⟨_, rfl⟩
  obtain ⟨P, hP⟩ : ∃ P, w.heap.size = P := ⟨_, rfl⟩
  have hX : Blk V P 32 [.int .u32 pa, .int .i64 pn] := hP ▸ hV ▸ hX
  rw [hV] at HA
  have HX := Lib.hid hX
  have HB := Lib.hid hx
  have HO := Lib.hid ho
  have HV := Lib.hid hV
  have HP := Lib.hid hP
  have q0 : V.cell? ⟨P, 0, none⟩ = some (.int .u32 pa) := hX.cell 0 (by simp)
  have q1 : V.cell? ⟨P, 1, none⟩ = some (.int .i64 pn) := hX.cell 1 (by simp)
  clear hX hV hP hx ho h
  go_enter Try.func11, Try.ntmps11
  go_wp2_with fail
  rw [HV.out, HP.out]
  refine (HRC.out _).mono ?_
  rintro e w2 ⟨rfl, hb⟩
  have HB2 := Lib.hid (HA.out.trans (hb.mono HA.out.size))
  have HX2 := Lib.hid (HX.out.next hb)
  clear hb q0 q1
  rcases hk : okP pa pn with _ | _
  · have HK := Lib.hid hk
    clear hk
    go_wp2_with fail
    go_ret
    exact ⟨by rw [HK.out]; rfl, ⟨_, _, _, _, HB.out.next HB2.out, by unfold setO; rw [HK.out]; exact HO.out.below HB2.out⟩, .of_below HB2.out⟩
  have HK := Lib.hid hk
  clear hk
  have q0 : w2.cell? ⟨P, 0, none⟩ = some (.int .u32 pa) := HX2.out.cell 0 (by simp)
  have q1 : w2.cell? ⟨P, 1, none⟩ = some (.int .i64 pn) := HX2.out.cell 1 (by simp)
  have HFI := Lib.hid (find_any w2 x q n c l pa pn (kept HB2.out (HB.out.cell 0 (by simp))) HO.out.len (HO.out.at.below HB2.out) hn)
  go_wp2_with fail
  refine HFI.out.mono ?_
  rintro e w3 ⟨rfl, hb⟩
  have HB3 := Lib.hid (HB2.out.trans (hb.mono HB2.out.size))
  have HX3 := Lib.hid (HX2.out.next hb)
  have hle : fI l pa pn ≤ n := by rw [← HO.out.len]; exact fI_le _ _ _
  have HLT := Lib.hid (fun h : fB l pa pn = true => (HO.out.len ▸ fB_lt h : fI l pa pn < n))
  obtain ⟨i, hi⟩ : ∃ i, fI l pa pn = i := ⟨_, rfl⟩
  obtain ⟨f, hf⟩ : ∃ f, fB l pa pn = f := ⟨_, rfl⟩
  rw [hi] at hle
  rw [hi, hf] at HLT ⊢
  have HSO := Lib.hid (show setO l pa pn xv = l.take i ++ (pa, pn, xv) :: l.drop (if f then i + 1 else i) by unfold setO; rw [HK.out, if_pos rfl, hi, hf])
  have x0 : (w3.alloc (.cells #[] 78)).cell? ⟨x, 0, none⟩ = some (.slice q n c) := (HB.out.next (HB3.out.alloc HB3.out.size _)).cell 0 (by simp)
  have HO4 := Lib.hid (OOwn.lit0 w3 w3.heap.size (Nat.le_refl _))
  have HB4 := Lib.hid (show Below w3.heap.size w3 (w3.alloc (.cells #[] 78)) from newB _ _)
  have HX30 := Lib.hid (show ∀ U : World, Below w3.heap.size w3 U → U.cell? ⟨P, 0, none⟩ = some (.int .u32 pa) ∧ U.cell? ⟨P, 1, none⟩ = some (.int .i64 pn) ∧ U.cell? ⟨x, 0, none⟩ = some (.slice q n c) from fun U hU => ⟨(HX3.out.next hU).cell 0 (by simp), (HX3.out.next hU).cell 1 (by simp), ((HB.out.next HB3.out).next hU).cell 0 (by simp)⟩)
  have HOA := Lib.hid (HO.out.at.below HB3.out)
  have hlen := HO.out.len
  have hc1 := HO.out.cap.1
  have hc2 := HO.out.cap.2
  clear hb q0 q1 hi hf
  rcases HO.out.form with ⟨rfl, rfl, rfl, rfl⟩ | ⟨g, rfl⟩
  · obtain rfl : i = 0 := by omega
    rcases f with _ | _
    · have HTK := Lib.hid (show ∀ U : World, OAt U none ([] : List O3) from fun U => .inl rfl)
      go_wp2_with (first
        | (refine wpList_appO rfl _ _ rfl w3.heap.size _ _ _ _ HO4.out rfl none 0 _ [] (HTK.out _) rfl rfl 0 rfl (by omega) HB4.out.size ?_; intro q5 c5 w5 h5 b5; have HB5 := Lib.hid (HB4.out.trans b5.out); have y0 := (HX30.out w5 HB5.out).1; have y1 := (HX30.out w5 HB5.out).2.1; clear x0)
        | (refine wpList_appO rfl _ _ rfl w3.heap.size _ _ _ _ (h5.out.below (newB w5 (.cells #[.int .u32 pa, .int .i64 pn, .int .i64 xv] 78))) rfl _ 1 1 _ (oat_one w5 pa pn xv) rfl rfl 1 rfl (by omega) (HB5.out.alloc HB5.out.size _).size ?_; intro q6 c6 w6 h6 b6; have HB6 := Lib.hid ((HB5.out.alloc HB5.out.size (.cells #[.int .u32 pa, .int .i64 pn, .int .i64 xv] 78)).trans b6.out); have x0 := (HX30.out w6 HB6.out).2.2; clear y0 y1)
        | (refine wpList_appO rfl _ _ rfl w3.heap.size _ _ _ _ h6.out rfl none 0 _ [] (HTK.out _) rfl rfl 1 rfl (by omega) HB6.out.size ?_; intro q7 c7 w7 h7 b7; have HB7 := Lib.hid (HB6.out.trans b7.out); have x0 := (HX30.out w7 HB7.out).2.2; have hf := ((HB.out.next HB3.out).next HB7.out).f 0))
      go_ret
      exact ⟨by rw [HK.out]; rfl, rset_end HB.out HB3.out HB7.out h7.out (by rw [HSO.out]; simp)⟩
    · exact absurd (HLT.out rfl) (by omega)
  · have i0 : (0 : Int) ≤ (i : Int) := by omega
    have i1 : (i : Int) ≤ (c : Int) := by omega
    have HTK := Lib.hid ((HOA.out.below HB4.out).take i)
    have HTL := Lib.hid (show (l.take i).length = i by rw [List.length_take, hlen]; omega)
    rcases f with _ | _
    · have i2 : (i : Int) ≤ (n : Int) := by omega
      have HDL := Lib.hid (show (l.drop i).length = n - i by rw [List.length_drop, hlen])
      by_cases hci : c = i
      · have HDR := Lib.hid (show ∀ U : World, Below w3.heap.size w3 U → OAt U (some ⟨g, 0, none⟩) (l.drop i) from fun U hU => .inl (List.drop_eq_nil_of_le (by omega)))
        go_wp2_with (first
          | (refine wpList_appO rfl _ _ rfl w3.heap.size _ _ _ _ HO4.out rfl _ _ _ _ HTK.out HTL.out rfl i (by omega) (by omega) HB4.out.size ?_; intro q5 c5 w5 h5 b5; have HB5 := Lib.hid (HB4.out.trans b5.out); have y0 := (HX30.out w5 HB5.out).1; have y1 := (HX30.out w5 HB5.out).2.1; clear x0)
          | (refine wpList_appO rfl _ _ rfl w3.heap.size _ _ _ _ (h5.out.below (newB w5 (.cells #[.int .u32 pa, .int .i64 pn, .int .i64 xv] 78))) rfl _ 1 1 _ (oat_one w5 pa pn xv) rfl rfl (i + 1) rfl (by omega) (HB5.out.alloc HB5.out.size _).size ?_; intro q6 c6 w6 h6 b6; have HB6 := Lib.hid ((HB5.out.alloc HB5.out.size (.cells #[.int .u32 pa, .int .i64 pn, .int .i64 xv] 78)).trans b6.out); have x0 := (HX30.out w6 HB6.out).2.2; clear y0 y1)
          | (refine wpList_appO rfl _ _ rfl w3.heap.size _ _ _ _ h6.out rfl _ (n - i) 0 _ (HDR.out w6 HB6.out) HDL.out rfl (i + 1 + (n - i)) (by omega) (by omega) HB6.out.size ?_; intro q7 c7 w7 h7 b7; have HB7 := Lib.hid (HB6.out.trans b7.out); have x0 := (HX30.out w7 HB7.out).2.2; have hf := ((HB.out.next HB3.out).next HB7.out).f 0))
        go_ret
        exact ⟨by rw [HK.out]; rfl, rset_end HB.out HB3.out HB7.out h7.out (by rw [HSO.out]; simp)⟩
      · have hic : i < c := by omega
        have HDR := Lib.hid (show ∀ U : World, Below w3.heap.size w3 U → OAt U (some ⟨g, i * 3, none⟩) (l.drop i) from fun U hU => by
          have := (HOA.out.below hU).drop i
          rw [Nat.zero_add] at this
          exact this)
        go_wp2_with (first
          | (refine wpList_appO rfl _ _ rfl w3.heap.size _ _ _ _ HO4.out rfl _ _ _ _ HTK.out HTL.out rfl i (by omega) (by omega) HB4.out.size ?_; intro q5 c5 w5 h5 b5; have HB5 := Lib.hid (HB4.out.trans b5.out); have y0 := (HX30.out w5 HB5.out).1; have y1 := (HX30.out w5 HB5.out).2.1; clear x0)
          | (refine wpList_appO rfl _ _ rfl w3.heap.size _ _ _ _ (h5.out.below (newB w5 (.cells #[.int .u32 pa, .int .i64 pn, .int .i64 xv] 78))) rfl _ 1 1 _ (oat_one w5 pa pn xv) rfl rfl (i + 1) rfl (by omega) (HB5.out.alloc HB5.out.size _).size ?_; intro q6 c6 w6 h6 b6; have HB6 := Lib.hid ((HB5.out.alloc HB5.out.size (.cells #[.int .u32 pa, .int .i64 pn, .int .i64 xv] 78)).trans b6.out); have x0 := (HX30.out w6 HB6.out).2.2; clear y0 y1)
          | (refine wpList_appO rfl _ _ rfl w3.heap.size _ _ _ _ h6.out rfl _ (n - i) (c - i) _ (HDR.out w6 HB6.out) HDL.out rfl (i + 1 + (n - i)) (by omega) (by omega) HB6.out.size ?_; intro q7 c7 w7 h7 b7; have HB7 := Lib.hid (HB6.out.trans b7.out); have x0 := (HX30.out w7 HB7.out).2.2; have hf := ((HB.out.next HB3.out).next HB7.out).f 0))
        go_ret
        exact ⟨by rw [HK.out]; rfl, rset_end HB.out HB3.out HB7.out h7.out (by rw [HSO.out]; simp)⟩
    · have i2 : (i : Int) ≤ (n : Int) := by omega
      have i3 : (i : Int) + 1 ≤ (n : Int) := by have := HLT.out rfl; omega
      have i4 : (i : Int) + 1 ≤ (c : Int) := by omega
      have i5 : (i : Int) + 1 ≤ 1000 := by omega
      have HDL := Lib.hid (show (l.drop (i + 1)).length = n - (i + 1) by rw [List.length_drop, hlen])
      by_cases hci : c = (i + 1)
      · have HDR := Lib.hid (show ∀ U : World, Below w3.heap.size w3 U → OAt U (some ⟨g, 0, none⟩) (l.drop (i + 1)) from fun U hU => .inl (List.drop_eq_nil_of_le (by omega)))
        go_wp2_with (first
          | (refine wpList_appO rfl _ _ rfl w3.heap.size _ _ _ _ HO4.out rfl _ _ _ _ HTK.out HTL.out rfl i (by omega) (by omega) HB4.out.size ?_; intro q5 c5 w5 h5 b5; have HB5 := Lib.hid (HB4.out.trans b5.out); have y0 := (HX30.out w5 HB5.out).1; have y1 := (HX30.out w5 HB5.out).2.1; clear x0)
          | (refine wpList_appO rfl _ _ rfl w3.heap.size _ _ _ _ (h5.out.below (newB w5 (.cells #[.int .u32 pa, .int .i64 pn, .int .i64 xv] 78))) rfl _ 1 1 _ (oat_one w5 pa pn xv) rfl rfl (i + 1) rfl (by omega) (HB5.out.alloc HB5.out.size _).size ?_; intro q6 c6 w6 h6 b6; have HB6 := Lib.hid ((HB5.out.alloc HB5.out.size (.cells #[.int .u32 pa, .int .i64 pn, .int .i64 xv] 78)).trans b6.out); have x0 := (HX30.out w6 HB6.out).2.2; clear y0 y1)
          | (refine wpList_appO rfl _ _ rfl w3.heap.size _ _ _ _ h6.out rfl _ (n - (i + 1)) 0 _ (HDR.out w6 HB6.out) HDL.out rfl (i + 1 + (n - (i + 1))) (by omega) (by omega) HB6.out.size ?_; intro q7 c7 w7 h7 b7; have HB7 := Lib.hid (HB6.out.trans b7.out); have x0 := (HX30.out w7 HB7.out).2.2; have hf := ((HB.out.next HB3.out).next HB7.out).f 0))
        go_ret
        exact ⟨by rw [HK.out]; rfl, rset_end HB.out HB3.out HB7.out h7.out (by rw [HSO.out]; simp)⟩
      · have hic : (i + 1) < c := by omega
        have HDR := Lib.hid (show ∀ U : World, Below w3.heap.size w3 U → OAt U (some ⟨g, (i + 1) * 3, none⟩) (l.drop (i + 1)) from fun U hU => by
          have := (HOA.out.below hU).drop (i + 1)
          rw [Nat.zero_add] at this
          exact this)
        go_wp2_with (first
          | (refine wpList_appO rfl _ _ rfl w3.heap.size _ _ _ _ HO4.out rfl _ _ _ _ HTK.out HTL.out rfl i (by omega) (by omega) HB4.out.size ?_; intro q5 c5 w5 h5 b5; have HB5 := Lib.hid (HB4.out.trans b5.out); have y0 := (HX30.out w5 HB5.out).1; have y1 := (HX30.out w5 HB5.out).2.1; clear x0)
          | (refine wpList_appO rfl _ _ rfl w3.heap.size _ _ _ _ (h5.out.below (newB w5 (.cells #[.int .u32 pa, .int .i64 pn, .int .i64 xv] 78))) rfl _ 1 1 _ (oat_one w5 pa pn xv) rfl rfl (i + 1) rfl (by omega) (HB5.out.alloc HB5.out.size _).size ?_; intro q6 c6 w6 h6 b6; have HB6 := Lib.hid ((HB5.out.alloc HB5.out.size (.cells #[.int .u32 pa, .int .i64 pn, .int .i64 xv] 78)).trans b6.out); have x0 := (HX30.out w6 HB6.out).2.2; clear y0 y1)
          | (refine wpList_appO rfl _ _ rfl w3.heap.size _ _ _ _ h6.out rfl _ (n - (i + 1)) (c - (i + 1)) _ (HDR.out w6 HB6.out) HDL.out rfl (i + 1 + (n - (i + 1))) (by omega) (by omega) HB6.out.size ?_; intro q7 c7 w7 h7 b7; have HB7 := Lib.hid (HB6.out.trans b7.out); have x0 := (HX30.out w7 HB7.out).2.2; have hf := ((HB.out.next HB3.out).next HB7.out).f 0))
        go_ret
        exact ⟨by rw [HK.out]; rfl, rset_end HB.out HB3.out HB7.out h7.out (by rw [HSO.out]; simp)⟩
end Go.Proofs.Ytipecocalmmmbaa
