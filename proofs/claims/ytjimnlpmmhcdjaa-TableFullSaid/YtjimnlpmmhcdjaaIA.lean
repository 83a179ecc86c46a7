/- table: the document's Set, Delete, Expire. -/
import Derived.Test.YtjimnlpmmhcdjaaI9
namespace Go.Proofs.Ytjimnlpmmhcdjaa
open Go.RowKit Go.Maps Go.Sort
set_option linter.unusedVariables false
set_option linter.unusedSimpArgs false
set_option maxRecDepth 100000

def RtTo (w w' : World) (g : Nat) (L : List Dt) : Prop := ∃ q c, RtAt w' g q c L ∧ Turns (fun k => k = g) w w'
/-- A new list is stored. -/
theorem rt_end {w w1 w2 : World} {g n c : Nat} {v : Value} {q : Option Addr} {L : List Dt} (hx : Blk w g RTf [v]) (hb : Below w.heap.size w w1) (hb2 : Below w1.heap.size w1 w2) (h : DtsOwn w2 w1.heap.size q n c L) (hsr : SrtD L) (hok : ∀ x ∈ L, InDt x) :
    RtTo w (w2.setCell ⟨g, 0, none⟩ (.slice q n c)) g L := by
  have hbw := hb.trans (hb2.mono hb.size)
  have hs : Turns (fun k => k = g) w2 (w2.setCell ⟨g, 0, none⟩ (.slice q n c)) := Turns.setCell (S := fun k => k = g) (Turns.refl _ w2) (p := ⟨g, 0, none⟩) (.inl rfl) _
  have hlt := hx.lt
  have h1 := hb.size
  have hne : ∀ r off, q = some ⟨r, off, none⟩ → r ≠ g := fun r off e he => by have := h.lo r off e; omega
  obtain ⟨hc1, hc2⟩ := h.cap_
  have hl := h.len
  subst hl
  exact ⟨q, c, ⟨(hx.next hbw).set 0 _, (h.at rowDt).turns hs fun b off e => hne b off e, hc1, hc2, hsr, hok, hne⟩, (Turns.of_below hbw).trans hs⟩
set_option maxHeartbeats 16000000 in
theorem rsetD_any (w : World) (g : Nat) (q : Option Addr) (c : Nat) (L : List Dt) (H : RtAt w g q c L) (o : Dt) (ho : InDt o) (hn : L.length ≤ 1000000) :
    Calls Try.prog 10 #[.pointer (some ⟨g, 0, none⟩), dtV o] w fun e w' => e = .returned (.int .i64 (setR o L).1) ∧ RtTo w w' g (setR o L).2 := by
  obtain ⟨x0, ⟨x1, x2⟩, x3, x4⟩ := o
  have ho : InPf ⟨x1, x2⟩ := ho
  obtain ⟨R, hR⟩ : ∃ R, setR ⟨x0, ⟨x1, x2⟩, x3, x4⟩ L = R := ⟨_, rfl⟩
  rw [hR]
  have HR := Lib.hid hR
  have hb1 := newB w (.cells #[.int .i64 x0, .int .u32 x1, .int .i64 x2, .int .i64 x3, .int .i64 x4] 36)
  have hX := Blk.new w 36 [.int .i64 x0, .int .u32 x1, .int .i64 x2, .int .i64 x3, .int .i64 x4]
  obtain ⟨P, hP⟩ : ∃ P, w.heap.size = P := ⟨_, rfl⟩
  obtain ⟨V, hV⟩ : ∃ V, w.alloc (.cells #[.int .i64 x0, .int .u32 x1, .int .i64 x2, .int .i64 x3, .int .i64 x4] 36) = V := ⟨_, rfl⟩
  rw [hV] at hb1 hX
  rw [hP] at hX
  have HB0 := Lib.hid hb1
  have HX := Lib.hid hX
  have HBW := Lib.hid H.blk
  have HT := Lib.hid (H.next hb1)
  have HVE := Lib.hid hV
  have HPE := Lib.hid hP
  have HO := Lib.hid ho
  have hF := rfindD_any V g q c L (H.next hb1) ⟨x1, x2⟩
  obtain ⟨i, hi⟩ : ∃ i, placeD ⟨x1, x2⟩ L = i := ⟨_, rfl⟩
  obtain ⟨f, hf⟩ : ∃ o, (lookD L ⟨x1, x2⟩).isSome = o := ⟨_, rfl⟩
  obtain ⟨n, hnn⟩ : ∃ n, L.length = n := ⟨_, rfl⟩
  have HPL := Lib.hid (show setD ⟨x0, ⟨x1, x2⟩, x3, x4⟩ L = L.take i ++ ⟨x0, ⟨x1, x2⟩, x3, x4⟩ :: L.drop (i + if f then 1 else 0) from by rw [setD_place H.srt, hi, hf])
  have HLT := Lib.hid (fun h : f = true => show i < n from by have := (look_place H.srt ⟨x1, x2⟩ (hf.trans h)).2; rw [hi, hnn] at this; exact this)
  have HLE := Lib.hid (show i ≤ n from by have := place_le ⟨x1, x2⟩ L; rw [hi, hnn] at this; exact this)
  rw [hi, hf] at hF
  have HFI := Lib.hid hF
  have HCK := Lib.hid (fun u => rcheck_any x1 x2 u ho.addr.1 ho.addr.2)
  have HIS := Lib.hid hf
  have HNN := Lib.hid hnn
  have hn9 : n ≤ 1000000 := by rw [← hnn]; exact hn
  obtain ⟨z0, z1, z2, z3, z4⟩ := dt_boxes hX
  clear hX hb1 hV hP hF hi hf hnn H hR hn ho
  go_enter Try.func10, Try.ntmps10
  go_wp2_with fail
  rw [HVE.out, HPE.out]
  go_wp2_with fail
  refine HFI.out.mono ?_
  rintro e U ⟨rfl, hb⟩
  have HB1 := Lib.hid (HB0.out.trans (hb.mono HB0.out.size))
  have HX1 := Lib.hid (HX.out.next hb)
  have HT1 := Lib.hid (HT.out.next hb)
  clear z0 z1 z2 z3 z4 hb
  obtain ⟨z0, z1, z2, z3, z4⟩ := dt_boxes HX1.out
  go_wp2_with fail
  refine (HCK.out _).mono ?_
  rintro e U2 ⟨rfl, hb⟩
  have HB2 := Lib.hid (HB1.out.trans (hb.mono HB1.out.size))
  have HX2 := Lib.hid (HX1.out.next hb)
  have HT2 := Lib.hid (HT1.out.next hb)
  clear z0 z1 z2 z3 z4 hb
  rcases hok : okP x1 x2 with _ | _
  · obtain rfl : R = (20, L) := by rw [← HR.out]; unfold setR; rw [if_pos hok]
    clear hok
    go_wp2_with fail
    go_ret
    exact ⟨rfl, q, c, HT2.out, Turns.of_below HB2.out⟩
  have hR2 : R = if f = false ∧ 4096 ≤ n then (2, L) else (0, setD ⟨x0, ⟨x1, x2⟩, x3, x4⟩ L) := by rw [← HR.out]; unfold setR; rw [if_neg (by simp [hok]), HIS.out, HNN.out]
  clear hok
  have X0 := HT2.out.at0 HNN.out
  by_cases hful : f = false ∧ 4096 ≤ n
  · obtain ⟨rfl, hful⟩ := hful
    obtain rfl : R = (2, L) := by rw [hR2, if_pos ⟨rfl, hful⟩]
    have t1 : decide ((4096 : Int) ≤ (n : Int)) = true := decide_eq_true (by omega)
    clear hR2 hful
    go_wp2_with fail
    go_ret
    exact ⟨rfl, q, c, HT2.out, Turns.of_below HB2.out⟩
  obtain rfl : R = (0, setD ⟨x0, ⟨x1, x2⟩, x3, x4⟩ L) := by rw [hR2, if_neg hful]
  have t1 : f = true ∨ (f = false ∧ decide ((4096 : Int) ≤ (n : Int)) = false) := by
    rcases f with _ | _
    · exact .inr ⟨rfl, decide_eq_false (fun h => hful ⟨rfl, by omega⟩)⟩
    · exact .inl rfl
  clear hful hR2
  have hle := HLE.out
  have hlc : n ≤ c := by have := HT2.out.le; rw [HNN.out] at this; exact this
  obtain ⟨Q1, hc1, hq1⟩ := cutL_h rowDt U2 q L n c i HT2.out.at_ HNN.out hle hlc
  obtain ⟨j, hj⟩ : ∃ j, (i + if f then 1 else 0) = j := ⟨_, rfl⟩
  have hjn : j ≤ n := by rw [← hj]; rcases f with _ | _; exact hle; (have := HLT.out rfl; show i + 1 ≤ n; omega)
  obtain ⟨Q2, hc2, hq2⟩ := cutL_l rowDt U2 q L n c j HT2.out.at_ HNN.out hjn hlc
  obtain ⟨N2, hN2⟩ : ∃ N, n - j = N := ⟨_, rfl⟩
  obtain ⟨C2, hC2⟩ : ∃ C, c - j = C := ⟨_, rfl⟩
  rw [hN2, hC2] at hc2
  have HJ := Lib.hid hj
  have HPJ := Lib.hid (show setD ⟨x0, ⟨x1, x2⟩, x3, x4⟩ L = (L.take i ++ [⟨x0, ⟨x1, x2⟩, x3, x4⟩]) ++ L.drop j from by rw [HPL.out, hj]; simp)
  have HQ1 := Lib.hid hq1
  have HQ2 := Lib.hid (fun (W : World) (h : Below U2.heap.size U2 W) => hq2.below h)
  have HTL := Lib.hid (show (L.take i).length = i by rw [List.length_take, HNN.out]; omega)
  have HDL := Lib.hid (show (L.drop j).length = N2 by rw [List.length_drop, HNN.out]; exact hN2)
  have HNB := Lib.hid (show i + 1 + N2 ≤ 34359738368 by omega)
  have HIB := Lib.hid (show i + 1 ≤ 34359738368 by omega)
  have HO4 := Lib.hid (show DtsOwn (U2.alloc (.cells #[] 36)) U2.heap.size (some ⟨U2.heap.size, 0, none⟩) 0 0 [] from LOwn.lit rowDt U2 U2.heap.size [] (fun x hx => by cases hx) (Nat.le_refl _) (by unfold maxLen; simp))
  have HB4 := Lib.hid (newB U2 (.cells #[] 36))
  have HX30 := Lib.hid (fun (W : World) (h : Below U2.heap.size U2 W) => show W.cell? ⟨g, 0, none⟩ = some (.slice q n c) ∧ W.cell? ⟨P, 0, none⟩ = some (.int .i64 x0) ∧ W.cell? ⟨P, 1, none⟩ = some (.int .u32 x1) ∧ W.cell? ⟨P, 2, none⟩ = some (.int .i64 x2) ∧ W.cell? ⟨P, 3, none⟩ = some (.int .i64 x3) ∧ W.cell? ⟨P, 4, none⟩ = some (.int .i64 x4) from ⟨(HT2.out.next h).at0 HNN.out, dt_boxes (HX2.out.next h)⟩)
  have x00 := (HX30.out _ HB4.out).1
  have HLITB := Lib.hid (fun (W : World) => dt_lit W ⟨x0, ⟨x1, x2⟩, x3, x4⟩ HO.out)
  have HSR := Lib.hid (setD_srt HT2.out.srt ⟨x0, ⟨x1, x2⟩, x3, x4⟩)
  have HOKS := Lib.hid (show ∀ x ∈ setD ⟨x0, ⟨x1, x2⟩, x3, x4⟩ L, InDt x from fun x hx => by
      rcases (mem_setD _ _ _).1 hx with rfl | ⟨h1, _⟩
      · exact HO.out
      · exact HT2.out.ok x h1)
  have HI7 := Lib.hid (show f = true → j = i + 1 ∧ i < n from fun h => ⟨by rw [← hj, h]; simp, HLT.out h⟩)
  have HI8 := Lib.hid (show f = false → j = i from fun h => by rw [← hj, h]; simp)
  clear hq1 hq2 hN2 hC2 hj hle hjn hlc X0
  rcases t1 with rfl | ⟨rfl, t1⟩
  · obtain ⟨rfl, hin⟩ := HI7.out rfl
    have i6 : IntKind.i64.wrap ((i : Int) + 1) = (i : Int) + 1 := by rw [IntKind.wrap_i64]; omega
    have i5 : (i : Int) + 1 ≤ 1000001 := by omega
    have hc3 : ∀ u, (Instr.slice 26 (.slice q n c) (some (.int .i64 ((i : Int) + 1))) none none).run Try.prog u = .ok (.slice Q2 N2 C2) u := fun u => by
      have := hc2 u
      rw [show ((i + 1 : Nat) : Int) = (i : Int) + 1 from by omega] at this
      exact this
    clear hc2
    go_wp2_with (first
      | (refine wpList_appL (o := ⟨some 40, _, _, _, _, _⟩) rowDt (by kernel_rfl) (.tmp 33) (.tmp 39) rfl U2.heap.size _ _ _ _ HO4.out rfl Q1 i _ (L.take i) (HQ1.out.below HB4.out) HTL.out rfl i ?b1 ?b2 HB4.out.size ?_; (case b1 => omega); (case b2 => (have := HIB.out; omega)); intro q5 c5 w5 h5 b5; have HB5 := Lib.hid (HB4.out.trans b5.out); obtain ⟨y9, y0, y1, y2, y3, y4⟩ := HX30.out w5 HB5.out; clear x00)
      | (refine wpList_appL (o := ⟨some 44, _, _, _, _, _⟩) rowDt (by kernel_rfl) (.tmp 41) (.tmp 43) rfl U2.heap.size _ _ _ _ (h5.out.below (newB w5 (.cells #[.int .i64 x0, .int .u32 x1, .int .i64 x2, .int .i64 x3, .int .i64 x4] 36))) rfl _ 1 1 [⟨x0, ⟨x1, x2⟩, x3, x4⟩] (HLITB.out w5) rfl rfl (i + 1) rfl HIB.out (HB5.out.alloc HB5.out.size _).size ?_; intro q6 c6 w6 h6 b6; have HB6 := Lib.hid ((HB5.out.alloc HB5.out.size (.cells #[.int .i64 x0, .int .u32 x1, .int .i64 x2, .int .i64 x3, .int .i64 x4] 36)).trans b6.out); have x0' := (HX30.out w6 HB6.out).1; clear y9 y0 y1 y2 y3 y4)
      | (refine wpList_appL (o := ⟨some 56, _, _, _, _, _⟩) rowDt (by kernel_rfl) (.tmp 49) (.tmp 55) rfl U2.heap.size _ _ _ _ h6.out rfl Q2 N2 C2 (L.drop (i + 1)) (HQ2.out w6 HB6.out) HDL.out rfl (i + 1 + N2) rfl HNB.out HB6.out.size ?_; intro q7 c7 w7 h7 b7; have HB7 := Lib.hid (HB6.out.trans b7.out); have x0'' := (HX30.out w7 HB7.out).1; have hfz := (HT2.out.next HB7.out).blk.f 0; clear x0'))
    go_ret
    exact ⟨rfl, by
      rw [HPJ.out]
      exact rt_end HBW.out HB2.out HB7.out h7.out (HPJ.out ▸ HSR.out) (HPJ.out ▸ HOKS.out)⟩
  · obtain rfl := HI8.out rfl
    have X0 := HT2.out.at0 HNN.out
    go_wp2_with (first
      | (refine wpList_appL (o := ⟨some 40, _, _, _, _, _⟩) rowDt (by kernel_rfl) (.tmp 33) (.tmp 39) rfl U2.heap.size _ _ _ _ HO4.out rfl Q1 j _ (L.take j) (HQ1.out.below HB4.out) HTL.out rfl j ?b1 ?b2 HB4.out.size ?_; (case b1 => omega); (case b2 => (have := HIB.out; omega)); intro q5 c5 w5 h5 b5; have HB5 := Lib.hid (HB4.out.trans b5.out); obtain ⟨y9, y0, y1, y2, y3, y4⟩ := HX30.out w5 HB5.out; clear x00 X0)
      | (refine wpList_appL (o := ⟨some 44, _, _, _, _, _⟩) rowDt (by kernel_rfl) (.tmp 41) (.tmp 43) rfl U2.heap.size _ _ _ _ (h5.out.below (newB w5 (.cells #[.int .i64 x0, .int .u32 x1, .int .i64 x2, .int .i64 x3, .int .i64 x4] 36))) rfl _ 1 1 [⟨x0, ⟨x1, x2⟩, x3, x4⟩] (HLITB.out w5) rfl rfl (j + 1) rfl HIB.out (HB5.out.alloc HB5.out.size _).size ?_; intro q6 c6 w6 h6 b6; have HB6 := Lib.hid ((HB5.out.alloc HB5.out.size (.cells #[.int .i64 x0, .int .u32 x1, .int .i64 x2, .int .i64 x3, .int .i64 x4] 36)).trans b6.out); have x0' := (HX30.out w6 HB6.out).1; clear y9 y0 y1 y2 y3 y4)
      | (refine wpList_appL (o := ⟨some 56, _, _, _, _, _⟩) rowDt (by kernel_rfl) (.tmp 49) (.tmp 55) rfl U2.heap.size _ _ _ _ h6.out rfl Q2 N2 C2 (L.drop j) (HQ2.out w6 HB6.out) HDL.out rfl (j + 1 + N2) rfl HNB.out HB6.out.size ?_; intro q7 c7 w7 h7 b7; have HB7 := Lib.hid (HB6.out.trans b7.out); have x0'' := (HX30.out w7 HB7.out).1; have hfz := (HT2.out.next HB7.out).blk.f 0; clear x0'))
    go_ret
    exact ⟨rfl, by
      rw [HPJ.out]
      exact rt_end HBW.out HB2.out HB7.out h7.out (HPJ.out ▸ HSR.out) (HPJ.out ▸ HOKS.out)⟩
set_option maxHeartbeats 16000000 in
theorem rdelD_any (w : World) (g : Nat) (q : Option Addr) (c : Nat) (L : List Dt) (H : RtAt w g q c L) (p : Pf) (hn : L.length ≤ 1000000) :
    Calls Try.prog 12 #[.pointer (some ⟨g, 0, none⟩), pfV p] w fun e w' => e = .returned (.bool (lookD L p).isSome) ∧ RtTo w w' g (delD p L) := by
  obtain ⟨x1, x2⟩ := p
  have hb1 := newB w (.cells #[.int .u32 x1, .int .i64 x2] 32)
  have hX := Blk.new w 32 [.int .u32 x1, .int .i64 x2]
  obtain ⟨P, hP⟩ : ∃ P, w.heap.size = P := ⟨_, rfl⟩
  obtain ⟨V, hV⟩ : ∃ V, w.alloc (.cells #[.int .u32 x1, .int .i64 x2] 32) = V := ⟨_, rfl⟩
  rw [hV] at hb1 hX
  rw [hP] at hX
  have HB0 := Lib.hid hb1
  have HBW := Lib.hid H.blk
  have HT := Lib.hid (H.next hb1)
  have HVE := Lib.hid hV
  have HPE := Lib.hid hP
  have hF := rfindD_any V g q c L (H.next hb1) ⟨x1, x2⟩
  obtain ⟨i, hi⟩ : ∃ i, placeD ⟨x1, x2⟩ L = i := ⟨_, rfl⟩
  obtain ⟨f, hf⟩ : ∃ o, (lookD L ⟨x1, x2⟩).isSome = o := ⟨_, rfl⟩
  obtain ⟨n, hnn⟩ : ∃ n, L.length = n := ⟨_, rfl⟩
  have HPL := Lib.hid (show f = true → delD ⟨x1, x2⟩ L = L.take i ++ L.drop (i + 1) from fun h => by rw [delD_place H.srt _ (hf.trans h), hi])
  have HNO := Lib.hid (show f = false → delD ⟨x1, x2⟩ L = L from fun h => delD_none (hf.trans h))
  have HLT := Lib.hid (fun h : f = true => show i < n from by have := (look_place H.srt ⟨x1, x2⟩ (hf.trans h)).2; rw [hi, hnn] at this; exact this)
  rw [hi, hf] at hF
  rw [hf]
  have HFI := Lib.hid hF
  have HNN := Lib.hid hnn
  have hn9 : n ≤ 1000000 := by rw [← hnn]; exact hn
  obtain ⟨z0, z1⟩ := pf_boxes hX
  clear hX hb1 hV hP hF hi hf hnn H hn
  go_enter Try.func12, Try.ntmps12
  go_wp2_with fail
  rw [HVE.out, HPE.out]
  go_wp2_with fail
  refine HFI.out.mono ?_
  rintro e U ⟨rfl, hb⟩
  have HB1 := Lib.hid (HB0.out.trans (hb.mono HB0.out.size))
  have HT1 := Lib.hid (HT.out.next hb)
  clear z0 z1 hb
  rcases f with _ | _
  · go_wp2_with fail
    go_ret
    exact ⟨rfl, q, c, by rw [HNO.out trivial]; exact HT1.out, Turns.of_below HB1.out⟩
  have hin := HLT.out rfl
  obtain ⟨U2, hU2⟩ : ∃ W, U.drew = W := ⟨_, rfl⟩
  have HB2 := Lib.hid (show Below w.heap.size w U2 from hU2 ▸ HB1.out.drew)
  have HT2 := Lib.hid (show RtAt U2 g q c L from hU2 ▸ HT1.out.next (Below.refl _ _).drew)
  have X0 := HT2.out.at0 HNN.out
  have hlc : n ≤ c := by have := HT2.out.le; rw [HNN.out] at this; exact this
  obtain ⟨Q1, hc1, hq1⟩ := cutL_h rowDt U2 q L n c i HT2.out.at_ HNN.out (by omega) hlc
  obtain ⟨Q2, hc2, hq2⟩ := cutL_l rowDt U2 q L n c (i + 1) HT2.out.at_ HNN.out (by omega) hlc
  obtain ⟨N2, hN2⟩ : ∃ N, n - (i + 1) = N := ⟨_, rfl⟩
  obtain ⟨C2, hC2⟩ : ∃ C, c - (i + 1) = C := ⟨_, rfl⟩
  rw [hN2, hC2] at hc2
  have hc3 : ∀ u, (Instr.slice 26 (.slice q n c) (some (.int .i64 ((i : Int) + 1))) none none).run Try.prog u = .ok (.slice Q2 N2 C2) u := fun u => by
    have := hc2 u
    rw [show ((i + 1 : Nat) : Int) = (i : Int) + 1 from by omega] at this
    exact this
  have HQ1 := Lib.hid hq1
  have HQ2 := Lib.hid (fun (W : World) (h : Below U2.heap.size U2 W) => hq2.below h)
  have HTL := Lib.hid (show (L.take i).length = i by rw [List.length_take, HNN.out]; omega)
  have HDL := Lib.hid (show (L.drop (i + 1)).length = N2 by rw [List.length_drop, HNN.out]; exact hN2)
  have HNB := Lib.hid (show i + N2 ≤ 34359738368 by omega)
  have HIB := Lib.hid (show i ≤ 34359738368 by omega)
  have HO4 := Lib.hid (show DtsOwn (U2.alloc (.cells #[] 36)) U2.heap.size (some ⟨U2.heap.size, 0, none⟩) 0 0 [] from LOwn.lit rowDt U2 U2.heap.size [] (fun x hx => by cases hx) (Nat.le_refl _) (by unfold maxLen; simp))
  have HB4 := Lib.hid (newB U2 (.cells #[] 36))
  have HX30 := Lib.hid (fun (W : World) (h : Below U2.heap.size U2 W) => show W.cell? ⟨g, 0, none⟩ = some (.slice q n c) from (HT2.out.next h).at0 HNN.out)
  have x00 := HX30.out _ HB4.out
  have x01 : (U.alloc (.cells #[] 36)).drew.cell? ⟨g, 0, none⟩ = some (.slice q n c) := by have := x00; rw [← hU2] at this; exact this
  have HSR := Lib.hid (delD_srt HT2.out.srt ⟨x1, x2⟩)
  have HOKS := Lib.hid (show ∀ x ∈ delD ⟨x1, x2⟩ L, InDt x from fun x hx => HT2.out.ok x ((mem_delD _ _ _).1 hx).1)
  have HPJ := Lib.hid (show delD ⟨x1, x2⟩ L = ([] ++ L.take i) ++ L.drop (i + 1) from HPL.out rfl)
  have i6 : IntKind.i64.wrap ((i : Int) + 1) = (i : Int) + 1 := by rw [IntKind.wrap_i64]; omega
  have i5 : (i : Int) + 1 ≤ 1000001 := by omega
  clear hq1 hq2 hN2 hC2 hlc hc2
  subst hU2
  go_wp2_with fail
  go_region_law (first
    | (refine step_appL (o := ⟨some 22, _, _, _, _, _⟩) rowDt (by kernel_rfl) (.tmp 15) (.tmp 21) rfl U.drew.heap.size _ _ _ _ HO4.out rfl Q1 i _ (L.take i) (HQ1.out.below HB4.out) HTL.out rfl i ?b1 ?b2 HB4.out.size ?_; (case b1 => omega); (case b2 => exact HIB.out); intro q5 c5 w5 h5 b5; have HB5 := Lib.hid (HB4.out.trans b5.out); have y0 := HX30.out w5 HB5.out; clear x00 x01 X0)
    | (refine step_appL (o := ⟨some 30, _, _, _, _, _⟩) rowDt (by kernel_rfl) (.tmp 22) (.tmp 29) rfl U.drew.heap.size _ _ _ _ h5.out rfl Q2 N2 C2 (L.drop (i + 1)) (HQ2.out w5 HB5.out) HDL.out rfl (i + N2) rfl HNB.out HB5.out.size ?_; intro q7 c7 w7 h7 b7; have HB7 := Lib.hid (HB5.out.trans b7.out); have z0 := HX30.out w7 HB7.out; have hfz := (HT2.out.next HB7.out).blk.f 0))
  all_goals (go_wp2_with fail)
  all_goals go_ret
  all_goals exact ⟨rfl, by
    rw [HPJ.out]
    exact rt_end HBW.out HB2.out HB7.out h7.out (HPJ.out ▸ HSR.out) (HPJ.out ▸ HOKS.out)⟩
end Go.Proofs.Ytjimnlpmmhcdjaa
