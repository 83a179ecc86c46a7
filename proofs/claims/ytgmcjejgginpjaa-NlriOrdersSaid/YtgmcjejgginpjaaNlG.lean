/- NlriJoins: the walk. -/
import Derived.Test.YtgmcjejgginpjaaMk8
import Derived.Test.YtgmcjejgginpjaaNlE
namespace Go.Proofs.Ytgmcjejgginpjaa
open Go.RowKit

theorem nlL_len (paths : Bool) (x : Nl) : (nlL paths x).length ≤ 9 := by
  unfold nlL pfxL
  have h4 := putL_len x.addr 4
  have h5 := putL_len x.id 4
  cases paths <;> simp [h4, h5] <;> omega
theorem nlsL_len (paths : Bool) : ∀ l : List Nl, (nlsL paths l).length ≤ l.length * 9
  | [] => by simp [nlsL]
  | x :: t => by
    have := nlsL_len paths t
    have := nlL_len paths x
    rw [nlsL_cons, List.length_append, List.length_cons]
    omega
theorem NlsOwn.lit0 (w : World) (B : Nat) (hB : B ≤ w.heap.size) : NlsOwn (w.alloc (.cells #[] 41)) B (some ⟨w.heap.size, 0, none⟩) 0 0 [] :=
  ⟨rfl, fun i hi => by simp at hi, World.ownsRow_made w #[] 0 hB (Nat.zero_le _) rfl⟩

theorem run_appnsN (w : World) (ty : TypeId) (B : Nat) (q : Option Addr) (n cap : Nat) (l : List Nl) (h : NlsOwn w B q n cap l) (p : Option Addr) (c m : Nat) (ys : List Nl) (hy : NlsAt w p ys) (hm : ys.length = m) (h40 : n + m ≤ 1099511627776) (hB : B ≤ w.heap.size) :
    ∃ q' cap' w', (Builtin.append_ #[22, 22] ty #[.slice q n cap, .slice p m c]).run Try.prog w = .ok (.slice q' (n + m) cap') w' ∧ NlsOwn w' B q' (n + m) cap' (l ++ ys) ∧ Below B w w' := by
  obtain ⟨i0, hi, hz0, hz1, hz2⟩ := info_parts infoNl
  rcases Nat.eq_zero_or_pos m with h0 | h0
  · subst h0
    obtain rfl : ys = [] := List.eq_nil_of_length_eq_zero hm
    have hsrc : Src Try.prog i0.size 22 (.slice p 0 c) 0 [] w := by
      rcases p with _ | a
      · exact Src.ofNil w Try.underlying22 c
      · exact Src.ofSlice w Try.underlying22 a 0 c [] (by simp) (fun j u hj => by simp at hj) (fun u hu => by simp at hu)
    refine ⟨q, cap, w, run_append_nothing w 22 22 ty 41 i0 Try.underlying22 hi q n cap h.cap.1 _ hsrc, ?_, Below.refl _ _⟩
    rw [List.append_nil]; exact h
  · obtain ⟨b, off, rfl, hcell⟩ := nls_src hy m hm h0
    obtain ⟨v', w', hr, h2, h3, _⟩ := run_append_own (P := Try.prog) w B 22 ty 41 i0 (.agg #[.int .i64 0, .int .u32 0, .int .i64 0]) 3 24 Try.underlying22 hi hz0 hz1 hz2 rfl (by decide) _ n _ h.row ⟨b, off, none⟩ m c (ncells ys) (by rw [ncells_len, hm]) hcell (fun u hu => by
      unfold ncells at hu
      obtain ⟨x, _, hx⟩ := List.mem_flatMap.1 hu
      exact nl_one x u hx) (by unfold maxLen; omega) (by omega) hB
    obtain ⟨q', cap', rfl, _, _⟩ := rowN_form h2
    refine ⟨q', cap', w', hr, ⟨by rw [List.length_append, h.len, hm], fun i hi2 => ?_, ?_⟩, ?_⟩
    · rcases Nat.lt_or_ge i l.length with hlt | hge
      · have := h.addr i hlt
        simpa [List.getD, List.getElem?_append_left hlt] using this
      · have := hy.addr (i - l.length) (by simp at hi2; omega)
        simpa [List.getD, List.getElem?_append_right hge] using this
    · unfold ncells at *
      rw [List.flatMap_append]
      exact h2
    · refine (Below.refl B w).grown h3 hB fun k hk => ?_
      rcases h.row.2 with ⟨hv, _⟩ | ⟨g', cap2, cur, hv, hB2, _⟩
      · rw [hv] at hk; cases hk
      · rw [hv] at hk
        have : g' = k := by simpa [Value.ownBlock] using hk
        omega
theorem wpList_appnsN {ops : Array Oper} {rest : List Oper} {o : Oper} {a : Act} {w : World} {Q : Exit → Act → World → Prop} (hw : Region.wanted o (yielded ops a.tmps) = true) (s x : Operand)
    (ho : o.op = .call { callee := .builtin .append, args := #[s, x], argTypes := #[22, 22] })
    (B : Nat) (q : Option Addr) (n cap : Nat) (l : List Nl) (hown : NlsOwn w B q n cap l) (hs : a.eval s = .slice q n cap)
    (p : Option Addr) (m c : Nat) (ys : List Nl) (hy : NlsAt w p ys) (hm : ys.length = m) (hx : a.eval x = .slice p m c) (t : Nat) (ht : n + m = t) (h40 : t ≤ 1099511627776) (hB : B ≤ w.heap.size)
    (h : ∀ q' cap' w', Hid (NlsOwn w' B q' t cap' (l ++ ys)) → Hid (Below B w w') → wpList Try.prog ops Q rest (a.put o.dst (.slice q' t cap')) w') :
    wpList Try.prog ops Q (o :: rest) a w :=
  wpList_step fun K hK => by
    rw [if_pos hw]
    subst ht
    obtain ⟨q', cap', w', hr, h2, h3⟩ := run_appnsN w o.type B q n cap l hown p c m ys hy hm h40 hB
    unfold Oper.wp execOp
    simp only [ho, resolve, invoke, builtin, Sem.run_bind, Sem.run_pure, Result.andThen_ok, List.map_toArray, List.map_cons, List.map_nil, hs, hx, hr]
    exact hK _ _ (h q' cap' w' (Lib.hid h2) (Lib.hid h3))

theorem joins_num (paths : Bool) (l m : List Nl) (hl : ∀ i, i < l.length → InAddr (l.getD i Nl.none)) (hm : ∀ i, i < m.length → InAddr (m.getD i Nl.none)) (h1 : okNls l paths = true) (h2 : okNls m paths = true) :
    getNls paths (nlsL paths l ++ nlsL paths m) = if l.length + m.length ≤ 1024 then some (l ++ m) else none := by
  have ha : ∀ (l : List Nl), (∀ i, i < l.length → InAddr (l.getD i Nl.none)) → okNls l paths = true → ∀ x ∈ l, InAddr x ∧ oddNl (mostN paths) x = false := fun l hl hk x hx => by
    obtain ⟨i, hi, rfl⟩ := List.getElem_of_mem hx
    have e : l.getD i Nl.none = l[i] := by simp [List.getD, List.getElem?_eq_getElem hi]
    exact ⟨e ▸ hl i hi, e ▸ (okNls_yes hk).2 i hi⟩
  have hall : ∀ x ∈ l ++ m, InAddr x ∧ oddNl (mostN paths) x = false := fun x hx => by
    rcases List.mem_append.1 hx with h | h
    · exact ha l hl h1 x h
    · exact ha m hm h2 x h
  rw [← nlsL_app]
  unfold getNls
  by_cases h : l.length + m.length ≤ 1024
  · rw [if_pos h]
    exact getNl_put paths (l ++ m) _ 0 hall (by rw [List.length_append]; omega) (by omega)
  · rw [if_neg h]
    exact getNl_many paths (l ++ m) _ 0 hall (by omega) (by rw [List.length_append]; omega) (by omega)

set_option maxRecDepth 100000 in
set_option maxHeartbeats 4000000 in
theorem joins06_any (p q : Option Addr) (l m : List Nl) (n c k d : Nat) (paths : Bool) (w : World) (hl : NlsAt w p l) (hm : NlsAt w q m) (hn : l.length = n) (hk : m.length = k) (hnm : n ≤ maxLen) (hkm : k ≤ maxLen) :
    Calls Try.prog 6 #[.slice p n c, .slice q k d, .bool paths] w fun e w' => e = .returned (.bool true) ∧ Below w.heap.size w w' := by
  have HLV := fun u => Lib.hid (lives06_any u)
  have HCL := Lib.hid (rcheckNl_any p l n c paths w hl hn hnm)
  rcases hok : okNls l paths with _ | _
  · rw [hok] at HCL
    clear hl hm hn hk
    go_enter Try.func6, Try.ntmps6
    go_wp2_with fail
    refine HCL.out.mono ?_; rintro e w1 ⟨rfl, hb1⟩
    have HB1 := Lib.hid hb1
    have HL := HLV w1
    clear hb1 HLV
    go_wp2_with fail
    refine HL.out.mono ?_; rintro e w2 ⟨rfl, hb2⟩
    have HB2 := Lib.hid (HB1.out.trans (hb2.mono HB1.out.size))
    clear hb2
    go_wp2_with fail
    go_ret
    exact ⟨rfl, HB2.out⟩
  · have hCM := fun u (h : Below w.heap.size w u) => rcheckNl_any q m k d paths u (hm.below h) hk hkm
    rcases hok2 : okNls m paths with _ | _
    · simp only [hok2] at hCM
      rw [hok] at HCL
      have HCM := fun u h => Lib.hid (hCM u h)
      clear hl hm hn hk hCM
      go_enter Try.func6, Try.ntmps6
      go_wp2_with fail
      refine HCL.out.mono ?_; rintro e w1 ⟨rfl, hb1⟩
      have HB1 := Lib.hid hb1
      have HC := HCM w1 hb1
      clear hb1 HCM HCL
      go_wp2_with fail
      refine HC.out.mono ?_; rintro e w2 ⟨rfl, hb2⟩
      have HB2 := Lib.hid (HB1.out.trans (hb2.mono HB1.out.size))
      have HL := HLV w2
      clear hb2 HLV
      go_wp2_with fail
      refine HL.out.mono ?_; rintro e w3 ⟨rfl, hb3⟩
      have HB3 := Lib.hid (HB2.out.trans (hb3.mono HB2.out.size))
      clear hb3
      go_wp2_with fail
      go_ret
      exact ⟨rfl, HB3.out⟩
    · simp only [hok2] at hCM
      rw [hok] at HCL
      have HCM := fun u h => Lib.hid (hCM u h)
      have HAL := Lib.hid hl
      have HAM := Lib.hid hm
      have HNN := Lib.hid hn
      have HKK := Lib.hid hk
      have hn24 : n ≤ 1024 := by rw [← hn]; exact (okNls_yes hok).1
      have hk24 : k ≤ 1024 := by rw [← hk]; exact (okNls_yes hok2).1
      have hnum := joins_num paths l m hl.addr hm.addr hok hok2
      rw [hn, hk] at hnum
      obtain ⟨xs, hxs⟩ : ∃ xs, nlsL paths l = xs := ⟨_, rfl⟩
      obtain ⟨ys, hys⟩ : ∃ ys, nlsL paths m = ys := ⟨_, rfl⟩
      have hxl : xs.length ≤ 10000 := by rw [← hxs]; have := nlsL_len paths l; omega
      have hyl : ys.length ≤ 10000 := by rw [← hys]; have := nlsL_len paths m; omega
      have hPL := fun u (h : Below w.heap.size w u) => putNl_ok p l n c paths u (hl.below h) hn hok
      have hPM := fun u (h : Below w.heap.size w u) => putNl_ok q m k d paths u (hm.below h) hk hok2
      simp only [hxs] at hPL
      simp only [hys] at hPM
      rw [hxs, hys] at hnum
      obtain ⟨a, ha⟩ : ∃ a, xs.length = a := ⟨_, rfl⟩
      obtain ⟨b, hb⟩ : ∃ b, ys.length = b := ⟨_, rfl⟩
      rw [ha] at hxl
      rw [hb] at hyl
      simp only [ha] at hPL
      simp only [hb] at hPM
      have HPL := fun u h => Lib.hid (hPL u h)
      have HPM := fun u h => Lib.hid (hPM u h)
      have HXL := Lib.hid ha
      have HYL := Lib.hid hb
      have HNUM := Lib.hid hnum
      clear hl hm hn hk hCM hPL hPM hxs hys ha hb hnum hok hok2
      go_enter Try.func6, Try.ntmps6
      go_wp2_with fail
      refine HCL.out.mono ?_; rintro e w1 ⟨rfl, hb1⟩
      have HB1 := Lib.hid hb1
      have HC := HCM w1 hb1
      clear hb1 HCM HCL
      go_wp2_with fail
      refine HC.out.mono ?_; rintro e w2 ⟨rfl, hb2⟩
      have HB2 := Lib.hid (HB1.out.trans (hb2.mono HB1.out.size))
      have HP := HPL w2 HB2.out
      clear hb2 HPL HC HB1
      go_wp2_with fail
      refine HP.out.mono ?_; rintro e w3 ⟨q3, c3, rfl, hO, hb3⟩
      have HB3 := Lib.hid (HB2.out.trans (hb3.mono HB2.out.size))
      have O3 := Lib.hid hO.bytes
      have HP := HPM w3 HB3.out
      clear hb3 hO HPM HB2
      go_wp2_with fail
      refine HP.out.mono ?_; rintro e w4 ⟨q4, c4, rfl, hO, hb4⟩
      have HB4 := Lib.hid (HB3.out.trans (hb4.mono HB3.out.size))
      have O4 := Lib.hid (O3.out.below hb4)
      have P4 := Lib.hid hO.bytes
      have hA := newB w4 (.cells #[] 5)
      have OL := Lib.hid (Own.lit w4 w4.heap.size [] (fun i hi => by simp at hi) (by simp) (Nat.le_refl _))
      have O5 := Lib.hid (O4.out.below hA)
      have HA := Lib.hid hA
      clear hb4 hO hA HP HB3 O3 O4
      go_wp2_with (first
        | (at_builtin; refine wpList_appo (o := ⟨some 39, _, _, _, _, _⟩) (by rfl) (.tmp 37) (.tmp 38) (by rfl) w4.heap.size (some ⟨w4.heap.size, 0, none⟩) 0 [] OL.out 0 (by rfl) (by rfl) q3 a c3 xs O5.out HXL.out (by rfl) a (by omega) (by omega) (by simp) ?_; intro p6 c6 w6 hO6 hB6 hG6)
        | (at_builtin; refine wpList_appo (o := ⟨some 41, _, _, _, _, _⟩) (by rfl) (.tmp 39) (.tmp 40) (by rfl) w4.heap.size p6 c6 ([] ++ xs) hO6.out a HXL.out (by rfl) q4 b c4 ys (P4.out.below (HA.out.trans hB6.out)) HYL.out (by rfl) (a + b) (by omega) (by omega) (HA.out.trans hB6.out).size ?_; intro p7 c7 w7 hO7 hB7 hG7))
      have hb7 := (HA.out.trans hB6.out).trans hB7.out
      have HB7 := Lib.hid (HB4.out.trans (hb7.mono HB4.out.size))
      have hO := hO7.out
      rw [List.nil_append] at hO
      have hle := hO.le
      have hlen : (xs ++ ys).length = a + b := by rw [List.length_append, HXL.out, HYL.out]
      have HG := Lib.hid (getNl_any p7 (xs ++ ys) (a + b) c7 paths w7 hO.bytes hlen (by omega) hO.max)
      rw [HNUM.out] at HG
      clear hb7 hO hle hlen hO6 hB6 hG6 hO7 hB7 hG7 HB4 P4 OL O5 HA
      by_cases hfit : n + k ≤ 1024
      · rw [if_pos hfit] at HG
        have t1 : decide ((1024 : Int) < (n : Int) + (k : Int)) = false := by simp; omega
        refine HG.out.mono ?_; rintro e w8 ⟨q8, c8, rfl, hO, hb⟩
        have HB8 := Lib.hid (HB7.out.trans (hb.mono HB7.out.size))
        have N8 := Lib.hid hO.at
        rw [show (l ++ m).length = n + k by rw [List.length_append, HNN.out, HKK.out]]
        have HL := HLV w8
        clear hb hO HG HB7 HLV
        go_wp2_with fail
        refine HL.out.mono ?_; rintro e w9 ⟨rfl, hb⟩
        have HB9 := Lib.hid (HB8.out.trans (hb.mono HB8.out.size))
        have N9 := Lib.hid (N8.out.below hb)
        have hA := newB w9 (.cells #[] 41)
        have OL := Lib.hid (NlsOwn.lit0 w9 w9.heap.size (Nat.le_refl _))
        have LA := Lib.hid ((HAL.out.below HB9.out).below hA)
        have MA := Lib.hid (HAM.out.below HB9.out)
        have HA := Lib.hid hA
        clear hb hA HL HB8 N8
        go_wp2_with (first
          | (at_builtin; refine wpList_appnsN (o := ⟨some 75, _, _, _, _, _⟩) (by rfl) (.tmp 73) (.tmp 74) (by rfl) w9.heap.size (some ⟨w9.heap.size, 0, none⟩) 0 0 [] OL.out (by rfl) p n c l LA.out HNN.out (by rfl) n (by omega) (by omega) (by simp) ?_; intro q10 c10 w10 hO10 hB10)
          | (at_builtin; refine wpList_appnsN (o := ⟨some 77, _, _, _, _, _⟩) (by rfl) (.tmp 75) (.tmp 76) (by rfl) w9.heap.size q10 n c10 ([] ++ l) hO10.out (by rfl) q k d m (MA.out.below (HA.out.trans hB10.out)) HKK.out (by rfl) (n + k) (by omega) (by omega) (HA.out.trans hB10.out).size ?_; intro q11 c11 w11 hO11 hB11))
        have hb11 := (HA.out.trans hB10.out).trans hB11.out
        have HB11 := Lib.hid (HB9.out.trans (hb11.mono HB9.out.size))
        have hO := hO11.out.at
        rw [List.nil_append] at hO
        have HS := Lib.hid (rsameNl_yes q8 q11 (l ++ m) (n + k) c8 c11 w11 (N9.out.below hb11) hO (by rw [List.length_append, HNN.out, HKK.out]) (by unfold maxLen; omega))
        clear hb11 hO hO10 hB10 hO11 hB11 OL LA MA HA HB9 N9
        refine HS.out.mono ?_; rintro e w12 ⟨rfl, hb⟩
        have HB12 := Lib.hid (HB11.out.trans (hb.mono HB11.out.size))
        clear hb
        go_wp2_with fail
        go_ret
        exact ⟨rfl, HB12.out⟩
      · rw [if_neg hfit] at HG
        have t1 : decide ((1024 : Int) < (n : Int) + (k : Int)) = true := by simp; omega
        refine HG.out.mono ?_; rintro e w8 ⟨rfl, hb⟩
        have HB8 := Lib.hid (HB7.out.trans (hb.mono HB7.out.size))
        have HL := HLV w8
        clear hb HG HB7 HLV
        go_wp2_with fail
        refine HL.out.mono ?_; rintro e w9 ⟨rfl, hb⟩
        have HB9 := Lib.hid (HB8.out.trans (hb.mono HB8.out.size))
        clear hb
        go_wp2_with fail
        go_ret
        exact ⟨rfl, HB9.out⟩
theorem joins06_walk (w : World) (x y : Option Addr × List Nl × Nat) (hx : NlsAt w x.1 x.2.1) (hy : NlsAt w y.1 y.2.1) (hxm : x.2.1.length ≤ maxLen) (hym : y.2.1.length ≤ maxLen) (paths : Bool) :
    Calls Try.prog 6 #[.slice x.1 x.2.1.length x.2.2, .slice y.1 y.2.1.length y.2.2, .bool paths] w fun e w' => e = .returned (.bool true) ∧ Below w.heap.size w w' :=
  joins06_any _ _ _ _ _ _ _ _ paths w hx hy rfl rfl hxm hym
end Go.Proofs.Ytgmcjejgginpjaa
