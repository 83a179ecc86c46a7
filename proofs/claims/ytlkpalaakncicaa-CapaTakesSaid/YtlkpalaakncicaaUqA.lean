/- capa: the document's state: how it lies, find, Get, Stamp, Limit, Same. / capa: the document's Get, Limit, Stamp over what interfaces carry. / capa: the document's New. / capa: the document's Take. -/
import Derived.Test.YtlkpalaakncicaaXI
import Derived.Test.YtlkpalaakncicaaWT
namespace Go.Proofs.Ytlkpalaakncicaa
open Go.RowKit Go.Maps
set_option linter.unusedVariables false
set_option linter.unusedSimpArgs false
set_option maxRecDepth 100000

abbrev RFf : TypeId := 65
def refC (q : Option Addr) (n cap : Nat) (A T : Nat → Int) : List Value := .slice q n cap :: ((List.range 16).map (fun i => Value.int .i64 (A i)) ++ (List.range 16).map (fun i => Value.int .i64 (T i)))
theorem refC_len (q : Option Addr) (n cap : Nat) (A T : Nat → Int) : (refC q n cap A T).length = 33 := by simp [refC]
theorem refC_A (q : Option Addr) (n cap : Nat) (A T : Nat → Int) {i : Nat} (hi : i < 16) : (refC q n cap A T)[1 + i]? = some (.int .i64 (A i)) := by
  unfold refC
  rw [Nat.add_comm, List.getElem?_cons_succ, List.getElem?_append_left (by simpa using hi)]
  simp [hi]
theorem refC_T (q : Option Addr) (n cap : Nat) (A T : Nat → Int) {i : Nat} (hi : i < 16) : (refC q n cap A T)[17 + i]? = some (.int .i64 (T i)) := by
  unfold refC
  rw [show 17 + i = (16 + i) + 1 by omega, List.getElem?_cons_succ, List.getElem?_append_right (by simp)]
  simp [hi]
def setI (A : Nat → Int) (i : Nat) (v : Int) : Nat → Int := fun k => if k = i then v else A k
theorem refC_cases (k : Nat) (hk : k < 33) : k = 0 ∨ (∃ j, j < 16 ∧ k = 1 + j) ∨ ∃ j, j < 16 ∧ k = 17 + j := by
  by_cases h0 : k = 0
  · exact .inl h0
  · by_cases h1 : k < 17
    · exact .inr (.inl ⟨k - 1, by omega, by omega⟩)
    · exact .inr (.inr ⟨k - 17, by omega, by omega⟩)
theorem refC_setA (q : Option Addr) (n cap : Nat) (A T : Nat → Int) {i : Nat} (hi : i < 16) (v : Int) : (refC q n cap A T).set (1 + i) (.int .i64 v) = refC q n cap (setI A i v) T := by
  apply List.ext_getElem?
  intro k
  by_cases hk : k < 33
  · rcases refC_cases k hk with rfl | ⟨j, hj, rfl⟩ | ⟨j, hj, rfl⟩
    · rw [List.getElem?_set_ne (by omega)]; rfl
    · rw [refC_A _ _ _ _ _ hj]
      by_cases e : j = i
      · subst e
        rw [List.getElem?_set_self (by rw [refC_len]; omega)]
        simp [setI]
      · rw [List.getElem?_set_ne (by omega), refC_A _ _ _ _ _ hj]
        simp [setI, e]
    · rw [refC_T _ _ _ _ _ hj, List.getElem?_set_ne (by omega), refC_T _ _ _ _ _ hj]
  · rw [List.getElem?_eq_none (by rw [List.length_set, refC_len]; omega), List.getElem?_eq_none (by rw [refC_len]; omega)]
theorem refC_setT (q : Option Addr) (n cap : Nat) (A T : Nat → Int) {i : Nat} (hi : i < 16) (v : Int) : (refC q n cap A T).set (17 + i) (.int .i64 v) = refC q n cap A (setI T i v) := by
  apply List.ext_getElem?
  intro k
  by_cases hk : k < 33
  · rcases refC_cases k hk with rfl | ⟨j, hj, rfl⟩ | ⟨j, hj, rfl⟩
    · rw [List.getElem?_set_ne (by omega)]; rfl
    · rw [refC_A _ _ _ _ _ hj, List.getElem?_set_ne (by omega), refC_A _ _ _ _ _ hj]
    · rw [refC_T _ _ _ _ _ hj]
      by_cases e : j = i
      · subst e
        rw [List.getElem?_set_self (by rw [refC_len]; omega)]
        simp [setI]
      · rw [List.getElem?_set_ne (by omega), refC_T _ _ _ _ _ hj]
        simp [setI, e]
  · rw [List.getElem?_eq_none (by rw [List.length_set, refC_len]; omega), List.getElem?_eq_none (by rw [refC_len]; omega)]
/-- The document's state at x. -/
structure RfAt (w : World) (x : Nat) (L : List Cy) (A T : Nat → Int) : Prop where
  intro ::
  ex : ∃ q n cap, Blk w x RFf (refC q n cap A T) ∧ CysAt w q L ∧ L.length = n ∧ n ≤ cap ∧ (∀ b off, q = some ⟨b, off, none⟩ → x < b)
section
variable {w w' : World} {x : Nat} {L : List Cy} {A T : Nat → Int}
theorem RfAt.below (H : RfAt w x L A T) (hb : Below w.heap.size w w') : RfAt w' x L A T := by
  obtain ⟨⟨q, n, cap, h1, h2, h3⟩⟩ := H
  exact ⟨⟨q, n, cap, h1.next hb, h2.below hb, h3⟩⟩
theorem RfAt.lt (H : RfAt w x L A T) : x < w.heap.size := by
  obtain ⟨⟨q, n, cap, h1, h2, h3⟩⟩ := H
  exact h1.lt
/-- capa's turns leave it. -/
theorem RfAt.turns (H : RfAt w x L A T) {c mb : Nat} (hT : Turns (fun k => k = c ∨ k = mb) w w') (hc : c < x) (hm : mb < x) : RfAt w' x L A T := by
  obtain ⟨⟨q, n, cap, h1, h2, h3, h4, h5⟩⟩ := H
  refine ⟨⟨q, n, cap, h1.of_same (hT.block x h1.lt (fun e => by rcases e with e | e <;> omega)), h2.turns hT (fun b off e hor => ?_), h3, h4, h5⟩⟩
  have := h5 b off e
  rcases hor with e | e <;> omega
end
/-- Where an interface stands. -/
def FI (L : List Cy) (id r : Int) : Prop := (∃ k : Nat, k < L.length ∧ (L.getD k Cy.zero).i = id ∧ r = k) ∨ (r = -1 ∧ ∀ y ∈ L, y.i ≠ id)
set_option maxHeartbeats 8000000 in
theorem rfind_any (w : World) (x : Nat) (L : List Cy) (A T : Nat → Int) (H : RfAt w x L A T) (hL : L.length ≤ 1000) (id : Int) :
    Calls Try.prog 51 #[.pointer (some ⟨x, 0, none⟩), .int .i64 id] w fun e w' => ∃ r, e = .returned (.int .i64 r) ∧ FI L id r ∧ Below w.heap.size w w' := by
  obtain ⟨⟨q, n, cap, h1, h2, h3, h4, h5⟩⟩ := H
  have HX := Lib.hid h1
  have HL := Lib.hid h2
  have HN := Lib.hid h3
  have hn : n ≤ 1000 := by omega
  clear h1 h2 h3 h4 h5 hL
  go_enter Try.func51, Try.ntmps51
  go_wp2_with fail
  go_loopw [5] (fun v wr => ∃ k : Nat, k ≤ n ∧ v = .int .i64 k ∧ (∀ y ∈ L.take k, y.i ≠ id) ∧ Below w.heap.size w wr) (fun v _ => n - (intOf v).toNat)
  case atStart => exact ⟨0, Nat.zero_le _, rfl, fun y hy => by simp at hy, Below.refl _ _⟩
  case round =>
    obtain ⟨k, hk, rfl, hno, hB⟩ := hrel
    have HB := Lib.hid hB
    have HNO := Lib.hid hno
    have x0 : wr.cell? ⟨x, 0, none⟩ = some (.slice q n cap) := (HX.out.next hB).cellAt rfl
    clear hB hno
    by_cases hlt : k < n
    · obtain ⟨b, off, rfl, c0, _, _⟩ := cy_cell (HL.out.below HB.out) HN.out hlt
      have hltI : (k : Int) < (n : Int) := by omega
      have k0 : (0 : Int) ≤ (k : Int) := by omega
      have HST := Lib.hid (any_snoc L k id (by rw [HN.out]; exact hlt))
      have HKL := Lib.hid (show k < L.length by rw [HN.out]; exact hlt)
      obtain ⟨yi, hy⟩ : ∃ z, (L.getD k Cy.zero).i = z := ⟨_, rfl⟩
      rw [hy] at c0 HST
      have HY := Lib.hid hy
      clear hy
      by_cases e : yi = id
      · have t1 : decide (yi = id) = true := decide_eq_true e
        have t1b : (yi == id) = true := by simpa using e
        have HE := Lib.hid e
        clear e
        go_wp2_with fail
        go_ret
        exact ⟨_, rfl, .inl ⟨k, HKL.out, HY.out.trans HE.out, rfl⟩, HB.out⟩
      · have t1 : decide (yi = id) = false := decide_eq_false e
        have t1b : (yi == id) = false := by simpa using e
        have HE := Lib.hid e
        clear e
        go_wp2_with fail
        go_roundw
        case rel =>
          refine ⟨k + 1, by omega, by go_num, fun y hy => ?_, HB.out⟩
          rw [List.take_add_one, List.mem_append] at hy
          rcases hy with hy | hy
          · exact HNO.out y hy
          · have hg : L[k]? = some (L.getD k Cy.zero) := by simp [List.getD, HKL.out]
            rw [hg] at hy
            simp only [Option.toList_some, List.mem_singleton] at hy
            rw [hy, HY.out]
            exact HE.out
        case measure => simp [intOf]; omega
    · obtain rfl : k = n := by omega
      go_wp2_with fail
      go_ret
      have hno := HNO.out
      rw [List.take_of_length_le (by rw [HN.out]; exact Nat.le_refl _)] at hno
      exact ⟨_, rfl, .inr ⟨rfl, hno⟩, HB.out⟩
set_option maxHeartbeats 4000000 in
theorem rsameC_yes (p q : Option Addr) (l : List Cy) (n c d : Nat) (w : World) (h1 : CysAt w p l) (h2 : CysAt w q l) (hn : l.length = n) (hm : n ≤ maxLen) :
    Calls Try.prog 28 #[.slice p n c, .slice q n d] w fun e w' => e = .returned (.bool true) ∧ Below w.heap.size w w' := by
  unfold maxLen at hm
  have H1 := Lib.hid h1
  have H2 := Lib.hid h2
  have HN := Lib.hid hn
  have hnn : ((n : Int) != (n : Int)) = false := by simp
  clear h1 h2 hn
  go_enter Try.func28, Try.ntmps28
  go_wp2_with fail
  go_loopw [5] (fun i wr => ∃ k : Nat, k ≤ n ∧ i = .int .i64 k ∧ Below w.heap.size w wr) (fun i _ => n - (intOf i).toNat)
  case atStart => exact ⟨0, Nat.zero_le _, rfl, Below.refl _ _⟩
  case round =>
    obtain ⟨k, hk, rfl, hB⟩ := hrel
    have HB := Lib.hid hB
    clear hB
    by_cases hlt : k < n
    · obtain ⟨b, off, rfl, c0, c1, c2⟩ := cy_cell (H1.out.below HB.out) HN.out hlt
      obtain ⟨b2, off2, rfl, d0, d1, d2⟩ := cy_cell (H2.out.below HB.out) HN.out hlt
      obtain ⟨x, hx⟩ : ∃ x, l.getD k Cy.zero = x := ⟨_, rfl⟩
      rw [hx] at c0 c1 c2 d0 d1 d2
      obtain ⟨x0, x1, x2⟩ := x
      simp only at c0 c1 c2 d0 d1 d2
      have hg := cy_eqGuard
      have hq : ∀ u, (binOp .neq 67 (.agg #[.int .i64 x0, .int .i64 x1, .bool x2]) (.agg #[.int .i64 x0, .int .i64 x1, .bool x2])).run Try.prog u = .ok (.bool false) u := fun u => (cy_neq ⟨x0, x1, x2⟩ ⟨x0, x1, x2⟩ u).trans (by rw [(eqC_iff _ _).2 rfl]; rfl)
      have hltI : (k : Int) < (n : Int) := by omega
      clear hx
      go_wp2_with fail
      go_quiet (fail)
      go_wp2_with fail
      go_roundw
      case rel => exact ⟨k + 1, by omega, by go_num, HB.out.trans ((below_dN _ _ _).mono HB.out.size)⟩
      case measure => simp [intOf]; omega
    · obtain rfl : k = n := by omega
      go_wp2_with fail
      go_ret
      exact ⟨rfl, HB.out⟩
end Go.Proofs.Ytlkpalaakncicaa
namespace Go.Proofs.Ytlkpalaakncicaa
open Go.RowKit Go.Maps
set_option linter.unusedVariables false
set_option linter.unusedSimpArgs false
set_option maxRecDepth 100000

theorem uniq_at {ss : List Ifc} (hs : ss.Pairwise (fun x y : Ifc => x.id < y.id)) {i j : Nat} (hi : i < ss.length) (hj : j < ss.length) (e : (ss.getD i Ifc.zero).id = (ss.getD j Ifc.zero).id) : i = j := by
  have h := List.pairwise_iff_getElem.1 hs
  have e1 : ∀ k (hk : k < ss.length), ss.getD k Ifc.zero = ss[k] := fun k hk => by simp [List.getD, hk]
  rw [e1 i hi, e1 j hj] at e
  rcases Nat.lt_trichotomy i j with h1 | h1 | h1
  · have := h i j hi hj h1; omega
  · exact h1
  · have := h j i hj hi h1; omega
theorem map_at (ss : List Ifc) (g : Ifc → Cy) {k : Nat} (hk : k < ss.length) : (ss.map g).getD k Cy.zero = g (ss.getD k Ifc.zero) := by simp [List.getD, List.getElem?_map, hk]
theorem mem_at {ss : List Ifc} {k : Nat} (hk : k < ss.length) : ss.getD k Ifc.zero ∈ ss := by simp [List.getD, hk]
theorem got_at {l ss : List Ifc} {f : Int → Option Cy} (hf : FOk f) (hp : l.Perm ss) (hs : ss.Pairwise (fun x y : Ifc => x.id < y.id)) {id r : Int} (h : FI (ss.map (carryV f)) id r) :
    (∃ k : Nat, k < ss.length ∧ r = k ∧ gotC l f id = ((ss.map (carryV f)).getD k Cy.zero, true) ∧ (ss.getD k Ifc.zero).id = id ∧ (byId l id).isNone = false) ∨ (r = -1 ∧ gotC l f id = (Cy.zero, false) ∧ (byId l id).isNone = true) := by
  rcases h with ⟨k, hk, hi, rfl⟩ | ⟨rfl, hno⟩
  · rw [List.length_map] at hk
    rw [map_at ss _ hk, carry_id hf] at hi
    refine .inl ⟨k, hk, rfl, ?_, hi, ?_⟩
    all_goals
      rcases hb : byId l id with _ | u
      · exfalso
        unfold byId at hb
        have := List.find?_eq_none.1 hb _ (hp.mem_iff.2 (mem_at hk))
        simp only [decide_eq_true_eq] at this
        exact this hi
    · have hu : u.id = id := by
        unfold byId at hb
        simpa using List.find?_some hb
      have hm : u ∈ ss := hp.mem_iff.1 (List.mem_of_find?_eq_some hb)
      obtain ⟨j, hj, rfl⟩ := List.getElem_of_mem hm
      have e2 : ss.getD j Ifc.zero = ss[j] := by simp [List.getD, hj]
      obtain rfl : k = j := uniq_at hs hk hj (by rw [hi, e2, hu])
      unfold gotC
      rw [hb, map_at ss _ hk, e2]
    · rfl
  · have hb : byId l id = none := by
      unfold byId
      refine List.find?_eq_none.2 fun u hu => ?_
      have := hno (carryV f u) (List.mem_map.2 ⟨u, hp.mem_iff.1 hu, rfl⟩)
      rw [carry_id hf] at this
      simpa using this
    refine .inr ⟨rfl, ?_, ?_⟩
    · unfold gotC; rw [hb]
    · rw [hb]; rfl
set_option maxHeartbeats 8000000 in
theorem rget_any (w : World) (x : Nat) (l ss : List Ifc) (f : Int → Option Cy) (A T : Nat → Int) (H : RfAt w x (ss.map (carryV f)) A T) (hf : FOk f) (hp : l.Perm ss) (hs : ss.Pairwise (fun x y : Ifc => x.id < y.id)) (hL : ss.length ≤ 1000) (id : Int) :
    Calls Try.prog 31 #[.pointer (some ⟨x, 0, none⟩), .int .i64 id] w fun e w' => e = .returned (.tuple #[cyV (gotC l f id).1, .bool (gotC l f id).2]) ∧ Below w.heap.size w w' := by
  have hb0 := newB w (.cells #[.int .i64 0, .int .i64 0, .bool false] 67)
  have hY := Blk.new w 67 [.int .i64 0, .int .i64 0, .bool false]
  obtain ⟨P, hP⟩ : ∃ P, w.heap.size = P := ⟨_, rfl⟩
  obtain ⟨V, hV⟩ : ∃ V, w.alloc (.cells #[.int .i64 0, .int .i64 0, .bool false] 67) = V := ⟨_, rfl⟩
  rw [hV] at hb0 hY
  rw [hP] at hY
  have HB0 := Lib.hid hb0
  have HVE := Lib.hid hV
  have HPE := Lib.hid hP
  have HY := Lib.hid hY
  have HK := Lib.hid (H.below hb0)
  obtain ⟨g, hg0⟩ : ∃ g, gotC l f id = g := ⟨_, rfl⟩
  have hga := fun (r : Int) (h : FI (ss.map (carryV f)) id r) => got_at hf hp hs h
  rw [hg0] at hga ⊢
  have HG := Lib.hid hga
  have HFI := Lib.hid (rfind_any V x _ A T (H.below hb0) (by rw [List.length_map]; exact hL) id)
  have hn0 := hL
  clear hV hb0 hY hP H hf hp hs hL hga hg0
  go_enter Try.func31, Try.ntmps31
  go_wp2_with fail
  rw [HVE.out, HPE.out]
  refine HFI.out.mono ?_
  rintro e V1 ⟨r, rfl, hfi, hb⟩
  have hY2 := HY.out.next hb
  have HY2 := Lib.hid hY2
  have HK2 := Lib.hid (HK.out.below hb)
  have HB2 := Lib.hid (HB0.out.trans (hb.mono HB0.out.size))
  have hgot := HG.out r hfi
  clear hb HFI HK HY HG hfi
  rcases hgot with ⟨k, hk, rfl, hg, _, _⟩ | ⟨rfl, hg, _⟩
  · obtain ⟨⟨q, n, cap, h1, h2, h3, h4, h5⟩⟩ := HK2.out
    have hkn : k < n := by rw [← h3, List.length_map]; exact hk
    obtain ⟨b, off, rfl, c0, c1, c2⟩ := cy_cell h2 h3 hkn
    obtain ⟨⟨r0, r1, r2⟩, hr⟩ : ∃ z, (ss.map (carryV f)).getD k Cy.zero = z := ⟨_, rfl⟩
    rw [hr] at c0 c1 c2 hg
    dsimp only at c0 c1 c2
    subst hg
    have x0 : V1.cell? ⟨x, 0, none⟩ = some (.slice (some ⟨b, off, none⟩) n cap) := h1.cellAt rfl
    have t1 : decide ((k : Int) < 0) = false := decide_eq_false (by omega)
    have k0 : (0 : Int) ≤ (k : Int) := by omega
    have hkI : (k : Int) < (n : Int) := by omega
    obtain ⟨d0, d1, d2⟩ := cy_boxes hY2
    have f0 := hY2.f 0
    have f1 := hY2.f 1
    have f2 := hY2.f 2
    clear h1 h2 h3 h4 h5 hY2 hr
    go_wp2_with fail
    obtain ⟨q0, q1, q2⟩ := cy_boxes (Blk.three HY2.out (.int .i64 r0) (.int .i64 r1) (.bool r2))
    exact bodyPost_ret (v := .tuple #[.agg #[.int .i64 r0, .int .i64 r1, .bool r2], .bool true]) (by simp [results, Try.results31, go_sem, q0, q1, q2]) rfl ⟨rfl, below_three HB2.out (by rw [HPE.out]; exact Nat.le_refl _) _ _ _⟩
  · subst hg
    have t1 : decide ((-1 : Int) < 0) = true := by decide
    obtain ⟨d0, d1, d2⟩ := cy_boxes hY2
    have f0 := hY2.f 0
    have f1 := hY2.f 1
    have f2 := hY2.f 2
    clear hY2
    go_wp2_with fail
    obtain ⟨q0, q1, q2⟩ := cy_boxes (Blk.three HY2.out (.int .i64 0) (.int .i64 0) (.bool false))
    exact bodyPost_ret (v := .tuple #[.agg #[.int .i64 0, .int .i64 0, .bool false], .bool false]) (by simp [results, Try.results31, go_sem, q0, q1, q2]) rfl ⟨rfl, below_three HB2.out (by rw [HPE.out]; exact Nat.le_refl _) _ _ _⟩
theorem near_low {m : Int} (h : m < 0) : near 0 = near (min m 1000) := by
  rw [near_neg (n := min m 1000) (by omega), near_id (by omega) (by omega)]
set_option maxHeartbeats 8000000 in
theorem rlimit_any (w : World) (x : Nat) (l ss : List Ifc) (f : Int → Option Cy) (A T : Nat → Int) (H : RfAt w x (ss.map (carryV f)) A T) (hf : FOk f) (hp : l.Perm ss) (hs : ss.Pairwise (fun x y : Ifc => x.id < y.id)) (hL : ss.length ≤ 1000) (id m : Int) :
    Calls Try.prog 33 #[.pointer (some ⟨x, 0, none⟩), .int .i64 id, .int .i64 m] w fun e w' => e = .returned (.int .i64 (limC (gotC l f id).1 m)) ∧ Below w.heap.size w w' := by
  have hg := rget_any w x l ss f A T H hf hp hs hL id
  have hz : (gotC l f id).2 = false → (gotC l f id).1 = Cy.zero := by
    unfold gotC
    rcases byId l id with _ | u
    · intro _; rfl
    · intro h; cases h
  obtain ⟨⟨⟨g0, g1, g2⟩, go⟩, hgo⟩ : ∃ g, gotC l f id = g := ⟨_, rfl⟩
  rw [hgo] at hg hz ⊢
  dsimp only at hz
  have HG := Lib.hid (show Calls Try.prog 31 #[.pointer (some ⟨x, 0, none⟩), .int .i64 id] w fun e w' => e = .returned (.tuple #[.agg #[.int .i64 g0, .int .i64 g1, .bool g2], .bool go]) ∧ Below w.heap.size w w' from hg)
  obtain ⟨r, hr⟩ : ∃ r, limC ⟨g0, g1, g2⟩ m = r := ⟨_, rfl⟩
  have HR := Lib.hid hr
  have HZ := Lib.hid hz
  dsimp only
  rw [hr]
  have HP := Lib.hid (fun (mm : Int) (U : World) => rpart_any g1 mm 1000 U)
  clear hg hgo H hf hp hs hL hr hz
  have hcase : (go = false ∨ (go = true ∧ g2 = true)) ∨ (go = true ∧ g2 = false) := by rcases go with _ | _ <;> rcases g2 with _ | _ <;> simp
  rcases hcase with hc | ⟨rfl, rfl⟩
  · have hr0 : r = 0 := by
      rw [← HR.out]
      rcases hc with rfl | ⟨rfl, rfl⟩
      · have h0 := HZ.out rfl
        have h0 : (⟨g0, g1, g2⟩ : Cy) = ⟨0, 0, false⟩ := h0
        cases h0
        show partQ 0 (min m 1000) 1000 = 0
        unfold partQ
        rw [near_id (n := 1000) (by omega) (by omega), near_id (n := 0) (by omega) (by omega), part_pos _ _ _ (by omega), Int.zero_mul]
        decide
      · rfl
    subst hr0
    rcases hc with rfl | ⟨rfl, rfl⟩
    · clear HZ HR
      go_enter Try.func33, Try.ntmps33
      go_wp2_with fail
      refine HG.out.mono ?_
      rintro e V ⟨rfl, hb⟩
      have hb2 := newB V (.cells #[.int .i64 g0, .int .i64 g1, .bool g2] 67)
      have HB := Lib.hid (hb.trans (hb2.mono hb.size))
      clear hb hb2
      go_wp2_with fail
      go_ret
      exact ⟨rfl, HB.out⟩
    · clear HZ HR
      go_enter Try.func33, Try.ntmps33
      go_wp2_with fail
      refine HG.out.mono ?_
      rintro e V ⟨rfl, hb⟩
      have hb2 := newB V (.cells #[.int .i64 g0, .int .i64 g1, .bool true] 67)
      have HB := Lib.hid (hb.trans (hb2.mono hb.size))
      clear hb hb2
      go_wp2_with fail
      go_ret
      exact ⟨rfl, HB.out⟩
  · have hr0 : r = partQ g1 (min m 1000) 1000 := by rw [← HR.out]; rfl
    have hm : m < 0 ∨ (0 ≤ m ∧ 1000 < m) ∨ (0 ≤ m ∧ m ≤ 1000) := by omega
    rcases hm with hm | ⟨hm, hm2⟩ | ⟨hm, hm2⟩
    · have t1 : decide (m < 0) = true := decide_eq_true hm
      have HE := Lib.hid (show partQ g1 0 1000 = r from by rw [hr0]; unfold partQ; rw [near_low hm])
      clear hr0 HR
      go_enter Try.func33, Try.ntmps33
      go_wp2_with fail
      refine HG.out.mono ?_
      rintro e V ⟨rfl, hb⟩
      have hb2 := newB V (.cells #[.int .i64 g0, .int .i64 g1, .bool false] 67)
      have HB := Lib.hid (hb.trans (hb2.mono hb.size))
      clear hb hb2
      go_wp2_with fail
      refine (HP.out _ _).mono ?_
      rintro e V3 ⟨rfl, hd⟩
      have HB3 := Lib.hid (HB.out.trans ((below_Drew hd).mono HB.out.size))
      clear hd
      go_wp2_with fail
      go_ret
      exact ⟨by rw [HE.out]; rfl, HB3.out⟩
    · have t1 : decide (m < 0) = false := decide_eq_false (by omega)
      have t2 : decide (1000 < m) = true := decide_eq_true hm2
      have HE := Lib.hid (show partQ g1 1000 1000 = r from by rw [hr0, show min m 1000 = 1000 by omega])
      clear hr0 HR
      go_enter Try.func33, Try.ntmps33
      go_wp2_with fail
      refine HG.out.mono ?_
      rintro e V ⟨rfl, hb⟩
      have hb2 := newB V (.cells #[.int .i64 g0, .int .i64 g1, .bool false] 67)
      have HB := Lib.hid (hb.trans (hb2.mono hb.size))
      clear hb hb2
      go_wp2_with fail
      refine (HP.out _ _).mono ?_
      rintro e V3 ⟨rfl, hd⟩
      have HB3 := Lib.hid (HB.out.trans ((below_Drew hd).mono HB.out.size))
      clear hd
      go_wp2_with fail
      go_ret
      exact ⟨by rw [HE.out]; rfl, HB3.out⟩
    · have t1 : decide (m < 0) = false := decide_eq_false (by omega)
      have t2 : decide (1000 < m) = false := decide_eq_false (by omega)
      have HE := Lib.hid (show partQ g1 m 1000 = r from by rw [hr0, show min m 1000 = m by omega])
      clear hr0 HR
      go_enter Try.func33, Try.ntmps33
      go_wp2_with fail
      refine HG.out.mono ?_
      rintro e V ⟨rfl, hb⟩
      have hb2 := newB V (.cells #[.int .i64 g0, .int .i64 g1, .bool false] 67)
      have HB := Lib.hid (hb.trans (hb2.mono hb.size))
      clear hb hb2
      go_wp2_with fail
      refine (HP.out _ _).mono ?_
      rintro e V3 ⟨rfl, hd⟩
      have HB3 := Lib.hid (HB.out.trans ((below_Drew hd).mono HB.out.size))
      clear hd
      go_wp2_with fail
      go_ret
      exact ⟨by rw [HE.out]; rfl, HB3.out⟩
/-- The sources, as the document has them: their numbers (below 0: none) and their moments. -/
def SOk (S : Nat → Sr) : Prop := ∀ i, ((S i).h = false → (S i).a = 0) ∧ ((S i).h = true → 0 ≤ (S i).q)
def rS (S : Nat → Sr) (i : Nat) : Int := if (S i).h then (S i).q else -1
def rT (S : Nat → Sr) (i : Nat) : Int := (S i).a
theorem sok0 : SOk S0 := fun i => ⟨fun _ => rfl, fun h => by cases h⟩
set_option maxHeartbeats 8000000 in
theorem rstamp_any (w : World) (x : Nat) (L : List Cy) (S : Nat → Sr) (H : RfAt w x L (rS S) (rT S)) (hS : SOk S) (src : Int) :
    Calls Try.prog 27 #[.pointer (some ⟨x, 0, none⟩), .int .i64 src] w fun e w' => e = .returned (.tuple #[.int .i64 (stampC S src).1, .bool (stampC S src).2]) ∧ Below w.heap.size w w' := by
  obtain ⟨⟨sa, sh⟩, hst⟩ : ∃ s, stampC S src = s := ⟨_, rfl⟩
  rw [hst]
  dsimp only
  by_cases hr : 0 ≤ src ∧ src < 16
  · obtain ⟨i, rfl⟩ := Int.eq_ofNat_of_zero_le hr.1
    have hi : i < 16 := by omega
    have hst : ((S i).a, (S i).h) = (sa, sh) := by
      rw [← hst]
      unfold stampC isR
      rw [show decide (0 ≤ (i : Int)) = true from decide_eq_true hr.1, show decide ((i : Int) < 16) = true from decide_eq_true hr.2, Int.toNat_natCast]
      rfl
    simp only [Prod.mk.injEq] at hst
    obtain ⟨⟨q, n, cap, h1, _⟩⟩ := H
    have c1 : w.cell? ⟨x, 1 + i, none⟩ = some (.int .i64 (rS S i)) := h1.cellAt (refC_A _ _ _ _ _ hi)
    have c2 : w.cell? ⟨x, 17 + i, none⟩ = some (.int .i64 (rT S i)) := h1.cellAt (refC_T _ _ _ _ _ hi)
    have i0 : (0 : Int) ≤ (i : Int) := by omega
    have i16 : (i : Int) < 16 := by omega
    have t1 : decide ((i : Int) < 0) = false := decide_eq_false (by omega)
    have t2 : decide (15 < (i : Int)) = false := decide_eq_false (by omega)
    have hok := hS i
    rcases sh with _ | _
    · have e1 : rS S i = -1 := by unfold rS; rw [hst.2]; rfl
      have e2 : rT S i = 0 := hok.1 hst.2
      obtain rfl : sa = 0 := by rw [← hst.1]; exact e2
      rw [e1] at c1
      rw [e2] at c2
      have t3 : decide ((-1 : Int) < 0) = true := by decide
      have HB := Lib.hid (Below.refl w.heap.size w)
      clear h1 hok hst hS hr
      go_enter Try.func27, Try.ntmps27
      go_wp2_with fail
      exact bodyPost_ret (v := .tuple #[.int .i64 0, .bool false]) (by simp [results, Try.results27, go_sem]) rfl ⟨rfl, Below.refl _ _⟩
    · have e1 : 0 ≤ rS S i := by unfold rS; rw [hst.2]; exact hok.2 hst.2
      have e2 : rT S i = sa := hst.1
      rw [e2] at c2
      obtain ⟨v, hv⟩ : ∃ v, rS S i = v := ⟨_, rfl⟩
      rw [hv] at c1 e1
      have t3 : decide (v < 0) = false := decide_eq_false (by omega)
      clear h1 hok hst hS hr e2 hv
      go_enter Try.func27, Try.ntmps27
      go_wp2_with fail
      exact bodyPost_ret (v := .tuple #[.int .i64 sa, .bool true]) (by simp [results, Try.results27, go_sem]) rfl ⟨rfl, Below.refl _ _⟩
  · have hst : ((0 : Int), false) = (sa, sh) := by
      rw [← hst]
      unfold stampC isR
      rw [if_neg]
      intro h
      simp only [Bool.and_eq_true, decide_eq_true_eq] at h
      exact hr h
    simp only [Prod.mk.injEq] at hst
    obtain ⟨rfl, rfl⟩ := hst
    have hc : src < 0 ∨ (0 ≤ src ∧ 15 < src) := by omega
    rcases hc with hc | ⟨hc, hc2⟩
    · have t1 : decide (src < 0) = true := decide_eq_true hc
      clear H hS hr
      go_enter Try.func27, Try.ntmps27
      go_wp2_with fail
      exact bodyPost_ret (v := .tuple #[.int .i64 0, .bool false]) (by simp [results, Try.results27, go_sem]) rfl ⟨rfl, Below.refl _ _⟩
    · have t1 : decide (src < 0) = false := decide_eq_false (by omega)
      have t2 : decide (15 < src) = true := decide_eq_true hc2
      clear H hS hr
      go_enter Try.func27, Try.ntmps27
      go_wp2_with fail
      exact bodyPost_ret (v := .tuple #[.int .i64 0, .bool false]) (by simp [results, Try.results27, go_sem]) rfl ⟨rfl, Below.refl _ _⟩
end Go.Proofs.Ytlkpalaakncicaa
namespace Go.Proofs.Ytlkpalaakncicaa
open Go.RowKit Go.Maps
set_option linter.unusedVariables false
set_option linter.unusedSimpArgs false
set_option maxRecDepth 100000

theorem ifs_keep {w w' : World} {p : Option Addr} {l : List Ifc} (h : IfsAt w p l) (hk : ∀ b off, p = some ⟨b, off, none⟩ → l ≠ [] → w'.heap[b]? = w.heap[b]?) : IfsAt w' p l := by
  refine ⟨h.ok, ?_⟩
  rcases h.cells with rfl | ⟨b, off, rfl, hc⟩
  · exact .inl rfl
  · by_cases hl : l = []
    · exact .inl hl
    · have hs := hk b off rfl hl
      refine .inr ⟨b, off, rfl, fun i hi => ?_⟩
      obtain ⟨c0, c1, c2, c3, c4⟩ := hc i hi
      exact ⟨cell_same c0 hs, cell_same c1 hs, cell_same c2 hs, cell_same c3 hs, cell_same c4 hs⟩
/-- A list of interfaces lies elsewhere. -/
theorem ifs_apart {w : World} {p : Option Addr} {l : List Ifc} (h : IfsAt w p l) {x n cap : Nat} {q : Option Addr} {A T : Nat → Int} (hX : Blk w x RFf (refC q n cap A T)) : ∀ b off, p = some ⟨b, off, none⟩ → l ≠ [] → b ≠ x := by
  rintro b off e hl rfl
  rcases h.cells with rfl | ⟨b', off', e', hc⟩
  · exact hl rfl
  · rw [e] at e'
    simp only [Option.some.injEq, Addr.mk.injEq, and_true] at e'
    obtain ⟨rfl, rfl⟩ := e'
    have h0 : 0 < l.length := by cases l with | nil => exact absurd rfl hl | cons _ _ => simp
    obtain ⟨_, _, c2, _, _⟩ := hc 0 h0
    obtain ⟨k, hk⟩ : ∃ k, off + (0 * 5 + 2) = k := ⟨_, rfl⟩
    rw [hk] at c2
    by_cases hlt : k < 33
    · have hx : (refC q n cap A T)[k]? = some ((refC q n cap A T).getD k undef) := by simp [List.getD, show k < (refC q n cap A T).length by rw [refC_len]; exact hlt]
      have hy := hX.cellAt hx
      rw [c2] at hy
      rcases refC_cases k hlt with e | ⟨j, hj, e⟩ | ⟨j, hj, e⟩
      · rw [e] at hy; simp [refC] at hy
      · rw [e] at hx; rw [refC_A _ _ _ _ _ hj] at hx; rw [← e] at hx; rw [← hy] at hx; cases hx
      · rw [e] at hx; rw [refC_T _ _ _ _ _ hj] at hx; rw [← e] at hx; rw [← hy] at hx; cases hx
    · obtain ⟨cs, hh, hsz, _⟩ := hX
      rw [refC_len] at hsz
      unfold World.cell? at c2
      simp only [hh] at c2
      rw [if_neg (by simp), Array.getElem?_eq_none (by omega)] at c2
      cases c2
theorem own_low {w : World} {B n cap : Nat} {q : Option Addr} {l : List Cy} (h : CysOwn w B q n cap l) {x : Nat} (hx : x < B) (v : Value) : CysOwn (w.setCell ⟨x, 0, none⟩ v) B q n cap l := by
  refine ⟨h.len, h.ok, h.row.1, ?_⟩
  rcases h.row.2 with h1 | ⟨g, c, cur, hv, hB, hh, r⟩
  · exact .inl h1
  · exact .inr ⟨g, c, cur, hv, hB, by rw [Below.heap_setCell _ _ _ g (by show g ≠ x; omega)]; exact hh, r⟩
theorem own_lowA {w : World} {B n cap : Nat} {q : Option Addr} {l : List Cy} (h : CysOwn w B q n cap l) {x : Nat} (hx : x < B) (o : Nat) (v : Value) : CysOwn (w.setCell ⟨x, o, none⟩ v) B q n cap l := by
  refine ⟨h.len, h.ok, h.row.1, ?_⟩
  rcases h.row.2 with h1 | ⟨g, c, cur, hv, hB, hh, r⟩
  · exact .inl h1
  · exact .inr ⟨g, c, cur, hv, hB, by rw [Below.heap_setCell _ _ _ g (by show g ≠ x; omega)]; exact hh, r⟩
theorem Turns.low {S : Nat → Prop} {a b u c : World} (_ : Turns S a b) {x : Nat} (_ : x < a.heap.size) (_ : a.heap.size ≤ u.heap.size) (h : Turns S a u) (k : Below a.heap.size u c) : Turns S a c :=
  ⟨k.os.trans h.os, k.tape.trans h.tape, k.output.trans h.output, Nat.le_trans h.size k.size, fun i hi hn => (k.block i hi).trans (h.block i hi hn)⟩
def ZZ : Nat → Int := fun _ => 0
def upA (k : Nat) : Nat → Int := fun i => if i < k then -1 else 0
theorem upA_step (k : Nat) : setI (upA k) k (-1) = upA (k + 1) := by
  funext i
  unfold setI upA
  by_cases h : i = k
  · subst h; simp
  · rw [if_neg h]
    by_cases h2 : i < k
    · rw [if_pos h2, if_pos (by omega)]
    · rw [if_neg h2, if_neg (by omega)]
theorem upA_end (q : Option Addr) (n cap : Nat) : refC q n cap (upA 16) ZZ = refC q n cap (rS S0) (rT S0) := rfl
theorem upA_zero (q : Option Addr) (n cap : Nat) : refC q n cap ZZ ZZ = refC q n cap (upA 0) ZZ := rfl
theorem refC_set0 (q q' : Option Addr) (n cap n' cap' : Nat) (A T : Nat → Int) : (refC q n cap A T).set 0 (.slice q' n' cap') = refC q' n' cap' A T := rfl
def NewR (w w' : World) (l : List Ifc) (e : Ending) : Prop := ∃ x ss, e = .returned (.pointer (some ⟨x, 0, none⟩)) ∧ l.Perm ss ∧ ss.Pairwise (fun x y : Ifc => x.id < y.id) ∧ RfAt w' x (ss.map (carryV (fun _ => none))) (rS S0) (rT S0) ∧ w.heap.size ≤ x ∧ Below w.heap.size w w'
set_option maxHeartbeats 8000000 in
theorem rnewC_any (w : World) (p : Option Addr) (l : List Ifc) (n c' : Nat) (hl : IfsAt w p l) (hn : l.length = n) (hok : okIfs l = true) (hin : ∀ x ∈ l, InIf x) :
    Calls Try.prog 21 #[.slice p n c'] w fun e w' => NewR w w' l e := by
  have hb1 := newB w (.cells (List.toArray (.slice none 0 0 :: .int .i64 0 :: .int .i64 0 :: .int .i64 0 :: .int .i64 0 :: .int .i64 0 :: .int .i64 0 :: .int .i64 0 :: .int .i64 0 :: .int .i64 0 :: .int .i64 0 :: .int .i64 0 :: .int .i64 0 :: .int .i64 0 :: .int .i64 0 :: .int .i64 0 :: .int .i64 0 :: .int .i64 0 :: .int .i64 0 :: .int .i64 0 :: .int .i64 0 :: .int .i64 0 :: .int .i64 0 :: .int .i64 0 :: .int .i64 0 :: .int .i64 0 :: .int .i64 0 :: .int .i64 0 :: .int .i64 0 :: .int .i64 0 :: .int .i64 0 :: .int .i64 0 :: .int .i64 0 :: [])) RFf)
  have hX : Blk (w.alloc (.cells (List.toArray (.slice none 0 0 :: .int .i64 0 :: .int .i64 0 :: .int .i64 0 :: .int .i64 0 :: .int .i64 0 :: .int .i64 0 :: .int .i64 0 :: .int .i64 0 :: .int .i64 0 :: .int .i64 0 :: .int .i64 0 :: .int .i64 0 :: .int .i64 0 :: .int .i64 0 :: .int .i64 0 :: .int .i64 0 :: .int .i64 0 :: .int .i64 0 :: .int .i64 0 :: .int .i64 0 :: .int .i64 0 :: .int .i64 0 :: .int .i64 0 :: .int .i64 0 :: .int .i64 0 :: .int .i64 0 :: .int .i64 0 :: .int .i64 0 :: .int .i64 0 :: .int .i64 0 :: .int .i64 0 :: .int .i64 0 :: [])) RFf)) w.heap.size RFf (refC none 0 0 ZZ ZZ) := Blk.new w RFf (refC none 0 0 ZZ ZZ)
  obtain ⟨x, hx⟩ : ∃ x, w.heap.size = x := ⟨_, rfl⟩
  obtain ⟨W1, hW1⟩ : ∃ W1, w.alloc (.cells (List.toArray (.slice none 0 0 :: .int .i64 0 :: .int .i64 0 :: .int .i64 0 :: .int .i64 0 :: .int .i64 0 :: .int .i64 0 :: .int .i64 0 :: .int .i64 0 :: .int .i64 0 :: .int .i64 0 :: .int .i64 0 :: .int .i64 0 :: .int .i64 0 :: .int .i64 0 :: .int .i64 0 :: .int .i64 0 :: .int .i64 0 :: .int .i64 0 :: .int .i64 0 :: .int .i64 0 :: .int .i64 0 :: .int .i64 0 :: .int .i64 0 :: .int .i64 0 :: .int .i64 0 :: .int .i64 0 :: .int .i64 0 :: .int .i64 0 :: .int .i64 0 :: .int .i64 0 :: .int .i64 0 :: .int .i64 0 :: [])) RFf) = W1 := ⟨_, rfl⟩
  rw [hW1] at hb1 hX
  rw [hx] at hX
  have HX1 := Lib.hid hX
  have HB1 := Lib.hid hb1
  have HW1 := Lib.hid hW1
  have HXE := Lib.hid hx
  have hlen : l.length ≤ 256 := ((okIfs_iff l).1 hok).1
  have HSO := Lib.hid (rsortI_any p l n c' W1 (hl.below hb1) hn hok)
  have HIN := Lib.hid hin
  have HLE := Lib.hid hlen
  clear hb1 hX hW1 hx hl hn hok hin hlen
  go_enter Try.func21, Try.ntmps21
  go_wp2_with fail
  rw [HW1.out, HXE.out]
  refine HSO.out.mono ?_
  rintro e W2 ⟨q, k, cap, ss, rfl, hk, _, hperm, hsort, hat, hb⟩
  have HX2 := Lib.hid (HX1.out.next hb)
  have HB2 := Lib.hid (HB1.out.trans (hb.mono HB1.out.size))
  have HAP := Lib.hid (ifs_apart hat (HX1.out.next hb))
  have HAT := Lib.hid hat
  have HKL := Lib.hid hk
  have HPM := Lib.hid hperm
  have HST := Lib.hid hsort
  have hkk : k ≤ 256 := by have := HLE.out; have := hperm.length_eq; omega
  clear hk hperm hsort hat hb HSO HX1
  go_wp2_with fail
  go_loopw [5] (fun v wr => ∃ (j : Nat) (q2 : Option Addr) (cap2 : Nat), j ≤ k ∧ v = .int .i64 j ∧ Blk wr x RFf (refC q2 j cap2 ZZ ZZ) ∧ CysOwn wr W2.heap.size q2 j cap2 ((ss.take j).map (carryV (fun _ => none))) ∧ Turns (fun b => b = x) W2 wr) (fun v _ => k - (intOf v).toNat)
  case atStart => exact ⟨0, none, 0, Nat.zero_le _, rfl, HX2.out, LOwn.nil _ _ _ _ _ _, .of_below (Below.refl _ _)⟩
  case round =>
    obtain ⟨j, q2, cap2, hj, rfl, hbk, hown, htn⟩ := hrel
    have HBK := Lib.hid hbk
    have HOW := Lib.hid hown
    have HTN := Lib.hid htn
    have x0 : wr.cell? ⟨x, 0, none⟩ = some (.slice q2 j cap2) := hbk.cellAt rfl
    have f0 := hbk.f 0
    have hcap := hown.cap_
    clear hbk hown htn
    by_cases hlt : j < k
    · have hlt' : (j : Int) < (k : Int) := by omega
      have j0 : (0 : Int) ≤ (j : Int) := by omega
      have hif := ifs_keep (w' := wr) HAT.out (fun b off e hl => HTN.out.block b (by
        rcases HAT.out.cells with h | ⟨b', off', e', hc⟩
        · exact absurd h hl
        · rw [e] at e'
          simp only [Option.some.injEq, Addr.mk.injEq, and_true] at e'
          obtain ⟨rfl, rfl⟩ := e'
          exact World.block_lt_of_cell? W2 _ (hc 0 (by cases ss with | nil => exact absurd rfl hl | cons _ _ => simp)).1) (HAP.out b off e hl))
      obtain ⟨b', off, rfl, c0, c1, c2, c3, c4⟩ := if_cell hif HKL.out hlt
      have hjl : j < ss.length := by rw [HKL.out]; exact hlt
      have hxin := HIN.out (ss.getD j Ifc.zero) (HPM.out.mem_iff.2 (mem_at hjl))
      have HTK := Lib.hid (show (ss.take (j + 1)).map (carryV (fun _ => none)) = (ss.take j).map (carryV (fun _ => none)) ++ [carryV (fun _ => none) (ss.getD j Ifc.zero)] from by
        rw [List.take_add_one, List.map_append]
        simp [List.getD, hjl])
      obtain ⟨y, hy⟩ : ∃ y, ss.getD j Ifc.zero = y := ⟨_, rfl⟩
      rw [hy] at c0 c1 c2 c3 c4 hxin HTK
      obtain ⟨xi, xr, xa, xn, xc⟩ := y
      dsimp only at c0 c1 c2 c3 c4
      have hcv : carryV (fun _ => none) ⟨xi, xr, xa, xn, xc⟩ = ⟨xi, xc, false⟩ := rfl
      rw [hcv] at HTK
      have hdr : Below wr.heap.size wr wr.drew := (Below.refl _ _).drew
      have x0 : wr.drew.cell? ⟨x, 0, none⟩ = some (.slice q2 j cap2) := x0
      have f0 : wr.drew.frozen? ⟨x, 0, none⟩ = false := f0
      have hlit := LOwn.lit rowCy wr W2.heap.size [(⟨xi, xc, false⟩ : Cy)] (fun y hy => by simp at hy; rw [hy]; exact hxin.id) HTN.out.size (by unfold maxLen; simp)
      have hbu : Below wr.heap.size wr (wr.alloc (.cells #[.int .i64 xi, .int .i64 xc, .bool false] 67)).drew := (newB wr _).drew
      have LIT := Lib.hid (show CysAt (wr.alloc (.cells #[.int .i64 xi, .int .i64 xc, .bool false] 67)).drew (some ⟨wr.heap.size, 0, none⟩) [⟨xi, xc, false⟩] from (hlit.at rowCy).below (Below.refl _ _).drew)
      have OW := Lib.hid (HOW.out.below hbu)
      have HTU := Lib.hid (HTN.out.trans (.of_below hbu))
      have HBU := Lib.hid (HBK.out.next hbu)
      have HSZ := Lib.hid (show W2.heap.size ≤ (wr.alloc (.cells #[.int .i64 xi, .int .i64 xc, .bool false] 67)).drew.heap.size from Nat.le_trans HTN.out.size hbu.size)
      have x0b : (wr.alloc (.cells #[.int .i64 xi, .int .i64 xc, .bool false] 67)).drew.cell? ⟨x, 0, none⟩ = some (.slice q2 j cap2) := HBU.out.cellAt rfl
      have x0c : (wr.alloc (.cells #[.int .i64 xi, .int .i64 xc, .bool false] 67)).cell? ⟨x, 0, none⟩ = some (.slice q2 j cap2) := x0b
      clear hbu hlit hy hif hcv hxin hdr
      go_wp2_with fail
      go_region_law (refine step_appL (o := ⟨some 34, _, _, _, _, _⟩) rowCy (by kernel_rfl) (.tmp 21) (.tmp 33) rfl W2.heap.size q2 j cap2 _ OW.out rfl (some ⟨wr.heap.size, 0, none⟩) 1 1 [⟨xi, xc, false⟩] LIT.out rfl rfl (j + 1) rfl (by omega) HSZ.out ?_; intro q3 cap3 w3 hO3 hB3; have HX3 := Lib.hid (HBU.out.below hB3.out HX2.out.lt); have x3 : w3.cell? ⟨x, 0, none⟩ = some (.slice q2 j cap2) := HX3.out.cellAt rfl; have f3 := HX3.out.f 0; clear x0 f0 x0b x0c)
      all_goals
        have hset := HX3.out.set 0 (.slice q3 (j + 1) cap3)
        rw [refC_set0] at hset
        have hown3 : CysOwn (w3.setCell ⟨x, 0, none⟩ (.slice q3 (j + 1) cap3)) W2.heap.size q3 (j + 1) cap3 ((ss.take (j + 1)).map (carryV (fun _ => none))) := by
          rw [HTK.out]
          exact own_low hO3.out HX2.out.lt _
        have htn3 := (HTN.out.low HX2.out.lt (HSZ.out) HTU.out hB3.out).setCell (p := ⟨x, 0, none⟩) (.inl rfl) (.slice q3 (j + 1) cap3)
        go_wp2_with fail
        go_roundw
        case rel => exact ⟨j + 1, q3, cap3, by omega, by go_num, hset, hown3, htn3⟩
        case measure => simp [intOf]; omega
    · obtain rfl : j = k := by omega
      have HTT := Lib.hid (show (ss.take j).map (carryV (fun _ => none)) = ss.map (carryV (fun _ => none)) by rw [List.take_of_length_le (by rw [HKL.out]; exact Nat.le_refl _)])
      rw [HTT.out] at HOW
      clear x0 f0
      go_wp2_with fail
      go_loopw [6] (fun v u => ∃ i : Nat, i ≤ 16 ∧ v = .int .i64 i ∧ Blk u x RFf (refC q2 j cap2 (upA i) ZZ) ∧ CysOwn u W2.heap.size q2 j cap2 (ss.map (carryV (fun _ => none))) ∧ Turns (fun b => b = x) W2 u) (fun v _ => 16 - (intOf v).toNat)
      case atStart => exact ⟨0, Nat.zero_le _, rfl, HBK.out, HOW.out, HTN.out⟩
      case round =>
        obtain ⟨i, hi, rfl, hbk, hown, htn⟩ := hrel
        have HBU := Lib.hid hbk
        have HOU := Lib.hid hown
        have HTV := Lib.hid htn
        clear hbk hown htn
        by_cases hlt : i < 16
        · have hltI : (i : Int) < 16 := by omega
          have i0 : (0 : Int) ≤ (i : Int) := by omega
          have x1 : wr.cell? ⟨x, 1 + i, none⟩ = some (.int .i64 (upA i i)) := HBU.out.cellAt (refC_A _ _ _ _ _ hlt)
          have f1 := HBU.out.f (1 + i)
          go_wp2_with fail
          have hset := HBU.out.set (1 + i) (.int .i64 (-1))
          rw [refC_setA _ _ _ _ _ hlt, upA_step] at hset
          go_roundw
          case rel => exact ⟨i + 1, by omega, by go_num, hset, own_lowA HOU.out HX2.out.lt _ _, HTV.out.setCell (p := ⟨x, 1 + i, none⟩) (.inl rfl) _⟩
          case measure => simp [intOf]; omega
        · obtain rfl : i = 16 := by omega
          go_wp2_with fail
          go_ret
          have hb := HBU.out
          rw [upA_end] at hb
          have hat := HOU.out.at rowCy
          exact ⟨x, ss, rfl, HPM.out, HST.out, ⟨⟨q2, j, cap2, hb, hat, by rw [List.length_map]; exact HKL.out, hcap.1, fun b off e => Nat.lt_of_lt_of_le HX2.out.lt (HOU.out.lo b off e)⟩⟩, Nat.le_of_eq HXE.out, HB2.out.trans (HTV.out.below HB2.out.size (fun _ e => by rw [e, ← HXE.out]; exact Nat.le_refl _))⟩
end Go.Proofs.Ytlkpalaakncicaa
namespace Go.Proofs.Ytlkpalaakncicaa
open Go.RowKit Go.Maps
set_option linter.unusedVariables false
set_option linter.unusedSimpArgs false
set_option maxRecDepth 100000

theorem cells_set : ∀ (L : List Cy) (rest : List Value) (i : Nat) (_ : i < L.length) (y : Cy), (((cellsL cyC L ++ rest).set (i * 3) (.int .i64 y.i)).set (i * 3 + 1) (.int .i64 y.c)).set (i * 3 + 2) (.bool y.d) = cellsL cyC (L.set i y) ++ rest
  | [], _, _, h, _ => absurd h (Nat.not_lt_zero _)
  | z :: t, rest, 0, _, y => rfl
  | z :: t, rest, i + 1, hi, y => by
    have ih := cells_set t rest i (by simpa using hi) y
    rw [show (i + 1) * 3 = i * 3 + 3 by omega]
    exact congrArg (fun l => Value.int .i64 z.i :: Value.int .i64 z.c :: Value.bool z.d :: l) ih
/-- A list whose cells may be written. -/
def CysBk (w : World) (B : Nat) (q : Option Addr) (L : List Cy) : Prop := (∀ y ∈ L, InCy y) ∧ (L = [] ∨ ∃ g rest, q = some ⟨g, 0, none⟩ ∧ Blk w g 67 (cellsL cyC L ++ rest) ∧ B ≤ g)
theorem bk_of_own {w : World} {B n cap : Nat} {q : Option Addr} {L : List Cy} (h : CysOwn w B q n cap L) : CysBk w B q L := by
  refine ⟨h.ok, ?_⟩
  rcases h.row.2 with ⟨hv, h0⟩ | ⟨g, c, cur, hv, hB, hh, _, _, hsz, htk⟩
  · exact .inl (List.eq_nil_of_length_eq_zero (by rw [h.len]; exact h0))
  · simp only [Value.slice.injEq] at hv
    obtain ⟨rfl, _, rfl⟩ := hv
    refine .inr ⟨g, cur.toList.drop (n * 3), rfl, ?_, hB⟩
    rw [← htk, List.take_append_drop]
    exact ⟨cur, hh, by simp, fun i hi => by simp at hi; simp [List.getD, hi]⟩
theorem bk_at {w : World} {B : Nat} {q : Option Addr} {L : List Cy} (h : CysBk w B q L) : CysAt w q L := by
  refine ⟨h.1, ?_⟩
  rcases h.2 with h0 | ⟨g, rest, rfl, hb, _⟩
  · exact .inl h0
  · refine .inr ⟨g, 0, rfl, fun i hi j v hv => ?_⟩
    have hj : j < 3 := (List.getElem?_eq_some_iff.1 hv).1
    have hl := cellsL_len rowCy L
    rw [show 0 + i * 3 + j = i * 3 + j by omega]
    refine hb.cellAt ?_
    rw [List.getElem?_append_left (by rw [hl]; omega), cellsL_get rowCy L i hi j hj]
    exact hv
theorem bk_cells {w : World} {g : Nat} {ss : List Ifc} {F : Ifc → Cy} {rest : List Value} (h : Blk w g 67 (cellsL cyC (ss.map F) ++ rest)) {r : Nat} (hr : r < ss.length) : ∃ z0 z1 z2, w.cell? ⟨g, r * 3, none⟩ = some (.int .i64 z0) ∧ w.cell? ⟨g, r * 3 + 1, none⟩ = some (.int .i64 z1) ∧ w.cell? ⟨g, r * 3 + 2, none⟩ = some (.bool z2) := by
  have hl := cellsL_len rowCy (ss.map F)
  have hr' : r < (ss.map F).length := by rw [List.length_map]; exact hr
  have hc : ∀ j v, j < 3 → (cyC ((ss.map F).getD r Cy.zero))[j]? = some v → w.cell? ⟨g, r * 3 + j, none⟩ = some v := fun j v hj hv => h.cellAt (by
    rw [List.getElem?_append_left (by rw [hl]; omega), cellsL_get rowCy _ r hr' j hj]
    exact hv)
  exact ⟨_, _, _, hc 0 _ (by omega) rfl, hc 1 _ (by omega) rfl, hc 2 _ (by omega) rfl⟩
theorem any_true {α : Type} (q : α → Bool) {l : List α} {y : α} (hy : y ∈ l) (h : q y = true) : l.any q = true := List.any_eq_true.2 ⟨y, hy, h⟩
theorem Turns.low2 {S : Nat → Prop} {a u c : World} (h : Turns S a u) (k : Below a.heap.size u c) : Turns S a c :=
  ⟨k.os.trans h.os, k.tape.trans h.tape, k.output.trans h.output, Nat.le_trans h.size k.size, fun i hi hn => (k.block i hi).trans (h.block i hi hn)⟩
theorem map_put {ss : List Ifc} {g : Int → Option Cy} (hs : ss.Pairwise (fun x y : Ifc => x.id < y.id)) {j : Nat} (hj : j < ss.length) {y : Cy} (hy : (ss.getD j Ifc.zero).id = y.i) : (ss.map (carryV g)).set j y = ss.map (carryV (putF g y.i y)) := by
  apply List.ext_getElem
  · simp
  · intro k h1 h2
    rw [List.length_map] at h2
    rw [List.getElem_set, List.getElem_map, List.getElem_map]
    have e1 : ∀ k (hk : k < ss.length), ss.getD k Ifc.zero = ss[k] := fun k hk => by simp [List.getD, hk]
    by_cases e : j = k
    · subst e
      rw [if_pos rfl]
      unfold carryV putF
      rw [← e1 _ hj, if_pos hy]
      rfl
    · rw [if_neg e]
      unfold carryV putF
      rw [if_neg]
      intro e2
      exact e (uniq_at hs hj h2 (by rw [hy, e1 k h2, e2]))
theorem lat_keep {α : Type} {c : α → List Value} {ok : α → Prop} {zero : α} {sz : Nat} {w w' : World} {p : Option Addr} {l : List α} (h : LAt c ok zero sz w p l) {S : Nat → Prop} (hT : Turns S w w') (hp : l ≠ [] → ∀ b off, p = some ⟨b, off, none⟩ → ¬ S b) : LAt c ok zero sz w' p l := by
  by_cases hl : l = []
  · exact ⟨h.ok, .inl hl⟩
  · exact h.turns hT (hp hl)
theorem rS_set (S : Nat → Sr) (i : Nat) (q a : Int) : setI (rS S) i q = rS (setS S i ⟨q, a, true⟩) := by
  funext k
  unfold setI rS setS
  by_cases h : k = i
  · rw [if_pos h, if_pos h]; rfl
  · rw [if_neg h, if_neg h]
theorem rT_set (S : Nat → Sr) (i : Nat) (q a : Int) : setI (rT S) i a = rT (setS S i ⟨q, a, true⟩) := by
  funext k
  unfold setI rT setS
  by_cases h : k = i
  · rw [if_pos h, if_pos h]
  · rw [if_neg h, if_neg h]
set_option maxHeartbeats 16000000 in
theorem rtake_any (w : World) (x : Nat) (l ss : List Ifc) (f : Int → Option Cy) (S : Nat → Sr) (hS : SOk S) (src seq now : Int) (p : Option Addr) (L : List Cy) (n c' : Nat) (hl : CysAt w p L) (hn : L.length = n) (hm : n ≤ maxLen) (hpx : L ≠ [] → ∀ b off, p = some ⟨b, off, none⟩ → b ≠ x) (H : RfAt w x (ss.map (carryV f)) (rS S) (rT S)) (hf : FOk f) (hp : l.Perm ss) (hs : ss.Pairwise (fun x y : Ifc => x.id < y.id)) (hss : ss.length ≤ 1000) :
    Calls Try.prog 25 #[.pointer (some ⟨x, 0, none⟩), .agg #[.int .i64 src, .int .i64 seq, .slice p n c'], .int .i64 now] w fun e w' => e = .returned (.int .i64 (takeE l S src seq L now)) ∧ Turns (fun k => k = x) w w' ∧ RfAt w' x (ss.map (carryV (takeF l S f src seq L now))) (rS (takeS l S src seq L now)) (rT (takeS l S src seq L now)) := by
  unfold maxLen at hm
  have hb0 := newB w (.cells #[.int .i64 src, .int .i64 seq, .slice p n c'] 53)
  have hY := Blk.new w 53 [.int .i64 src, .int .i64 seq, .slice p n c']
  have hPx : w.heap.size ≠ x := by have := H.lt; omega
  obtain ⟨P, hP⟩ : ∃ P, w.heap.size = P := ⟨_, rfl⟩
  obtain ⟨V, hV⟩ : ∃ V, w.alloc (.cells #[.int .i64 src, .int .i64 seq, .slice p n c'] 53) = V := ⟨_, rfl⟩
  rw [hV] at hb0 hY
  rw [hP] at hY hPx
  have HY := Lib.hid hY
  have HBV := Lib.hid hb0
  have HR := Lib.hid (H.below hb0)
  have HVE := Lib.hid hV
  have HPE := Lib.hid hP
  have HPX := Lib.hid hPx
  have HL := Lib.hid (hl.below hb0)
  have HN := Lib.hid hn
  have HPC := Lib.hid hpx
  have HF := Lib.hid hf
  have HPM := Lib.hid hp
  have HST := Lib.hid hs
  have HSL := Lib.hid hss
  have HSO := Lib.hid hS
  obtain ⟨E, hE⟩ : ∃ E, takeE l S src seq L now = E := ⟨_, rfl⟩
  have HEE := Lib.hid hE
  have HE := Lib.hid (show E = if !(okCar src seq L && isCap now) then 1 else if L.any (strangeC l) then 4 else if (S src.toNat).h && decide (seq ≤ (S src.toNat).q) then 170 else 0 from hE ▸ rfl)
  have HNO := Lib.hid (fun (hne : E ≠ 0) (U : World) (hU : Below V.heap.size V U) => show Turns (fun k => k = x) w U ∧ RfAt U x (ss.map (carryV (takeF l S f src seq L now))) (rS (takeS l S src seq L now)) (rT (takeS l S src seq L now)) from by
    rw [← HEE.out] at hne
    obtain ⟨e1, e2⟩ := take_no f hne
    rw [e1, e2]
    exact ⟨.of_below (HBV.out.trans (hU.mono HBV.out.size)), HR.out.below hU⟩)
  rw [hE]
  have hck := rccheck_any src seq p L n c' V HL.out hn (by unfold maxLen; omega)
  obtain ⟨o1, ho1⟩ : ∃ o, okCar src seq L = o := ⟨_, rfl⟩
  rw [ho1] at hck HE
  have HCK := Lib.hid hck
  have HO1 := Lib.hid ho1
  have y0 := HY.out.cell 0 (by simp)
  have y1 := HY.out.cell 1 (by simp)
  have y2 := HY.out.cell 2 (by simp)
  simp only [List.getD_cons_zero, List.getD_cons_succ] at y0 y1 y2
  clear hl hn hb0 hY hV hP hE H ho1 hpx hf hp hs hss hS hPx hck
  have hcase : (o1 = false ∨ (o1 = true ∧ now < 0) ∨ (o1 = true ∧ 0 ≤ now ∧ 9007199254740991 < now)) ∨ (o1 = true ∧ 0 ≤ now ∧ now ≤ 9007199254740991) := by
    rcases o1 with _ | _
    · exact .inl (.inl rfl)
    · simp only [true_and]; omega
  rcases hcase with hc | ⟨rfl, n0, n1⟩
  · obtain rfl : E = 1 := by
      rw [HE.out]
      have : (o1 && isCap now) = false := by
        rcases hc with rfl | ⟨rfl, h⟩ | ⟨rfl, h0, h1⟩
        · rfl
        · rcases hi : isCap now with _ | _
          · rfl
          · have := (isCap_iff now).1 hi; omega
        · rcases hi : isCap now with _ | _
          · rfl
          · have := (isCap_iff now).1 hi; omega
      rw [this]; rfl
    rcases hc with rfl | ⟨rfl, h⟩ | ⟨rfl, h0, h1⟩
    · go_enter Try.func25, Try.ntmps25
      go_wp2_with fail
      rw [HVE.out, HPE.out]
      refine HCK.out.mono ?_
      rintro e V1 ⟨rfl, hb⟩
      have HB1 := Lib.hid hb
      clear hb y0 y1 y2
      go_wp2_with fail
      go_ret
      exact ⟨rfl, HNO.out (by decide) _ HB1.out⟩
    · have t1 : decide (now < 0) = true := decide_eq_true h
      clear h
      go_enter Try.func25, Try.ntmps25
      go_wp2_with fail
      rw [HVE.out, HPE.out]
      refine HCK.out.mono ?_
      rintro e V1 ⟨rfl, hb⟩
      have HB1 := Lib.hid hb
      clear hb y0 y1 y2
      go_wp2_with fail
      go_ret
      exact ⟨rfl, HNO.out (by decide) _ HB1.out⟩
    · have t1 : decide (now < 0) = false := decide_eq_false (by omega)
      have t2 : decide (9007199254740991 < now) = true := decide_eq_true h1
      clear h1
      go_enter Try.func25, Try.ntmps25
      go_wp2_with fail
      rw [HVE.out, HPE.out]
      refine HCK.out.mono ?_
      rintro e V1 ⟨rfl, hb⟩
      have HB1 := Lib.hid hb
      clear hb y0 y1 y2
      go_wp2_with fail
      go_ret
      exact ⟨rfl, HNO.out (by decide) _ HB1.out⟩
  have hcp : isCap now = true := (isCap_iff now).2 ⟨n0, n1⟩
  have HE2 := Lib.hid (show E = if L.any (strangeC l) then 4 else if (S src.toNat).h && decide (seq ≤ (S src.toNat).q) then 170 else 0 from by rw [HE.out, hcp]; rfl)
  have hoc := HO1.out
  unfold okCar at hoc
  simp only [Bool.and_eq_true, decide_eq_true_eq, isR] at hoc
  obtain ⟨⟨hs0, hs1⟩, hsq, h256, _⟩ := hoc
  rw [HN.out] at h256
  have HSQ := Lib.hid ((isCap_iff seq).1 hsq)
  obtain ⟨i, rfl⟩ := Int.eq_ofNat_of_zero_le hs0
  have hi : i < 16 := by omega
  have t1 : decide (now < 0) = false := decide_eq_false (by omega)
  have t2 : decide (9007199254740991 < now) = false := decide_eq_false (by omega)
  have i0 : (0 : Int) ≤ (i : Int) := by omega
  have i16 : (i : Int) < 16 := by omega
  clear HE hcp hs0 hs1 hsq
  go_enter Try.func25, Try.ntmps25
  go_wp2_with fail
  rw [HVE.out, HPE.out]
  refine HCK.out.mono ?_
  rintro e V1 ⟨rfl, hb⟩
  have HB1 := Lib.hid hb
  have HY1 := Lib.hid (HY.out.next hb)
  have HR1 := Lib.hid (HR.out.below hb)
  have HL1 := Lib.hid (HL.out.below hb)
  clear hb y0 y1 y2 HY HR HL
  go_wp2_with fail
  go_loopw [7] (fun v wr => ∃ k : Nat, k ≤ n ∧ v = .int .i64 k ∧ (L.take k).any (strangeC l) = false ∧ Below V1.heap.size V1 wr) (fun v _ => n - (intOf v).toNat)
  case atStart => exact ⟨0, Nat.zero_le _, rfl, rfl, Below.refl _ _⟩
  case round =>
    obtain ⟨k, hk, rfl, hno, hB⟩ := hrel
    have HB := Lib.hid hB
    have HNS := Lib.hid hno
    have y2 := (HY1.out.next hB).cell 2 (by simp)
    simp only [List.getD_cons_zero, List.getD_cons_succ] at y2
    clear hB hno
    by_cases hlt : k < n
    · have hltI : (k : Int) < (n : Int) := by omega
      have k0 : (0 : Int) ≤ (k : Int) := by omega
      obtain ⟨b, off, rfl, c0, _, _⟩ := cy_cell (HL1.out.below HB.out) HN.out hlt
      have HKL := Lib.hid (show k < L.length by rw [HN.out]; exact hlt)
      have HSN := Lib.hid (any_snocS (strangeC l) L k HKL.out)
      have HRS := Lib.hid (any_restS (strangeC l) L k HKL.out)
      obtain ⟨y, hy⟩ : ∃ y, L.getD k Cy.zero = y := ⟨_, rfl⟩
      rw [hy] at c0 HSN HRS
      obtain ⟨yi, yc, yd⟩ := y
      dsimp only at c0
      have HFI := Lib.hid (fun (U : World) (hU : Below V1.heap.size V1 U) => rfind_any U x _ (rS S) (rT S) (HR1.out.below hU) (by rw [List.length_map]; exact HSL.out) yi)
      have HFR := Lib.hid (HFI.out wr HB.out)
      clear hy
      go_wp2_with fail
      refine HFR.out.mono ?_
      rintro e U ⟨r, rfl, hfi, hb⟩
      have HB2 := Lib.hid (HB.out.trans (hb.mono HB.out.size))
      have hgot := got_at HF.out HPM.out HST.out hfi
      clear hb hfi HFR c0 y2
      rcases hgot with ⟨r', hr, rfl, _, _, hnn⟩ | ⟨rfl, _, hnn⟩
      · have t3 : decide ((r' : Int) < 0) = false := decide_eq_false (by omega)
        have HNX := Lib.hid (show (L.take (k + 1)).any (strangeC l) = false by rw [HSN.out, HNS.out]; exact hnn)
        clear hnn
        go_wp2_with fail
        go_roundw
        case rel => exact ⟨k + 1, by omega, by go_num, HNX.out, HB2.out⟩
        case measure => simp [intOf]; omega
      · have t3 : decide ((-1 : Int) < 0) = true := by decide
        obtain rfl : E = 4 := by rw [HE2.out, HRS.out hnn]; rfl
        clear hnn
        go_wp2_with fail
        go_ret
        exact ⟨rfl, HNO.out (by decide) _ (HB1.out.trans (HB2.out.mono HB1.out.size))⟩
    · obtain rfl : k = n := by omega
      have HNA := Lib.hid (show L.any (strangeC l) = false by have := HNS.out; rwa [List.take_of_length_le (by rw [HN.out]; exact Nat.le_refl _)] at this)
      have HY2 := Lib.hid (HY1.out.next HB.out)
      have HR2 := Lib.hid (HR1.out.below HB.out)
      have HL2 := Lib.hid (HL1.out.below HB.out)
      have HB2 := Lib.hid (HB1.out.trans (HB.out.mono HB1.out.size))
      obtain ⟨⟨q, m, cap, h1, h2, h3, h4, h5⟩⟩ := HR2.out
      have HX2 := Lib.hid h1
      have HC2 := Lib.hid h2
      have HM := Lib.hid h3
      have HCA := Lib.hid h4
      have HQX := Lib.hid h5
      have HXL := Lib.hid h1.lt
      have y0 := HY2.out.cell 0 (by simp)
      have y1 := HY2.out.cell 1 (by simp)
      simp only [List.getD_cons_zero, List.getD_cons_succ] at y0 y1
      have x1 : wr.cell? ⟨x, 1 + i, none⟩ = some (.int .i64 (rS S i)) := h1.cellAt (refC_A _ _ _ _ _ hi)
      obtain ⟨sv, hsv⟩ : ∃ v, rS S i = v := ⟨_, rfl⟩
      rw [hsv] at x1
      have HSV := Lib.hid hsv
      have HE3 := Lib.hid (show E = if (S i).h && decide (seq ≤ (S i).q) then 170 else 0 from by rw [HE2.out, HNA.out]; rfl)
      clear h1 h2 h3 h4 h5 hsv HY1 HR1 HL1 HR2 HE2
      by_cases hle : seq ≤ sv
      · have t3 : decide (seq ≤ sv) = true := decide_eq_true hle
        obtain rfl : E = 170 := by
          rw [HE3.out]
          have h1 := HSV.out
          have h2 := HSQ.out
          unfold rS at h1
          rcases hh : (S i).h with _ | _
          · rw [hh] at h1
            have h1 : (-1 : Int) = sv := h1
            omega
          · rw [hh] at h1
            have h1 : (S i).q = sv := h1
            rw [h1, t3]
            rfl
        clear hle
        go_wp2_with fail
        go_quiet (fail)
        go_wp2_with fail
        go_ret
        exact ⟨rfl, HNO.out (by decide) _ (HB2.out.trans ((below_dN _ _ _).mono HB2.out.size))⟩
      · have t3 : decide (seq ≤ sv) = false := decide_eq_false hle
        obtain rfl : E = 0 := by
          rw [HE3.out]
          have h1 := HSV.out
          unfold rS at h1
          rcases hh : (S i).h with _ | _
          · rfl
          · rw [hh] at h1
            have h1 : (S i).q = sv := h1
            rw [h1, t3]
            rfl
        have HYES := Lib.hid (take_yes (l := l) (S := S) f HEE.out)
        clear hle HE3
        go_wp2_with fail
        go_quiet (fail)
        obtain ⟨V3, hV3⟩ : ∃ V3, wr.drewN nq = V3 := ⟨_, rfl⟩
        have hb3 : Below wr.heap.size wr V3 := hV3 ▸ below_dN wr.heap.size wr nq
        rw [hV3]
        have HB3 := Lib.hid (HB2.out.trans (hb3.mono HB2.out.size))
        have HY3 := Lib.hid (HY2.out.next hb3)
        have HX3 := Lib.hid (HX2.out.next hb3)
        have HL3 := Lib.hid (HL2.out.below hb3)
        have HC3 := Lib.hid (HC2.out.below hb3)
        have HXL3 := Lib.hid (HX2.out.next hb3).lt
        clear hb3 hV3 y0 y1 y2 x1 HX2 HY2 HL2 HC2 HXL
        have y0 := HY3.out.cell 0 (by simp)
        have y1 := HY3.out.cell 1 (by simp)
        simp only [List.getD_cons_zero, List.getD_cons_succ] at y0 y1
        have x1 : V3.cell? ⟨x, 1 + i, none⟩ = some (.int .i64 (rS S i)) := HX3.out.cellAt (refC_A _ _ _ _ _ hi)
        have x2 : V3.cell? ⟨x, 17 + i, none⟩ = some (.int .i64 (rT S i)) := HX3.out.cellAt (refC_T _ _ _ _ _ hi)
        have f1 := HX3.out.f (1 + i)
        have f2 := HX3.out.f (17 + i)
        go_wp2_with fail
        go_region_law (fail)
        all_goals
          obtain ⟨V4, hV4⟩ : ∃ V4, (V3.setCell ⟨x, 1 + i, none⟩ (.int .i64 seq)).drew = V4 := ⟨_, rfl⟩
          rw [hV4]
          have hX4 : Blk V4 x RFf (refC q m cap (setI (rS S) i seq) (rT S)) := by rw [← hV4, ← refC_setA _ _ _ _ _ hi]; exact (HX3.out.set (1 + i) _).drew
          have hT4 : Turns (fun k => k = x) V3 V4 := hV4 ▸ ((Turns.refl (fun k => k = x) V3).setCell (p := ⟨x, 1 + i, none⟩) (.inl rfl) (.int .i64 seq)).drew
          rw [rS_set S i seq now] at hX4
          have HX4 := Lib.hid hX4
          have HT4 := Lib.hid hT4
          have HY4 := Lib.hid (HY3.out.of_same (hT4.block P HY3.out.lt HPX.out))
          have HL4 := Lib.hid (lat_keep HL3.out hT4 HPC.out)
          have HC4 := Lib.hid (lat_keep HC3.out hT4 (fun _ b off e he => by have := HQX.out b off e; omega))
          have HXL4 := Lib.hid hX4.lt
          clear hX4 hT4 hV4 y0 y1 x1 x2 f1 f2 HX3 HY3 HL3 HC3 HXL3
          have y0 := HY4.out.cell 0 (by simp)
          simp only [List.getD_cons_zero, List.getD_cons_succ] at y0
          have x2 : V4.cell? ⟨x, 17 + i, none⟩ = some (.int .i64 (rT S i)) := HX4.out.cellAt (refC_T _ _ _ _ _ hi)
          have f2 := HX4.out.f (17 + i)
          go_wp2_with fail
          go_region_law (fail)
          all_goals
            obtain ⟨V5, hV5⟩ : ∃ V5, (V4.setCell ⟨x, 17 + i, none⟩ (.int .i64 now)).drew = V5 := ⟨_, rfl⟩
            rw [hV5]
            have hX5 : Blk V5 x RFf (refC q m cap (rS (setS S i ⟨seq, now, true⟩)) (setI (rT S) i now)) := by rw [← hV5, ← refC_setT _ _ _ _ _ hi]; exact (HX4.out.set (17 + i) _).drew
            have hT5 : Turns (fun k => k = x) V4 V5 := hV5 ▸ ((Turns.refl (fun k => k = x) V4).setCell (p := ⟨x, 17 + i, none⟩) (.inl rfl) (.int .i64 now)).drew
            rw [rT_set S i seq now] at hX5
            obtain ⟨S', hS'⟩ : ∃ S', setS S i ⟨seq, now, true⟩ = S' := ⟨_, rfl⟩
            rw [hS'] at hX5
            have HS' := Lib.hid hS'
            have HX5 := Lib.hid hX5
            have HT5 := Lib.hid ((HT4.out).trans hT5)
            have HY5 := Lib.hid (HY4.out.of_same (hT5.block P HY4.out.lt HPX.out))
            have HL5 := Lib.hid (lat_keep HL4.out hT5 HPC.out)
            have HC5 := Lib.hid (lat_keep HC4.out hT5 (fun _ b off e he => by have := HQX.out b off e; omega))
            have HXL5 := Lib.hid hX5.lt
            clear hX5 hT5 hV5 hS' y0 x2 f2 HX4 HY4 HL4 HC4 HXL4
            have x0 : V5.cell? ⟨x, 0, none⟩ = some (.slice q m cap) := HX5.out.cellAt rfl
            have hb6 := newB V5 (.cells #[] 67)
            have hlit := LOwn.lit rowCy V5 V5.heap.size [] (fun y hy => by simp at hy) (Nat.le_refl _) (by unfold maxLen; simp)
            have HO6 := Lib.hid (show CysOwn (V5.alloc (.cells #[] 67)) V5.heap.size (some ⟨V5.heap.size, 0, none⟩) 0 0 [] from hlit)
            have HC6 := Lib.hid (HC5.out.below hb6)
            have HX6 := Lib.hid (HX5.out.next hb6)
            have HB6 := Lib.hid hb6
            have x0 : (V5.alloc (.cells #[] 67)).cell? ⟨x, 0, none⟩ = some (.slice q m cap) := HX6.out.cellAt rfl
            have hm1 : m ≤ 1000 := by rw [← HM.out, List.length_map]; exact HSL.out
            have hp0 : ∀ u, (pure (#[] : Array Value) : Sem (Array Value)).run Try.prog u = .ok #[] u := fun u => rfl
            have hs0 : ∀ a u, (storeCells a (#[] : Array Value).toList).run Try.prog u = .ok () u := fun a u => rfl
            have hs1 : ∀ a u, (storeCells a []).run Try.prog u = .ok () u := fun a u => rfl
            clear hlit hb6
            go_wp2_with (at_builtin; refine wpList_appL (o := ⟨some 67, _, _, _, _, _⟩) rowCy (by kernel_rfl) (.tmp 62) (.tmp 66) (by rfl) V5.heap.size (some ⟨V5.heap.size, 0, none⟩) 0 0 [] HO6.out (by rfl) q m cap _ HC6.out HM.out (by rfl) m (by omega) (by omega) HB6.out.size ?_; intro q7 cap7 w7 hO7 hB7; have HX7 := Lib.hid (HX6.out.below hB7.out HXL5.out); have x3 : w7.cell? ⟨x, 0, none⟩ = some (.slice q m cap) := HX7.out.cellAt rfl; have f3 := HX7.out.f 0; clear x0)
            have hX8 : Blk (w7.setCell ⟨x, 0, none⟩ (.slice q7 m cap7)) x RFf (refC q7 m cap7 (rS S') (rT S')) := HX7.out.set 0 (.slice q7 m cap7)
            have hO8 := bk_of_own (own_low hO7.out HXL5.out (.slice q7 m cap7))
            rw [List.nil_append] at hO8
            have hT8 : Turns (fun k => k = x) V5 (w7.setCell ⟨x, 0, none⟩ (.slice q7 m cap7)) := (Turns.of_below (S := fun k => k = x) (HB6.out.trans hB7.out)).setCell (p := ⟨x, 0, none⟩) (.inl rfl) (.slice q7 m cap7)
            obtain ⟨V8, hV8⟩ : ∃ V8, w7.setCell ⟨x, 0, none⟩ (.slice q7 m cap7) = V8 := ⟨_, rfl⟩
            rw [hV8] at hX8 hO8 hT8
            have HX8 := Lib.hid hX8
            have HO8 := Lib.hid hO8
            have HT8 := Lib.hid hT8
            have HCP := Lib.hid (show m ≤ cap7 from hO7.out.cap_.1)
            have HQ7 := Lib.hid (fun (b off : Nat) (e : q7 = some ⟨b, off, none⟩) => show x < b from Nat.lt_of_lt_of_le HXL5.out (hO7.out.lo b off e))
            have HY8 := Lib.hid (HY5.out.of_same (hT8.block P HY5.out.lt HPX.out))
            have HL8 := Lib.hid (lat_keep HL5.out hT8 HPC.out)
            have HLL := Lib.hid (fun (hne : L ≠ []) (b off : Nat) (e : p = some ⟨b, off, none⟩) => show ¬ V5.heap.size ≤ b from by have := LAt.lt rowCy HL5.out hne e; omega)
            have HPL := Lib.hid (show P < V5.heap.size from HY5.out.lt)
            have HFT := Lib.hid (fun j : Nat => fok_set (f := f) HF.out (L.take j) (fun y hy => HL5.out.ok y (List.mem_of_mem_take hy)))
            have HVV := Lib.hid hV8
            clear hX8 hO8 hT8 hV8 hO7 hB7 x3 f3 HX7 HX6 HO6 HC6 HB6 HL5 HY5 HX5 HC5
            go_wp2_with fail
            rw [HVV.out]
            go_loopw [8] (fun v u => ∃ j : Nat, j ≤ k ∧ v = .int .i64 j ∧ CysBk u V5.heap.size q7 (ss.map (carryV (setC f (L.take j)))) ∧ Below V5.heap.size V8 u) (fun v _ => k - (intOf v).toNat)
            case atStart => exact ⟨0, Nat.zero_le _, rfl, HO8.out, Below.refl _ _⟩
            case round =>
              obtain ⟨j, hj, rfl, hbk, hB⟩ := hrel
              have HBK := Lib.hid hbk
              have HBU := Lib.hid hB
              have hT := Lib.hid (show Turns (fun b => V5.heap.size ≤ b) V8 wr from ⟨hB.os, hB.tape, hB.output, hB.size, fun b hb hn => hB.block b (by omega)⟩)
              have HXU := Lib.hid (HX8.out.below hB HXL5.out)
              have HYU := Lib.hid (HY8.out.below hB HPL.out)
              have HLU := Lib.hid (lat_keep HL8.out hT.out HLL.out)
              have y2 := HYU.out.cell 2 (by simp)
              simp only [List.getD_cons_zero, List.getD_cons_succ] at y2
              have x0 : wr.cell? ⟨x, 0, none⟩ = some (.slice q7 m cap7) := HXU.out.cellAt rfl
              clear hbk hB
              by_cases hlt : j < k
              · have hltI : (j : Int) < (k : Int) := by omega
                have j0 : (0 : Int) ≤ (j : Int) := by omega
                obtain ⟨b, off, rfl, c0, c1, c2⟩ := cy_cell HLU.out HN.out hlt
                have HKL := Lib.hid (show j < L.length by rw [HN.out]; exact hlt)
                have HSN := Lib.hid (setC_snoc f L j HKL.out)
                have HMY := Lib.hid (show L.getD j Cy.zero ∈ L from by simp [List.getD, HKL.out])
                obtain ⟨y, hy⟩ : ∃ y, L.getD j Cy.zero = y := ⟨_, rfl⟩
                rw [hy] at c0 c1 c2 HSN HMY
                obtain ⟨yi, yc, yd⟩ := y
                dsimp only at c0 c1 c2
                have hnn : (byId l yi).isNone = false := by
                  rcases hb : (byId l yi).isNone with _ | _
                  · rfl
                  · have := any_true (strangeC l) HMY.out hb
                    rw [HNA.out] at this
                    cases this
                have hne : ss ≠ [] := by
                  intro e
                  have hl0 : l = [] := by have := HPM.out; rw [e] at this; exact this.eq_nil
                  rw [hl0] at hnn
                  cases hnn
                have HGT := Lib.hid (fun (r : Int) (hr : FI (ss.map (carryV (setC f (L.take j)))) yi r) => show ∃ r' : Nat, r' < ss.length ∧ r = r' ∧ (ss.getD r' Ifc.zero).id = yi from by
                  rcases got_at (HFT.out j) HPM.out HST.out hr with ⟨r', h1, h2, _, h3, _⟩ | ⟨_, _, h3⟩
                  · exact ⟨r', h1, h2, h3⟩
                  · rw [hnn] at h3; cases h3)
                have HML := Lib.hid (show ss.length = m from by have := HM.out; rw [List.length_map] at this; exact this)
                obtain ⟨g, rest, rfl, hgb, hg⟩ : ∃ g rest, q7 = some ⟨g, 0, none⟩ ∧ Blk wr g 67 (cellsL cyC (ss.map (carryV (setC f (L.take j)))) ++ rest) ∧ V5.heap.size ≤ g := by
                  rcases HBK.out.2 with h0 | h0
                  · exact absurd (List.map_eq_nil_iff.1 h0) hne
                  · exact h0
                have HGB := Lib.hid hgb
                have HGE := Lib.hid hg
                have HFI := Lib.hid (fun (U : World) (hU : Below wr.heap.size wr U) => rfind_any U x _ (rS S') (rT S') (show RfAt U x (ss.map (carryV (setC f (L.take j)))) (rS S') (rT S') from ⟨⟨some ⟨g, 0, none⟩, m, cap7, HXU.out.next hU, (bk_at HBK.out).below hU, by rw [List.length_map]; exact HML.out, HCP.out, HQ7.out⟩⟩) (by rw [List.length_map]; exact HSL.out) yi)
                have BB := Lib.hid (show Below wr.heap.size wr wr.drew from (Below.refl _ _).drew)
                have HIY := Lib.hid (HLU.out.ok _ HMY.out)
                have hbg : b < V5.heap.size := by
                  have := HLL.out (by intro e; have := HN.out; rw [e] at this; simp at this; omega) b off rfl
                  omega
                have HNE := Lib.hid (show x ≠ g ∧ P ≠ g ∧ b ≠ g from by have h1 := HXL5.out; have h2 := HPL.out; exact ⟨by omega, by omega, by omega⟩)
                have HSU := Lib.hid (fun (u : World) (hu : Below wr.heap.size wr u) => show u.cell? ⟨x, 0, none⟩ = some (.slice (some ⟨g, 0, none⟩) m cap7) ∧ u.cell? ⟨P, 2, none⟩ = some (.slice (some ⟨b, off, none⟩) k c') ∧ u.cell? ⟨b, off + j * 3, none⟩ = some (.int .i64 yi) ∧ u.cell? ⟨b, off + j * 3 + 1, none⟩ = some (.int .i64 yc) ∧ u.cell? ⟨b, off + j * 3 + 2, none⟩ = some (.bool yd) from ⟨kept hu x0, kept hu y2, kept hu c0, kept hu c1, kept hu c2⟩)
                clear hy hnn hne hgb hg hbg
                go_wp2_with fail
                have hS : wr.drew.cell? ⟨x, 0, none⟩ = some (.slice (some ⟨g, 0, none⟩) m cap7) ∧ wr.drew.cell? ⟨P, 2, none⟩ = some (.slice (some ⟨b, off, none⟩) k c') ∧ wr.drew.cell? ⟨b, off + j * 3, none⟩ = some (.int .i64 yi) ∧ wr.drew.cell? ⟨b, off + j * 3 + 1, none⟩ = some (.int .i64 yc) ∧ wr.drew.cell? ⟨b, off + j * 3 + 2, none⟩ = some (.bool yd) := ⟨x0, y2, c0, c1, c2⟩
                have HS3 := Lib.hid (fun (u : World) (hu : u.cell? ⟨x, 0, none⟩ = some (.slice (some ⟨g, 0, none⟩) m cap7) ∧ u.cell? ⟨P, 2, none⟩ = some (.slice (some ⟨b, off, none⟩) k c') ∧ u.cell? ⟨b, off + j * 3, none⟩ = some (.int .i64 yi) ∧ u.cell? ⟨b, off + j * 3 + 1, none⟩ = some (.int .i64 yc) ∧ u.cell? ⟨b, off + j * 3 + 2, none⟩ = some (.bool yd)) (o0 o1 o2 : Nat) (v0 v1 v2 : Value) => show (((u.setCell ⟨g, o0, none⟩ v0).setCell ⟨g, o1, none⟩ v1).setCell ⟨g, o2, none⟩ v2).cell? ⟨x, 0, none⟩ = some (.slice (some ⟨g, 0, none⟩) m cap7) ∧ (((u.setCell ⟨g, o0, none⟩ v0).setCell ⟨g, o1, none⟩ v1).setCell ⟨g, o2, none⟩ v2).cell? ⟨P, 2, none⟩ = some (.slice (some ⟨b, off, none⟩) k c') ∧ (((u.setCell ⟨g, o0, none⟩ v0).setCell ⟨g, o1, none⟩ v1).setCell ⟨g, o2, none⟩ v2).cell? ⟨b, off + j * 3, none⟩ = some (.int .i64 yi) ∧ (((u.setCell ⟨g, o0, none⟩ v0).setCell ⟨g, o1, none⟩ v1).setCell ⟨g, o2, none⟩ v2).cell? ⟨b, off + j * 3 + 1, none⟩ = some (.int .i64 yc) ∧ (((u.setCell ⟨g, o0, none⟩ v0).setCell ⟨g, o1, none⟩ v1).setCell ⟨g, o2, none⟩ v2).cell? ⟨b, off + j * 3 + 2, none⟩ = some (.bool yd) from by
                  have hk : ∀ t, t ≠ g → (((u.setCell ⟨g, o0, none⟩ v0).setCell ⟨g, o1, none⟩ v1).setCell ⟨g, o2, none⟩ v2).heap[t]? = u.heap[t]? := fun t ht => by
                    rw [Below.heap_setCell _ _ _ t ht, Below.heap_setCell _ _ _ t ht, Below.heap_setCell _ _ _ t ht]
                  have h1 := hk x HNE.out.1
                  have h2 := hk P HNE.out.2.1
                  have h3 := hk b HNE.out.2.2
                  exact ⟨cell_same hu.1 h1, cell_same hu.2.1 h2, cell_same hu.2.2.1 h3, cell_same hu.2.2.2.1 h3, cell_same hu.2.2.2.2 h3⟩)
                clear x0 y2 c0 c1 c2
                go_region_held_law (fun W => W.cell? ⟨x, 0, none⟩ = some (.slice (some ⟨g, 0, none⟩) m cap7) ∧ W.cell? ⟨P, 2, none⟩ = some (.slice (some ⟨b, off, none⟩) k c') ∧ W.cell? ⟨b, off + j * 3, none⟩ = some (.int .i64 yi) ∧ W.cell? ⟨b, off + j * 3 + 1, none⟩ = some (.int .i64 yc) ∧ W.cell? ⟨b, off + j * 3 + 2, none⟩ = some (.bool yd)) (with_reducible assumption) (first | (go_at_call 51; (with_reducible refine (HFI.out _ BB.out).mono ?_); rintro e u ⟨r, rfl, hfi, hb⟩; obtain ⟨r', hr1, rfl, hr2⟩ := HGT.out r hfi; have HRL := Lib.hid hr1; have HRI := Lib.hid hr2; have HB9 := Lib.hid (BB.out.trans hb); have HG9 := Lib.hid (HGB.out.next HB9.out); have hS := HSU.out _ HB9.out; have hS3 := HS3.out u hS (r' * 3) (r' * 3 + 1) (r' * 3 + 2) (.int .i64 yi) (.int .i64 yc) (.bool yd); have r0 : (0 : Int) ≤ (r' : Int) := (by omega); have rm : (r' : Int) < (m : Int) := (by have := HML.out; omega); obtain ⟨z0, z1, z2, d0, d1, d2⟩ := bk_cells HG9.out hr1; have f0 := HG9.out.f (r' * 3); have f1 := HG9.out.f (r' * 3 + 1); have f2 := HG9.out.f (r' * 3 + 2); clear hfi hb hr1 hr2))
                all_goals
                  have hcs := cells_set (ss.map (carryV (setC f (L.take j)))) rest r' (by rw [List.length_map]; exact HRL.out) ⟨yi, yc, yd⟩
                  have hmp := map_put (g := setC f (L.take j)) (y := ⟨yi, yc, yd⟩) HST.out HRL.out HRI.out
                  have hsn := HSN.out
                  dsimp only at hcs hmp hsn
                  have hset := ((HG9.out.set (r' * 3) (.int .i64 yi)).set (r' * 3 + 1) (.int .i64 yc)).set (r' * 3 + 2) (.bool yd)
                  rw [hcs, hmp, ← hsn] at hset
                  have hb9 := (((HBU.out.trans (HB9.out.mono (Nat.le_trans HT8.out.size HBU.out.size))).setCell (p := ⟨g, r' * 3, none⟩) HGE.out (.int .i64 yi)).setCell (p := ⟨g, r' * 3 + 1, none⟩) HGE.out (.int .i64 yc)).setCell (p := ⟨g, r' * 3 + 2, none⟩) HGE.out (.bool yd)
                  have hin9 : ∀ y ∈ ss.map (carryV (setC f (L.take (j + 1)))), InCy y := by
                    rw [hsn, ← hmp]
                    intro y hy
                    rcases List.mem_or_eq_of_mem_set hy with h | rfl
                    · exact HBK.out.1 y h
                    · exact HIY.out
                  go_wp2_with fail
                  go_roundw
                  case rel => first | exact ⟨j + 1, by omega, by go_num, ⟨hin9, .inr ⟨g, rest, rfl, hset, HGE.out⟩⟩, hb9⟩ | exact ⟨j + 1, by omega, by go_num, ⟨hin9, .inr ⟨g, rest, rfl, hset.drew, HGE.out⟩⟩, hb9.drew⟩
                  case measure => simp [intOf]; omega
              · obtain rfl : j = k := by omega
                have hbk := HBK.out
                rw [List.take_of_length_le (by rw [HN.out]; exact Nat.le_refl _)] at hbk
                have HBE := Lib.hid hbk
                clear hbk x0
                go_wp2_with fail
                go_ret
                refine ⟨rfl, ?_, ?_⟩
                · have h1 := ((Turns.of_below (S := fun k => k = x) (HBV.out.trans (HB3.out.mono HBV.out.size))).trans HT5.out)
                  have h2 := h1.trans HT8.out
                  exact Turns.low2 h2 (HBU.out.mono h1.size)
                · rw [HYES.out.1, HYES.out.2, Int.toNat_natCast, HS'.out]
                  exact ⟨⟨q7, m, cap7, HXU.out, bk_at HBE.out, HM.out ▸ by rw [List.length_map, List.length_map], HCP.out, HQ7.out⟩⟩
end Go.Proofs.Ytlkpalaakncicaa
