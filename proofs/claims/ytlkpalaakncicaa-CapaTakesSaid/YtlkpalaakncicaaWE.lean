/- hop: lives. -/
import Derived.Test.YtlkpalaakncicaaWC
namespace Go.Proofs.Ytlkpalaakncicaa
open Go.RowKit
set_option linter.unusedVariables false
set_option linter.unusedSimpArgs false
set_option maxRecDepth 100000

theorem apart_from : ∀ (l acc : List Ifc), Apart acc → okFrom acc l = true → Apart (acc ++ l)
  | [], acc, h, _ => by simpa using h
  | x :: t, acc, h, hk => by
    simp only [okFrom, Bool.and_eq_true] at hk
    have hb : byId acc x.id = none := by
      have := hk.1
      unfold okIf at this
      rw [Bool.and_eq_true] at this
      have h1 := this.1
      rcases hc : byId acc x.id with _ | y
      · rfl
      · rw [hc] at h1; cases h1
    have h2 : Apart (acc ++ [x]) := fun y hy => by
      rw [byId_snoc hb]
      rcases List.mem_append.1 hy with hy | hy
      · by_cases e : x.id = y.id
        · rw [e] at hb
          rw [h y hy] at hb; cases hb
        · rw [if_neg e]; exact h y hy
      · simp at hy; subst hy; rw [if_pos rfl]
    have := apart_from t (acc ++ [x]) h2 hk.2
    simpa using this
theorem okIfs_apart {l : List Ifc} (h : okIfs l = true) : Apart l := by
  unfold okIfs at h
  rw [Bool.and_eq_true] at h
  have := apart_from l [] (fun x hx => by simp at hx) h.2
  simpa using this
theorem nodup_from : ∀ (l acc : List Ifc), acc.Nodup → okFrom acc l = true → (acc ++ l).Nodup
  | [], acc, h, _ => by simpa using h
  | x :: t, acc, h, hk => by
    simp only [okFrom, Bool.and_eq_true] at hk
    have hb : byId acc x.id = none := by
      have := hk.1
      unfold okIf at this
      rw [Bool.and_eq_true] at this
      have h1 := this.1
      rcases hc : byId acc x.id with _ | y
      · rfl
      · rw [hc] at h1; cases h1
    have hx : x ∉ acc := fun hm => by
      unfold byId at hb
      rw [List.find?_eq_none] at hb
      exact hb x hm (by simp)
    have h2 : (acc ++ [x]).Nodup := List.nodup_append.2 ⟨h, by simp, fun a ha b hb e => by simp at hb; subst hb; exact hx (e ▸ ha)⟩
    have := nodup_from t (acc ++ [x]) h2 hk.2
    simpa using this
theorem okIfs_nodup {l : List Ifc} (h : okIfs l = true) : l.Nodup := by
  unfold okIfs at h
  rw [Bool.and_eq_true] at h
  have := nodup_from l [] List.nodup_nil h.2
  simpa using this
/-- All interfaces, by their numbers. -/
def AllTo (w w' : World) (l : List Ifc) (e : Ending) : Prop := ∃ q k cap ss, e = .returned (.slice q k cap) ∧ ss.length = k ∧ l.Perm ss ∧ ss.Pairwise (fun x y => x.id < y.id) ∧ IfsAt w' q ss ∧ Below w.heap.size w w'
def AllOk : Prop := ∀ (w : World) (B h b : Nat) (F : Nat → TrF) (l : List Ifc), HopAt w B h b F l → okIfs l = true → (∀ x ∈ l, InIf x) → l.length ≤ 1000 →
  Calls Try.prog 16 #[.pointer (some ⟨h, 0, none⟩)] w fun e w' => AllTo w w' l e
/-- There is one such list. -/
theorem sorted_one : ∀ {ss ts : List Ifc}, ss.Pairwise (fun x y => x.id < y.id) → ts.Pairwise (fun x y => x.id < y.id) → ss.Perm ts → ss = ts
  | [], ts, _, _, h => (List.nil_perm.1 h).symm ▸ rfl
  | x :: s, [], _, _, h => by have := h.length_eq; simp at this
  | x :: s, y :: t, h1, h2, h => by
    obtain ⟨a1, a2⟩ := List.pairwise_cons.1 h1
    obtain ⟨b1, b2⟩ := List.pairwise_cons.1 h2
    have hxy : x = y := by
      rcases List.mem_cons.1 (h.mem_iff.1 (List.mem_cons_self (a := x) (l := s))) with e | hx
      · exact e
      · rcases List.mem_cons.1 (h.mem_iff.2 (List.mem_cons_self (a := y) (l := t))) with e | hy
        · exact e.symm
        · have := a1 y hy; have := b1 x hx; omega
    subst hxy
    rw [sorted_one a2 b2 (List.perm_cons x |>.1 h)]
def lv0 : Ifc := ⟨5, 1, 167772160, 8, 9⟩
def lv1 : Ifc := ⟨4, 1, 167837696, 16, 0⟩
theorem lv_ok : okIfs [lv0, lv1] = true := by decide +kernel
theorem lv_no : okIfs [lv0, lv1, lv0] = false := by decide +kernel
theorem lv_find : findV [lv0, lv1] 1 167837703 = some lv1 := by kernel_rfl
theorem lv_find0 : findV [lv0, lv1] 0 167772160 = none := by kernel_rfl
theorem lv_id : byId [lv0, lv1] 5 = some lv0 := by kernel_rfl
theorem lv_in : ∀ x ∈ [lv0, lv1], InIf x := by
  intro x hx
  simp at hx
  rcases hx with rfl | rfl <;> exact ⟨by decide, by decide, by decide⟩
theorem lv_sorted : [lv1, lv0].Pairwise (fun x y : Ifc => x.id < y.id) := by simp [lv0, lv1]
theorem checkH_any (p : Option Addr) (l : List Ifc) (n c : Nat) (w : World) (hl : IfsAt w p l) (hn : l.length = n) :
    Calls Try.prog 10 #[.slice p n c] w fun e w' => e = .returned (.int .i64 (if okIfs l then 0 else 160)) ∧ Below w.heap.size w w' := by
  have HN := Lib.hid (newH_any p l n c w hl hn)
  clear hl
  rcases hok : okIfs l with _ | _
  · go_enter Try.func10, Try.ntmps10
    go_wp2_with fail
    refine HN.out.mono ?_
    rintro e w1 ⟨hb, h1, _⟩
    obtain rfl := h1 hok
    have HB := Lib.hid hb
    clear hb h1
    go_wp2_with fail
    go_ret
    exact ⟨rfl, HB.out⟩
  · go_enter Try.func10, Try.ntmps10
    go_wp2_with fail
    refine HN.out.mono ?_
    rintro e w1 ⟨hb, _, h1⟩
    obtain ⟨h, b, F, rfl, _⟩ := h1 hok
    have HB := Lib.hid hb
    clear hb h1
    go_wp2_with fail
    go_ret
    exact ⟨rfl, HB.out⟩
set_option maxHeartbeats 16000000 in
theorem livesH_if (hall : AllOk) (w : World) :
    Calls Try.prog 7 #[] w fun e w' => e = .returned (.bool true) ∧ Below w.heap.size w w' := by
  have HALL := Lib.hid hall
  obtain ⟨W1, hW1⟩ : ∃ W1, w.alloc (.cells #[.int .i64 5, .int .i64 1, .int .u32 167772160, .int .i64 8, .int .i64 9, .int .i64 4, .int .i64 1, .int .u32 167837696, .int .i64 16, .int .i64 0] 34) = W1 := ⟨_, rfl⟩
  have hOW : IfsOwn W1 w.heap.size (some ⟨w.heap.size, 0, none⟩) 2 2 [lv0, lv1] := hW1 ▸ IfsOwn.lit w w.heap.size [lv0, lv1] lv_in (Nat.le_refl _) (by unfold maxLen; simp)
  have hb1 : Below w.heap.size w W1 := hW1 ▸ newB w _
  have hBl : Blk W1 w.heap.size 34 [.int .i64 5, .int .i64 1, .int .u32 167772160, .int .i64 8, .int .i64 9, .int .i64 4, .int .i64 1, .int .u32 167837696, .int .i64 16, .int .i64 0] := hW1 ▸ Blk.new w 34 [.int .i64 5, .int .i64 1, .int .u32 167772160, .int .i64 8, .int .i64 9, .int .i64 4, .int .i64 1, .int .u32 167837696, .int .i64 16, .int .i64 0]
  have HB1 := Lib.hid hb1
  have HOW := Lib.hid hOW.at
  have HBL := Lib.hid hBl
  have HW1 := Lib.hid hW1
  have HN1 := Lib.hid (newH_any (some ⟨w.heap.size, 0, none⟩) [lv0, lv1] 2 2 W1 hOW.at rfl)
  clear hall hOW hb1 hBl hW1
  go_enter Try.func7, Try.ntmps7
  go_wp2_with fail
  rw [HW1.out]
  refine HN1.out.mono ?_
  rintro e w2 ⟨hb, _, hy⟩
  obtain ⟨h, b, F, rfl, hH⟩ := hy lv_ok
  have HB2 := Lib.hid (HB1.out.trans (hb.mono HB1.out.size))
  have HH2 := Lib.hid hH
  have HBL2 := Lib.hid (HBL.out.next hb)
  have HOW2 := Lib.hid (HOW.out.below hb)
  have HWS := Lib.hid hb.size
  clear hb hy hH HN1
  have c0 := HBL2.out.cell 0 (by simp)
  have c1 := HBL2.out.cell 1 (by simp)
  have c2 := HBL2.out.cell 2 (by simp)
  have c3 := HBL2.out.cell 3 (by simp)
  have c4 := HBL2.out.cell 4 (by simp)
  have hbx := newB w2 (.cells #[.int .i64 5, .int .i64 1, .int .u32 167772160, .int .i64 8, .int .i64 9] 34)
  have OW3 := Lib.hid (HOW2.out.below hbx)
  have LIT := Lib.hid (show IfsAt (w2.alloc (.cells #[.int .i64 5, .int .i64 1, .int .u32 167772160, .int .i64 8, .int .i64 9] 34)) (some ⟨w2.heap.size, 0, none⟩) [lv0] from (IfsOwn.lit w2 w2.heap.size [lv0] (fun x hx => lv_in x (by simp at hx; subst hx; simp)) (Nat.le_refl _) (by unfold maxLen; simp)).at)
  have HBX := Lib.hid hbx
  clear hbx
  go_wp2_with (first
    | (at_builtin; refine wpList_appFullI (o := ⟨some 29, _, _, _, _, _⟩) (by rfl) (.tmp 24) (.tmp 28) (by rfl) (some ⟨w.heap.size, 0, none⟩) 2 [lv0, lv1] OW3.out rfl (by rfl) (some ⟨w2.heap.size, 0, none⟩) 1 1 [lv0] LIT.out rfl (by rfl) (by omega) (by omega) (by omega) ?_; intro C3 w3 hO3 hB3))
  have hb3 := HBX.out.trans (hB3.out.mono (HBX.out.size))
  have HB3 := Lib.hid (HB2.out.trans (hb3.mono HB2.out.size))
  have HH3 := Lib.hid (HH2.out.below hb3)
  have HBL3 := Lib.hid (HBL2.out.next hb3)
  have HOW3 := Lib.hid (HOW2.out.below hb3)
  have hoa := hO3.out.at
  rw [sz_alloc] at hoa
  have HN2 := Lib.hid (newH_any (some ⟨w2.heap.size + 1, 0, none⟩) ([lv0, lv1] ++ [lv0]) 3 C3 w3 hoa rfl)
  clear hoa
  clear c0 c1 c2 c3 c4 hb3 hO3 hB3 OW3 LIT HBX HH2 HBL2 HOW2 HBL HOW
  refine HN2.out.mono ?_
  rintro e w4 ⟨hb, hno, _⟩
  obtain rfl := hno lv_no
  have HB4 := Lib.hid (HB3.out.trans (hb.mono HB3.out.size))
  have HH4 := Lib.hid (HH3.out.below hb)
  have HBL4 := Lib.hid (HBL3.out.next hb)
  have HOW4 := Lib.hid (HOW3.out.below hb)
  clear hb hno HN2 HH3 HBL3 HOW3
  have hf1 := hfind_any w4 W1.heap.size h b F [lv0, lv1] HH4.out 1 167837703 (by omega) (by omega)
  rw [lv_find] at hf1
  have HF1 := Lib.hid hf1
  clear hf1
  go_wp2_with fail
  refine HF1.out.mono ?_
  rintro e w5 ⟨rfl, hb⟩
  have hb5 := hb.trans ((newB w5 (.cells #[.int .i64 4, .int .i64 1, .int .u32 167837696, .int .i64 16, .int .i64 0] 34)).mono hb.size)
  obtain ⟨W5, hW5⟩ : ∃ W, w5.alloc (.cells #[.int .i64 4, .int .i64 1, .int .u32 167837696, .int .i64 16, .int .i64 0] 34) = W := ⟨_, rfl⟩
  rw [hW5] at hb5
  have HB5 := Lib.hid (HB4.out.trans (hb5.mono HB4.out.size))
  have HH5 := Lib.hid (HH4.out.below hb5)
  have HBL5 := Lib.hid (HBL4.out.next hb5)
  have HOW5 := Lib.hid (HOW4.out.below hb5)
  have HXB5 := Lib.hid (show Blk W5 w5.heap.size 34 [.int .i64 4, .int .i64 1, .int .u32 167837696, .int .i64 16, .int .i64 0] from hW5 ▸ Blk.new w5 34 [.int .i64 4, .int .i64 1, .int .u32 167837696, .int .i64 16, .int .i64 0])
  have HWE5 := Lib.hid hW5
  clear hb hb5 hW5 HF1 HH4 HBL4 HOW4
  have hf2 := hfind_any W5 W1.heap.size h b F [lv0, lv1] HH5.out 0 167772160 (by omega) (by omega)
  rw [lv_find0] at hf2
  have HF2 := Lib.hid hf2
  clear hf2
  have e1 : ifV ((some lv1).getD Ifc.zero) = .agg #[.int .i64 4, .int .i64 1, .int .u32 167837696, .int .i64 16, .int .i64 0] := rfl
  rw [e1]
  clear e1
  go_wp2_with fail
  rw [HWE5.out]
  refine HF2.out.mono ?_
  rintro e w6 ⟨rfl, hb⟩
  have e1 : ifV ((none : Option Ifc).getD Ifc.zero) = .agg #[.int .i64 0, .int .i64 0, .int .u32 0, .int .i64 0, .int .i64 0] := rfl
  rw [e1]
  clear e1
  have hb6 := hb.trans ((newB w6 (.cells #[.int .i64 0, .int .i64 0, .int .u32 0, .int .i64 0, .int .i64 0] 34)).mono hb.size)
  obtain ⟨W6, hW6⟩ : ∃ W, w6.alloc (.cells #[.int .i64 0, .int .i64 0, .int .u32 0, .int .i64 0, .int .i64 0] 34) = W := ⟨_, rfl⟩
  rw [hW6] at hb6
  have HB6 := Lib.hid (HB5.out.trans (hb6.mono HB5.out.size))
  have HH6 := Lib.hid (HH5.out.below hb6)
  have HBL6 := Lib.hid (HBL5.out.next hb6)
  have HOW6 := Lib.hid (HOW5.out.below hb6)
  have HXB6 := Lib.hid (HXB5.out.next hb6)
  have HWE6 := Lib.hid hW6
  clear hb hb6 hW6 HF2 HH5 HBL5 HOW5 HXB5
  have hi := hiface_any W6 W1.heap.size h b F [lv0, lv1] HH6.out 5 (by decide)
  rw [lv_id] at hi
  have HI := Lib.hid hi
  clear hi
  go_wp2_with fail
  rw [HWE6.out]
  refine HI.out.mono ?_
  rintro e w7 ⟨rfl, hb⟩
  have e1 : ifV ((some lv0).getD Ifc.zero) = .agg #[.int .i64 5, .int .i64 1, .int .u32 167772160, .int .i64 8, .int .i64 9] := rfl
  rw [e1]
  clear e1
  have hb7 := hb.trans ((newB w7 (.cells #[.int .i64 5, .int .i64 1, .int .u32 167772160, .int .i64 8, .int .i64 9] 34)).mono hb.size)
  obtain ⟨W7, hW7⟩ : ∃ W, w7.alloc (.cells #[.int .i64 5, .int .i64 1, .int .u32 167772160, .int .i64 8, .int .i64 9] 34) = W := ⟨_, rfl⟩
  rw [hW7] at hb7
  have HB7 := Lib.hid (HB6.out.trans (hb7.mono HB6.out.size))
  have HH7 := Lib.hid (HH6.out.below hb7)
  have HBL7 := Lib.hid (HBL6.out.next hb7)
  have HOW7 := Lib.hid (HOW6.out.below hb7)
  have HXB7 := Lib.hid (HXB6.out.next hb7)
  have HYB7 := Lib.hid (show Blk W7 w7.heap.size 34 [.int .i64 5, .int .i64 1, .int .u32 167772160, .int .i64 8, .int .i64 9] from hW7 ▸ Blk.new w7 34 [.int .i64 5, .int .i64 1, .int .u32 167772160, .int .i64 8, .int .i64 9])
  have HWE7 := Lib.hid hW7
  clear hb hb7 hW7 HI HH6 HBL6 HOW6 HXB6
  have HA := Lib.hid (HALL.out W7 _ _ _ _ _ HH7.out lv_ok lv_in (by simp))
  go_wp2_with fail
  rw [HWE7.out]
  refine HA.out.mono ?_
  rintro e w8 ⟨q8, k8, c8, ss, rfl, hk8, hperm, hsort, hat, hb⟩
  obtain rfl : ss = [lv1, lv0] := sorted_one hsort lv_sorted (hperm.symm.trans (List.Perm.swap lv1 lv0 []))
  obtain rfl : k8 = 2 := hk8.symm
  have HB8 := Lib.hid (HB7.out.trans (hb.mono HB7.out.size))
  have HH8 := Lib.hid (HH7.out.below hb)
  have HBL8 := Lib.hid (HBL7.out.next hb)
  have HOW8 := Lib.hid (HOW7.out.below hb)
  have HXB8 := Lib.hid (HXB7.out.next hb)
  have HYB8 := Lib.hid (HYB7.out.next hb)
  have HAT8 := Lib.hid hat
  clear hk8 hperm hsort hat hb HA HH7 HBL7 HOW7 HXB7 HYB7
  have HS := Lib.hid (fun (W : World) (hW : Below w8.heap.size w8 W) => show W.cell? ⟨w.heap.size, 0, none⟩ = some (.int .i64 5) ∧ W.cell? ⟨w.heap.size, 1, none⟩ = some (.int .i64 1) ∧ W.cell? ⟨w.heap.size, 2, none⟩ = some (.int .u32 167772160) ∧ W.cell? ⟨w.heap.size, 3, none⟩ = some (.int .i64 8) ∧ W.cell? ⟨w.heap.size, 4, none⟩ = some (.int .i64 9) ∧ W.cell? ⟨w.heap.size, 5, none⟩ = some (.int .i64 4) ∧ W.cell? ⟨w.heap.size, 6, none⟩ = some (.int .i64 1) ∧ W.cell? ⟨w.heap.size, 7, none⟩ = some (.int .u32 167837696) ∧ W.cell? ⟨w.heap.size, 8, none⟩ = some (.int .i64 16) ∧ W.cell? ⟨w.heap.size, 9, none⟩ = some (.int .i64 0) ∧ W.cell? ⟨w5.heap.size, 0, none⟩ = some (.int .i64 4) ∧ W.cell? ⟨w5.heap.size, 1, none⟩ = some (.int .i64 1) ∧ W.cell? ⟨w5.heap.size, 2, none⟩ = some (.int .u32 167837696) ∧ W.cell? ⟨w5.heap.size, 3, none⟩ = some (.int .i64 16) ∧ W.cell? ⟨w5.heap.size, 4, none⟩ = some (.int .i64 0) ∧ W.cell? ⟨w7.heap.size, 0, none⟩ = some (.int .i64 5) ∧ W.cell? ⟨w7.heap.size, 1, none⟩ = some (.int .i64 1) ∧ W.cell? ⟨w7.heap.size, 2, none⟩ = some (.int .u32 167772160) ∧ W.cell? ⟨w7.heap.size, 3, none⟩ = some (.int .i64 8) ∧ W.cell? ⟨w7.heap.size, 4, none⟩ = some (.int .i64 9) from by
    have h1 := HBL8.out.next hW
    obtain ⟨x0, x1, x2, x3, x4⟩ := if_boxes (HXB8.out.next hW)
    obtain ⟨y0, y1, y2, y3, y4⟩ := if_boxes (HYB8.out.next hW)
    exact ⟨h1.cell 0 (by simp), h1.cell 1 (by simp), h1.cell 2 (by simp), h1.cell 3 (by simp), h1.cell 4 (by simp), h1.cell 5 (by simp), h1.cell 6 (by simp), h1.cell 7 (by simp), h1.cell 8 (by simp), h1.cell 9 (by simp), x0, x1, x2, x3, x4, y0, y1, y2, y3, y4⟩)
  have hq1 : ∀ u, (binOp .eql 34 (.agg #[.int .i64 4, .int .i64 1, .int .u32 167837696, .int .i64 16, .int .i64 0]) (.agg #[.int .i64 4, .int .i64 1, .int .u32 167837696, .int .i64 16, .int .i64 0])).run Try.prog u = .ok (.bool true) u := fun u => (if_eql lv1 lv1 u).trans (by rw [(eqI_iff lv1 lv1).2 rfl])
  have hq0 : ∀ u, (binOp .eql 34 (.agg #[.int .i64 5, .int .i64 1, .int .u32 167772160, .int .i64 8, .int .i64 9]) (.agg #[.int .i64 5, .int .i64 1, .int .u32 167772160, .int .i64 8, .int .i64 9])).run Try.prog u = .ok (.bool true) u := fun u => (if_eql lv0 lv0 u).trans (by rw [(eqI_iff lv0 lv0).2 rfl])
  have hg := if_eqGuard
  have HSAME := Lib.hid (fun (U : World) (hU : Below w8.heap.size w8 U) (h2 : IfsAt U (some ⟨w8.heap.size, 0, none⟩) [lv1, lv0]) => (rsameI_yes q8 (some ⟨w8.heap.size, 0, none⟩) [lv1, lv0] 2 c8 2 U (HAT8.out.below hU) h2 rfl (by unfold maxLen; omega)).mono (fun e w' (h : _ ∧ _) => (⟨h.1, hU.trans (h.2.mono hU.size)⟩ : e = .returned (.bool true) ∧ Below w8.heap.size w8 w')))
  have HLEN := Lib.hid (fun (U : World) (hU : Below w8.heap.size w8 U) => (hlen_any U W1.heap.size h b F [lv0, lv1] (HH8.out.below hU)).mono (fun e w' (h : _ ∧ _) => (⟨h.1, h.2 ▸ hU⟩ : e = .returned (.int .i64 2) ∧ Below w8.heap.size w8 w')))
  have HCHK := Lib.hid (fun (U : World) (hU : Below w8.heap.size w8 U) => (checkH_any (some ⟨w.heap.size, 0, none⟩) [lv0, lv1] 2 2 U (HOW8.out.below hU) rfl).mono (fun e w' (h : _ ∧ _) => (⟨h.1.trans (by rw [lv_ok]; rfl), hU.trans (h.2.mono hU.size)⟩ : e = .returned (.int .i64 0) ∧ Below w8.heap.size w8 w')))
  have hlit := IfsOwn.lit w8 w8.heap.size [lv1, lv0] (fun x hx => lv_in x (by simp at hx ⊢; exact hx.symm)) (Nat.le_refl _) (by unfold maxLen; simp)
  have BX1 : Hid (Below w8.heap.size w8 (w8.alloc (.cells #[.int .i64 4, .int .i64 1, .int .u32 167837696, .int .i64 16, .int .i64 0, .int .i64 5, .int .i64 1, .int .u32 167772160, .int .i64 8, .int .i64 9] 34)).drew ∧ IfsAt (w8.alloc (.cells #[.int .i64 4, .int .i64 1, .int .u32 167837696, .int .i64 16, .int .i64 0, .int .i64 5, .int .i64 1, .int .u32 167772160, .int .i64 8, .int .i64 9] 34)).drew (some ⟨w8.heap.size, 0, none⟩) [lv1, lv0]) := Lib.hid ⟨(newB w8 _).drew, hlit.at.below (Below.refl _ _).drew⟩
  have BX2 : Hid (Below w8.heap.size w8 (w8.drew.alloc (.cells #[.int .i64 4, .int .i64 1, .int .u32 167837696, .int .i64 16, .int .i64 0, .int .i64 5, .int .i64 1, .int .u32 167772160, .int .i64 8, .int .i64 9] 34)) ∧ IfsAt (w8.drew.alloc (.cells #[.int .i64 4, .int .i64 1, .int .u32 167837696, .int .i64 16, .int .i64 0, .int .i64 5, .int .i64 1, .int .u32 167772160, .int .i64 8, .int .i64 9] 34)) (some ⟨w8.heap.size, 0, none⟩) [lv1, lv0]) := Lib.hid ⟨(Below.refl _ _).drew.alloc (Nat.le_refl _) _, hlit.at.below (Below.refl _ _).drew⟩
  clear hlit HBL8 HXB8 HYB8 HAT8 HH8 HOW8
  go_wp2_with fail
  go_region_held_law (fun W => W.cell? ⟨w.heap.size, 0, none⟩ = some (.int .i64 5) ∧ W.cell? ⟨w.heap.size, 1, none⟩ = some (.int .i64 1) ∧ W.cell? ⟨w.heap.size, 2, none⟩ = some (.int .u32 167772160) ∧ W.cell? ⟨w.heap.size, 3, none⟩ = some (.int .i64 8) ∧ W.cell? ⟨w.heap.size, 4, none⟩ = some (.int .i64 9) ∧ W.cell? ⟨w.heap.size, 5, none⟩ = some (.int .i64 4) ∧ W.cell? ⟨w.heap.size, 6, none⟩ = some (.int .i64 1) ∧ W.cell? ⟨w.heap.size, 7, none⟩ = some (.int .u32 167837696) ∧ W.cell? ⟨w.heap.size, 8, none⟩ = some (.int .i64 16) ∧ W.cell? ⟨w.heap.size, 9, none⟩ = some (.int .i64 0) ∧ W.cell? ⟨w5.heap.size, 0, none⟩ = some (.int .i64 4) ∧ W.cell? ⟨w5.heap.size, 1, none⟩ = some (.int .i64 1) ∧ W.cell? ⟨w5.heap.size, 2, none⟩ = some (.int .u32 167837696) ∧ W.cell? ⟨w5.heap.size, 3, none⟩ = some (.int .i64 16) ∧ W.cell? ⟨w5.heap.size, 4, none⟩ = some (.int .i64 0) ∧ W.cell? ⟨w7.heap.size, 0, none⟩ = some (.int .i64 5) ∧ W.cell? ⟨w7.heap.size, 1, none⟩ = some (.int .i64 1) ∧ W.cell? ⟨w7.heap.size, 2, none⟩ = some (.int .u32 167772160) ∧ W.cell? ⟨w7.heap.size, 3, none⟩ = some (.int .i64 8) ∧ W.cell? ⟨w7.heap.size, 4, none⟩ = some (.int .i64 9)) (first | with_reducible assumption | exact HS.out _ (Below.refl _ _).drew | exact HS.out _ BX1.out.1 | exact HS.out _ BX2.out.1) (first
    | (go_at_call 15; (with_reducible refine (HSAME.out _ (by first | with_reducible exact BX1.out.1 | with_reducible exact BX2.out.1) (by first | with_reducible exact BX1.out.2 | with_reducible exact BX2.out.2)).mono ?_); rintro e v ⟨rfl, hb⟩; have BB := Lib.hid hb; have hS := HS.out _ hb; clear hb)
    | (go_at_call 18; (with_reducible refine (HLEN.out _ BB.out).mono ?_); rintro e v ⟨rfl, hb⟩; have BB := Lib.hid hb; have hS := HS.out _ hb; clear hb)
    | (go_at_call 10; (with_reducible refine (HCHK.out _ BB.out).mono ?_); rintro e v ⟨rfl, hb⟩; have BB := Lib.hid hb; have hS := HS.out _ hb; clear hb))
  all_goals
    go_wp2_with fail
    go_ret
    exact ⟨by simp, HB8.out.trans (BB.out.mono HB8.out.size)⟩
end Go.Proofs.Ytlkpalaakncicaa
