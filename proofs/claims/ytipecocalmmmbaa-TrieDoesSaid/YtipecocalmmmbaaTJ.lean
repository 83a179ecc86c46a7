/- trie: the document's Delete. -/
import Derived.Test.YtipecocalmmmbaaTG
namespace Go.Proofs.Ytipecocalmmmbaa
open Go.RowKit
set_option linter.unusedVariables false
set_option linter.unusedSimpArgs false

def delO (l : List O3) (a n : Int) : List O3 := if fB l a n then l.take (fI l a n) ++ l.drop (fI l a n + 1) else l
theorem delO_o3 {L : List TE} (h : TL L) (a n : Int) : delO (L.map o3) a n = (delT L a n).map o3 := by
  have hc := cut3 h a n
  have hmap : L.map o3 = (L.filter (TE.less a n)).map o3 ++ ((atT L a n).toList ++ L.filter (TE.more a n)).map o3 := by rw [← List.map_append]; exact congrArg (List.map o3) hc
  unfold delO
  rw [fI_o3 h, fB_o3 h]
  rcases hq : atT L a n with _ | y
  · rw [if_neg (by simp), del_none h hq]
  · rw [if_pos (by simp)]
    have hl : (L.map o3).take (L.filter (TE.less a n)).length = (L.filter (TE.less a n)).map o3 := by
      rw [hmap, List.take_append_of_le_length (by rw [List.length_map]; exact Nat.le_refl _), List.take_of_length_le (by rw [List.length_map]; exact Nat.le_refl _)]
    have hr : (L.map o3).drop ((L.filter (TE.less a n)).length + 1) = (L.filter (TE.more a n)).map o3 := by
      rw [hmap, hq]
      obtain ⟨F, hF⟩ : ∃ F, (L.filter (TE.less a n)).map o3 = F := ⟨_, rfl⟩
      have hFl : (L.filter (TE.less a n)).length = F.length := by rw [← hF, List.length_map]
      rw [hF, hFl]
      simp [List.drop_append]
    rw [hl, hr]
    unfold delT
    rw [List.map_append]
theorem step_appO {ops : Array Oper} {o : Oper} {a : Act} {w : World} {K : Act → World → Prop} {Q : Exit → Act → World → Prop} {E : Prop} (hgd : o.guard = none) (s x : Operand)
    (ho : o.op = .call { callee := .builtin .append, args := #[s, x], argTypes := #[27, 27] })
    (B : Nat) (q : Option Addr) (n cap : Nat) (l : List O3) (hown : OOwn w B q n cap l) (hs : a.eval s = .slice q n cap)
    (p : Option Addr) (m c : Nat) (ys : List O3) (hy : OAt w p ys) (hm : ys.length = m) (hx : a.eval x = .slice p m c) (t : Nat) (ht : n + m = t) (h40 : t ≤ 1099511627776) (hB : B ≤ w.heap.size)
    (h : ∀ q' cap' w', Hid (OOwn w' B q' t cap' (l ++ ys)) → Hid (Below B w w') → K (a.put o.dst (.slice q' t cap')) w') :
    if Region.wanted o (yielded ops a.tmps) = true then Oper.wp Try.prog o a w K Q else E := by
  have hw : Region.wanted o (yielded ops a.tmps) = true := by simp [Region.wanted, hgd]
  rw [if_pos hw]
  subst ht
  obtain ⟨q', cap', w', hr, h2, h3⟩ := run_appO w o.type B q n cap l hown p c m ys hy hm h40 hB
  unfold Oper.wp execOp
  simp only [ho, resolve, invoke, builtin, Sem.run_bind, Sem.run_pure, Result.andThen_ok, List.map_toArray, List.map_cons, List.map_nil, hs, hx, hr]
  exact h _ _ _ (Lib.hid h2) (Lib.hid h3)
set_option maxRecDepth 100000 in
set_option maxHeartbeats 16000000 in
theorem rdel_any (w : World) (x : Nat) (l : List O3) (pa pn : Int) (h : RfAt w x l) (hn : l.length ≤ 1000) :
    Calls Try.prog 13 #[.pointer (some ⟨x, 0, none⟩), .agg #[.int .u32 pa, .int .i64 pn]] w fun e w' => e = .returned (.bool (fB l pa pn)) ∧ RfAt w' x (delO l pa pn) ∧ Turns (fun k => k = x) w w' := by
  obtain ⟨B, q, n, c, hx, ho⟩ := h.is
  have hn : n ≤ 1000 := by rw [← ho.len]; exact hn
  have HA := Lib.hid (newB w (.cells #[.int .u32 pa, .int .i64 pn] 32))
  have hX := Blk.new w 32 [.int .u32 pa, .int .i64 pn]
  obtain ⟨V, hV⟩ : ∃ V, w.alloc (.cells #[.int .u32 pa, .int .i64 pn] 32) = V := ⟨_, rfl⟩
  obtain ⟨P, hP⟩ : ∃ P, w.heap.size = P := ⟨_, rfl⟩
  have hX : Blk V P 32 [.int .u32 pa, .int .i64 pn] := hP ▸ hV ▸ hX
  rw [hV] at HA
  have HB := Lib.hid hx
  have HO := Lib.hid ho
  have HV := Lib.hid hV
  have HP := Lib.hid hP
  have q0 : V.cell? ⟨P, 0, none⟩ = some (.int .u32 pa) := hX.cell 0 (by simp)
  have q1 : V.cell? ⟨P, 1, none⟩ = some (.int .i64 pn) := hX.cell 1 (by simp)
  have HFI := Lib.hid (find_any V x q n c l pa pn (kept HA.out (hx.cell 0 (by simp))) ho.len (ho.at.below HA.out) hn)
  clear hX hV hP hx ho h
  go_enter Try.func13, Try.ntmps13
  go_wp2_with fail
  rw [HV.out, HP.out]
  refine HFI.out.mono ?_
  rintro e w3 ⟨rfl, hb⟩
  have HB3 := Lib.hid (HA.out.trans (hb.mono HA.out.size))
  obtain ⟨i, hi⟩ : ∃ i, fI l pa pn = i := ⟨_, rfl⟩
  obtain ⟨f, hf⟩ : ∃ f, fB l pa pn = f := ⟨_, rfl⟩
  have HF := Lib.hid hf
  have HLT := Lib.hid (fun h : fB l pa pn = true => (HO.out.len ▸ fB_lt h : fI l pa pn < n))
  have HDO := Lib.hid (show delO l pa pn = if f then l.take i ++ l.drop (i + 1) else l by unfold delO; rw [hi, hf])
  rw [hi, hf] at HLT
  rw [hi, hf]
  clear hi hf hb q0 q1
  rcases f with _ | _
  · go_wp2_with fail
    go_ret
    exact ⟨by rw [HF.out]; rfl, ⟨_, _, _, _, HB.out.next HB3.out, by rw [HDO.out, if_neg (by decide)]; exact HO.out.below HB3.out⟩, .of_below HB3.out⟩
  have hin : i < n := HLT.out rfl
  obtain ⟨W3, hW3⟩ : ∃ W, w3.drew = W := ⟨_, rfl⟩
  have hb33 : Below w3.heap.size w3 W3 := hW3 ▸ (Below.refl _ _).drew
  have HB3' := Lib.hid (HB3.out.trans (hb33.mono HB3.out.size))
  have X0 : W3.cell? ⟨x, 0, none⟩ = some (.slice q n c) := (HB.out.next HB3'.out).cell 0 (by simp)
  have x0 : (W3.alloc (.cells #[] 78)).cell? ⟨x, 0, none⟩ = some (.slice q n c) := (HB.out.next (HB3'.out.alloc HB3'.out.size _)).cell 0 (by simp)
  have x00 : (w3.alloc (.cells #[] 78)).drew.cell? ⟨x, 0, none⟩ = some (.slice q n c) := by rw [← hW3] at x0; exact x0
  have HO4 := Lib.hid (OOwn.lit0 W3 W3.heap.size (Nat.le_refl _))
  have HB4 := Lib.hid (show Below W3.heap.size W3 (W3.alloc (.cells #[] 78)) from newB _ _)
  have HX30 := Lib.hid (show ∀ U : World, Below W3.heap.size W3 U → U.cell? ⟨x, 0, none⟩ = some (.slice q n c) from fun U hU => ((HB.out.next HB3'.out).next hU).cell 0 (by simp))
  have HOA := Lib.hid (HO.out.at.below HB3'.out)
  have hlen := HO.out.len
  have hc1 := HO.out.cap.1
  have hc2 := HO.out.cap.2
  rcases HO.out.form with ⟨rfl, rfl, rfl, rfl⟩ | ⟨g, rfl⟩
  · omega
  have i0 : (0 : Int) ≤ (i : Int) := by omega
  have i1 : (i : Int) ≤ (c : Int) := by omega
  have i2 : (i : Int) ≤ (n : Int) := by omega
  have i3 : (i : Int) + 1 ≤ (n : Int) := by omega
  have i4 : (i : Int) + 1 ≤ (c : Int) := by omega
  have i5 : (i : Int) + 1 ≤ 1000 := by omega
  have i6 : IntKind.i64.wrap ((i : Int) + 1) = (i : Int) + 1 := by rw [IntKind.wrap_i64]; omega
  have i7 : (i : Int) ≤ (i : Int) + 1 := by omega
  have i8 : (0 : Int) ≤ (i : Int) + 1 := by omega
  have HTK := Lib.hid ((HOA.out.below HB4.out).take i)
  have HTL := Lib.hid (show (l.take i).length = i by rw [List.length_take, hlen]; omega)
  have HDL := Lib.hid (show (l.drop (i + 1)).length = n - (i + 1) by rw [List.length_drop, hlen])
  clear hb33 hlen
  by_cases hci : c = (i + 1)
  · subst hci
    obtain rfl : n = i + 1 := by omega
    have HDL := Lib.hid (show (l.drop (i + 1)).length = 0 by have := HDL.out; omega)
    have HDR := Lib.hid (show ∀ U : World, Below W3.heap.size W3 U → OAt U (some ⟨g, 0, none⟩) (l.drop (i + 1)) from fun U hU => .inl (List.drop_eq_nil_of_le (by have := HO.out.len; omega)))
    subst hW3
    go_wp2_with fail
    go_region_law (first
      | (refine step_appO (o := ⟨some 22, _, _, _, _, _⟩) rfl (.tmp 15) (.tmp 21) rfl w3.drew.heap.size _ _ _ _ HO4.out rfl (some ⟨g, 0, none⟩) i _ (l.take i) HTK.out HTL.out rfl i ?b1 ?b2 HB4.out.size ?_; (case b1 => omega); (case b2 => omega); intro q5 c5 w5 h5 b5; have HB5 := Lib.hid (HB4.out.trans b5.out); have y0 := HX30.out w5 HB5.out; clear x0 x00 X0)
      | (refine step_appO (o := ⟨some 30, _, _, _, _, _⟩) rfl (.tmp 22) (.tmp 29) rfl w3.drew.heap.size _ _ _ _ h5.out rfl (some ⟨g, 0, none⟩) 0 _ (l.drop (i + 1)) (HDR.out w5 HB5.out) HDL.out rfl i ?b1 ?b2 HB5.out.size ?_; (case b1 => omega); (case b2 => omega); intro q7 c7 w7 h7 b7; have HB7 := Lib.hid (HB5.out.trans b7.out); have z0 := HX30.out w7 HB7.out; have hf := ((HB.out.next HB3'.out).next HB7.out).f 0))
    all_goals (go_wp2_with fail)
    all_goals go_ret
    all_goals exact ⟨by rw [HF.out]; rfl, rset_end HB.out HB3'.out HB7.out h7.out (by rw [HDO.out]; simp)⟩
  · have hic : (i + 1) < c := by omega
    have HDR := Lib.hid (show ∀ U : World, Below W3.heap.size W3 U → OAt U (some ⟨g, (i + 1) * 3, none⟩) (l.drop (i + 1)) from fun U hU => by
      have := (HOA.out.below hU).drop (i + 1)
      rw [Nat.zero_add] at this
      exact this)
    subst hW3
    go_wp2_with fail
    go_region_law (first
      | (refine step_appO (o := ⟨some 22, _, _, _, _, _⟩) rfl (.tmp 15) (.tmp 21) rfl w3.drew.heap.size _ _ _ _ HO4.out rfl (some ⟨g, 0, none⟩) i _ (l.take i) HTK.out HTL.out rfl i ?b1 ?b2 HB4.out.size ?_; (case b1 => omega); (case b2 => omega); intro q5 c5 w5 h5 b5; have HB5 := Lib.hid (HB4.out.trans b5.out); have y0 := HX30.out w5 HB5.out; clear x0 x00 X0)
      | (refine step_appO (o := ⟨some 30, _, _, _, _, _⟩) rfl (.tmp 22) (.tmp 29) rfl w3.drew.heap.size _ _ _ _ h5.out rfl (some ⟨g, (i + 1) * 3, none⟩) (n - (i + 1)) _ (l.drop (i + 1)) (HDR.out w5 HB5.out) HDL.out rfl (i + (n - (i + 1))) ?b1 ?b2 HB5.out.size ?_; (case b1 => omega); (case b2 => omega); intro q7 c7 w7 h7 b7; have HB7 := Lib.hid (HB5.out.trans b7.out); have z0 := HX30.out w7 HB7.out; have hf := ((HB.out.next HB3'.out).next HB7.out).f 0))
    all_goals (go_wp2_with fail)
    all_goals go_ret
    all_goals exact ⟨by rw [HF.out]; rfl, rset_end HB.out HB3'.out HB7.out h7.out (by rw [HDO.out]; simp)⟩
end Go.Proofs.Ytipecocalmmmbaa
