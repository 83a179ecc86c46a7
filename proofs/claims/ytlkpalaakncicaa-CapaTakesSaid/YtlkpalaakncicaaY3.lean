/- capa: a table in memory; New; whether all are known. / capa: Take. / capa: Take. -/
import Derived.Test.YtlkpalaakncicaaY2
namespace Go.Proofs.Ytlkpalaakncicaa
open Go.RowKit Go.Maps
set_option linter.unusedVariables false
set_option linter.unusedSimpArgs false
set_option maxRecDepth 100000

/-- How a source was heard last. -/
structure Sr where
  intro ::
  q : Int
  a : Int
  h : Bool
def srC (x : Sr) : List Value := [.int .i64 x.q, .int .i64 x.a, .bool x.h]
abbrev CAf : TypeId := 99
theorem ne_cap : HPf ≠ CAf ∧ TRf ≠ CAf ∧ NDf ≠ CAf ∧ THf ≠ CAf := by decide
def capC (h mb : Nat) (S : Nat → Sr) : List Value := [.pointer (some ⟨h, 0, none⟩), .map (some mb)] ++ (List.range 16).flatMap fun i => srC (S i)
theorem flat3 (S : Nat → Sr) : ∀ (n i j : Nat), i < n → j < 3 → ((List.range n).flatMap fun i => srC (S i))[i * 3 + j]? = (srC (S i))[j]?
  | 0, i, j, h, _ => absurd h (Nat.not_lt_zero _)
  | n + 1, i, j, h, hj => by
    have hlen : ∀ n, ((List.range n).flatMap fun i => srC (S i)).length = n * 3 := fun n => by
      induction n with
      | zero => rfl
      | succ n ih => rw [List.range_succ, List.flatMap_append, List.length_append, ih]; simp [srC]; omega
    rw [List.range_succ, List.flatMap_append]
    by_cases e : i < n
    · rw [List.getElem?_append_left (by rw [hlen]; omega)]
      exact flat3 S n i j e hj
    · obtain rfl : i = n := by omega
      rw [List.getElem?_append_right (by rw [hlen]; omega), hlen, show i * 3 + j - i * 3 = j by omega]
      simp
theorem flat3_len (S : Nat → Sr) (n : Nat) : ((List.range n).flatMap fun i => srC (S i)).length = n * 3 := by
  induction n with
  | zero => rfl
  | succ n ih => rw [List.range_succ, List.flatMap_append, List.length_append, ih]; simp [srC]; omega
theorem capC_len (h mb : Nat) (S : Nat → Sr) : (capC h mb S).length = 50 := by
  unfold capC; rw [List.length_append, flat3_len]; rfl
theorem capC_get (h mb : Nat) (S : Nat → Sr) (i j : Nat) (hi : i < 16) (hj : j < 3) : (capC h mb S)[2 + i * 3 + j]? = (srC (S i))[j]? := by
  unfold capC
  rw [List.getElem?_append_right (by simp; omega), show 2 + i * 3 + j - [Value.pointer (some ⟨h, 0, none⟩), .map (some mb)].length = i * 3 + j by simp; omega]
  exact flat3 S 16 i j hi hj
def setS (S : Nat → Sr) (i : Nat) (x : Sr) : Nat → Sr := fun k => if k = i then x else S k
theorem capC_set (h mb : Nat) (S : Nat → Sr) (i : Nat) (hi : i < 16) (x : Sr) : (((capC h mb S).set (2 + i * 3) (.int .i64 x.q)).set (2 + i * 3 + 1) (.int .i64 x.a)).set (2 + i * 3 + 2) (.bool x.h) = capC h mb (setS S i x) := by
  apply List.ext_getElem?
  intro k
  have hl := capC_len h mb S
  have hl2 := capC_len h mb (setS S i x)
  by_cases hk : k < 50
  · by_cases h2 : k < 2
    · rw [List.getElem?_set_ne (by omega), List.getElem?_set_ne (by omega), List.getElem?_set_ne (by omega)]
      unfold capC
      rw [List.getElem?_append_left (by simpa using h2), List.getElem?_append_left (by simpa using h2)]
    · have hq : (k - 2) / 3 < 16 := by omega
      have hr : (k - 2) % 3 < 3 := by omega
      have e : k = 2 + (k - 2) / 3 * 3 + (k - 2) % 3 := by omega
      have g1 := capC_get h mb S _ _ hq hr
      have g2 := capC_get h mb (setS S i x) _ _ hq hr
      rw [← e] at g1 g2
      rw [g2]
      by_cases ei : (k - 2) / 3 = i
      · have h3 : (k - 2) % 3 = 0 ∨ (k - 2) % 3 = 1 ∨ (k - 2) % 3 = 2 := by omega
        have hs : setS S i x ((k - 2) / 3) = x := by unfold setS; rw [if_pos ei]
        rw [hs]
        rcases h3 with h3 | h3 | h3 <;> rw [h3]
        · rw [List.getElem?_set_ne (by omega), List.getElem?_set_ne (by omega), show 2 + i * 3 = k by omega, List.getElem?_set_self (by omega)]; rfl
        · rw [List.getElem?_set_ne (by omega), show 2 + i * 3 + 1 = k by omega, List.getElem?_set_self (by simp; omega)]; rfl
        · rw [show 2 + i * 3 + 2 = k by omega, List.getElem?_set_self (by simp; omega)]; rfl
      · have hs : setS S i x ((k - 2) / 3) = S ((k - 2) / 3) := by unfold setS; rw [if_neg ei]
        rw [hs, List.getElem?_set_ne (by omega), List.getElem?_set_ne (by omega), List.getElem?_set_ne (by omega), g1]
  · rw [List.getElem?_eq_none (by simp; omega), List.getElem?_eq_none (by omega)]
abbrev MapC (w : World) (b n s : Nat) (f : Int → Option Cy) : Prop := MapAt keyIntC elCyC w b n s f
theorem HopAt.kept {w w' : World} {B h b : Nat} {F : Nat → TrF} {l : List Ifc} (H : HopAt w B h b F l)
    (hb : ∀ k, k < w.heap.size → (k = b ∨ ∃ T vs, (T = HPf ∨ T = TRf ∨ T = NDf ∨ T = THf) ∧ Blk w k T vs) → w'.heap[k]? = w.heap[k]?) : HopAt w' B h b F l := by
  refine ⟨⟨H.hb.blk.of_same (hb h H.hb.blk.lt (.inr ⟨_, _, .inl rfl, H.hb.blk⟩)), fun i hi => (H.hb.tr i hi).kept fun k hk hin => hb k hk (.inr ?_), H.hb.dis, H.hb.bh⟩, ?_, H.trs, H.len, H.bb⟩
  · rcases hin with hin | ⟨e, he, rfl⟩
    · obtain ⟨T, vs, hT, hv⟩ := (H.hb.tr i hi).cells hin
      exact ⟨T, vs, .inr (hT.elim .inl (fun h => .inr (.inl h))), hv⟩
    · exact ⟨_, _, .inr (.inr (.inr rfl)), ((H.hb.tr i hi).thing e he).2.1⟩
  · obtain ⟨D, hm, hr⟩ := H.map
    refine ⟨D, ?_, hr⟩
    have hlt := hm.lt
    obtain ⟨es, cl, hh, r⟩ := hm
    exact ⟨es, cl, (hb b hlt (.inl rfl)).trans hh, r⟩
theorem HopAt.mapHeap {w : World} {B h b : Nat} {F : Nat → TrF} {l : List Ifc} (H : HopAt w B h b F l) : ∃ es c, w.heap[b]? = some (.map es c) := by
  obtain ⟨D, hm, _⟩ := H.map
  exact heap_of_map hm
/-- A Capa. -/
structure CapAt (w : World) (B c h b mb nn : Nat) (F : Nat → TrF) (l : List Ifc) (f : Int → Option Cy) (S : Nat → Sr) : Prop where
  intro ::
  hop : HopAt w B h b F l
  blk : Blk w c CAf (capC h mb S)
  map : ∃ s, MapC w mb nn s f
  ne : mb ≠ b
  bc : B ≤ c
  bm : B ≤ mb
section
variable {w w' : World} {B c h b mb nn : Nat} {F : Nat → TrF} {l : List Ifc} {f : Int → Option Cy} {S : Nat → Sr}
theorem CapAt.below (H : CapAt w B c h b mb nn F l f S) (hb : Below w.heap.size w w') : CapAt w' B c h b mb nn F l f S :=
  ⟨H.hop.below hb, H.blk.next hb, H.map.imp fun _ hm => hm.next hb, H.ne, H.bc, H.bm⟩
theorem CapAt.tab (H : CapAt w B c h b mb nn F l f S) : w.cell? ⟨c, 0, none⟩ = some (.pointer (some ⟨h, 0, none⟩)) := H.blk.cellAt rfl
theorem CapAt.said (H : CapAt w B c h b mb nn F l f S) : w.cell? ⟨c, 1, none⟩ = some (.map (some mb)) := H.blk.cellAt rfl
theorem CapAt.sr (H : CapAt w B c h b mb nn F l f S) {i : Nat} (hi : i < 16) : w.cell? ⟨c, 2 + i * 3, none⟩ = some (.int .i64 (S i).q) ∧ w.cell? ⟨c, 2 + i * 3 + 1, none⟩ = some (.int .i64 (S i).a) ∧ w.cell? ⟨c, 2 + i * 3 + 2, none⟩ = some (.bool (S i).h) :=
  ⟨H.blk.cellAt (capC_get h mb S i 0 hi (by omega)), H.blk.cellAt (capC_get h mb S i 1 hi (by omega)), H.blk.cellAt (capC_get h mb S i 2 hi (by omega))⟩
/-- Its map turns. -/
theorem CapAt.mapTurn (H : CapAt w B c h b mb nn F l f S) (hg : w.grownBy w' (some mb)) {nn' s' : Nat} {f' : Int → Option Cy} (hm : MapC w' mb nn' s' f') : CapAt w' B c h b mb nn' F l f' S := by
  obtain ⟨s, hm0⟩ := H.map
  obtain ⟨es, cl, hh⟩ := hm0.heap
  refine ⟨H.hop.kept fun k hk hc => hg.block k hk ?_, H.blk.of_same (hg.block c H.blk.lt (fun e => H.blk.notMap hh (by simpa using e))), ⟨s', hm⟩, H.ne, H.bc, H.bm⟩
  intro e
  have e : k = mb := by simpa using e
  rcases hc with rfl | ⟨T, vs, _, hv⟩
  · exact H.ne e.symm
  · exact hv.notMap hh e
/-- A source is heard. -/
theorem CapAt.heard (H : CapAt w B c h b mb nn F l f S) {i : Nat} (hi : i < 16) (x : Sr) :
    CapAt (((w.setCell ⟨c, 2 + i * 3, none⟩ (.int .i64 x.q)).setCell ⟨c, 2 + i * 3 + 1, none⟩ (.int .i64 x.a)).setCell ⟨c, 2 + i * 3 + 2, none⟩ (.bool x.h)) B c h b mb nn F l f (setS S i x) := by
  have hs := ((H.blk.set (2 + i * 3) (.int .i64 x.q)).set (2 + i * 3 + 1) (.int .i64 x.a)).set (2 + i * 3 + 2) (.bool x.h)
  rw [capC_set h mb S i hi x] at hs
  have hk : ∀ k, k ≠ c → (((w.setCell ⟨c, 2 + i * 3, none⟩ (.int .i64 x.q)).setCell ⟨c, 2 + i * 3 + 1, none⟩ (.int .i64 x.a)).setCell ⟨c, 2 + i * 3 + 2, none⟩ (.bool x.h)).heap[k]? = w.heap[k]? := fun k hk => by
    rw [Below.heap_setCell _ _ _ k hk, Below.heap_setCell _ _ _ k hk, Below.heap_setCell _ _ _ k hk]
  obtain ⟨s, hm⟩ := H.map
  obtain ⟨es, cl, hh⟩ := hm.heap
  obtain ⟨es2, cl2, hh2⟩ := H.hop.mapHeap
  refine ⟨H.hop.kept fun k _ hc => hk k ?_, hs, ⟨s, hm.of_same (hk mb (fun e => H.blk.notMap hh e.symm))⟩, H.ne, H.bc, H.bm⟩
  intro e
  subst e
  rcases hc with rfl | ⟨T, vs, hT, hv⟩
  · exact H.blk.notMap hh2 rfl
  · have e := H.blk.type hv
    have hn := ne_cap
    rcases hT with rfl | rfl | rfl | rfl
    · exact hn.1 e.symm
    · exact hn.2.1 e.symm
    · exact hn.2.2.1 e.symm
    · exact hn.2.2.2 e.symm
end
def S0 : Nat → Sr := fun _ => ⟨0, 0, false⟩
theorem cnew_nil (w : World) : Calls Try.prog 20 #[.pointer none] w fun e w' => e = .returned (.tuple #[.pointer none, .int .i64 1]) ∧ Below w.heap.size w w' := by
  go_enter Try.func20, Try.ntmps20
  go_wp2
  exact bodyPost_ret (v := .tuple #[.pointer none, .int .i64 1]) (by simp [results, Try.results20, go_sem]) rfl ⟨rfl, Below.refl _ _⟩
theorem cnew_any (w : World) (B h b : Nat) (F : Nat → TrF) (l : List Ifc) (H : HopAt w B h b F l) (hB : B ≤ w.heap.size) :
    Calls Try.prog 20 #[.pointer (some ⟨h, 0, none⟩)] w fun e w' => ∃ c mb, e = .returned (.tuple #[.pointer (some ⟨c, 0, none⟩), .int .i64 0]) ∧ CapAt w' B c h b mb 0 F l (fun _ => none) S0 ∧ Below w.heap.size w w' := by
  have hmm := @run_makeMap Try.prog
  have H0 := Lib.hid H
  have hb1 := newB w (.map #[] 0)
  have HM := Lib.hid (MapAt.fresh keyIntC elCyC w)
  have hcc : capC h w.heap.size S0 = (.pointer (some ⟨h, 0, none⟩) :: .map (some w.heap.size) :: (List.replicate 16 [Value.int .i64 0, .int .i64 0, .bool false]).flatten) := rfl
  have hX := Blk.new (w.alloc (.map #[] 0)) CAf (capC h w.heap.size S0)
  rw [sz_alloc] at hX
  have hb2 := newB (w.alloc (.map #[] 0)) (.cells (capC h w.heap.size S0).toArray CAf)
  have HC := Lib.hid (show CapAt ((w.alloc (.map #[] 0)).alloc (.cells (capC h w.heap.size S0).toArray CAf)) B (w.heap.size + 1) h b w.heap.size 0 F l (fun _ => none) S0 ∧ Below w.heap.size w ((w.alloc (.map #[] 0)).alloc (.cells (capC h w.heap.size S0).toArray CAf)) from ⟨⟨(H.below hb1).below hb2, hX, ⟨0, HM.out.next hb2⟩, (fun e => by
    obtain ⟨es, cl, hh⟩ := H.mapHeap
    have := (Array.getElem?_eq_some_iff.1 hh).1
    omega), by omega, hB⟩, hb1.trans (hb2.mono hb1.size)⟩)
  rw [hcc] at HC
  clear hX hb1 hb2 hcc H
  go_enter Try.func20, Try.ntmps20
  go_wp2
  exact bodyPost_ret (v := .tuple #[.pointer (some ⟨w.heap.size + 1, 0, none⟩), .int .i64 0]) (by simp [results, Try.results20, go_sem]) rfl ⟨_, _, rfl, HC.out⟩
theorem cclosed_any (w : World) (c h : Nat) (hc : w.cell? ⟨c, 0, none⟩ = some (.pointer (some ⟨h, 0, none⟩))) :
    Calls Try.prog 49 #[.pointer (some ⟨c, 0, none⟩)] w fun e w' => e = .returned (.bool false) ∧ w = w' := by
  go_enter Try.func49, Try.ntmps49
  go_wp2
  go_ret
  exact ⟨rfl, rfl⟩
theorem cclosed_nil (w : World) :
    Calls Try.prog 49 #[.pointer none] w fun e w' => e = .returned (.bool true) ∧ w = w' := by
  go_enter Try.func49, Try.ntmps49
  go_wp2
  go_ret
  exact ⟨rfl, rfl⟩
def strangeC (l : List Ifc) (y : Cy) : Bool := (byId l y.i).isNone
set_option maxHeartbeats 4000000 in
theorem cstrange_any (w : World) (g B c h b mb nn : Nat) (F : Nat → TrF) (l : List Ifc) (f : Int → Option Cy) (S : Nat → Sr) (H : CapAt w B c h b mb nn F l f S) (y : Cy) (hy : InCy y) (hg : w.cell? ⟨g, 0, none⟩ = some (.pointer (some ⟨c, 0, none⟩))) :
    Calls Try.prog 50 #[cyV y, .pointer (some ⟨g, 0, none⟩)] w fun e w' => e = .returned (.bool (strangeC l y)) ∧ Below w.heap.size w w' := by
  obtain ⟨yi, yc, yd⟩ := y
  unfold InCy at hy
  dsimp only at hy
  have hs : strangeC l ⟨yi, yc, yd⟩ = !(byId l yi).isSome := by unfold strangeC; cases byId l yi <;> rfl
  rw [hs]
  obtain ⟨⟨x0, x1, x2, x3, x4⟩, hx⟩ : ∃ x, (byId l yi).getD Ifc.zero = x := ⟨_, rfl⟩
  obtain ⟨bs, hbs⟩ : ∃ x, (byId l yi).isSome = x := ⟨_, rfl⟩
  rw [hbs]
  obtain ⟨P, hP⟩ : ∃ P, w.heap.size = P := ⟨_, rfl⟩
  obtain ⟨V, hV⟩ : ∃ V, w.alloc (.cells #[.int .i64 yi, .int .i64 yc, .bool yd] 67) = V := ⟨_, rfl⟩
  have hb0 := newB w (.cells #[.int .i64 yi, .int .i64 yc, .bool yd] 67)
  have hX := Blk.new w 67 [.int .i64 yi, .int .i64 yc, .bool yd]
  rw [hV] at hb0 hX
  have HB0 := Lib.hid hb0
  have HVE := Lib.hid hV
  have HPE := Lib.hid hP
  rw [hP] at hX
  have HI := Lib.hid (fun (U : World) (hU : Below V.heap.size V U) => show Calls Try.prog 13 #[.pointer (some ⟨h, 0, none⟩), .int .i64 yi] U fun e w' => e = .returned (.tuple #[.agg #[.int .i64 x0, .int .i64 x1, .int .u32 x2, .int .i64 x3, .int .i64 x4], .bool bs]) ∧ Below U.heap.size U w' from by
    have h1 := hiface_any U B h b F l ((H.hop.below hb0).below hU) yi hy
    rw [hx, hbs] at h1
    exact h1)
  have HS := Lib.hid (fun (U : World) (hU : Below V.heap.size V U) => show U.cell? ⟨g, 0, none⟩ = some (.pointer (some ⟨c, 0, none⟩)) ∧ U.cell? ⟨c, 0, none⟩ = some (.pointer (some ⟨h, 0, none⟩)) ∧ U.cell? ⟨P, 0, none⟩ = some (.int .i64 yi) from ⟨kept hU (kept hb0 hg), kept hU (kept hb0 H.tab), (hX.next hU).cell 0 (by simp)⟩)
  have BD : Hid (Below V.heap.size V V.drew) := Lib.hid (Below.refl _ _).drew
  have BX : Hid (Below V.heap.size V (V.alloc (.cells #[.int .i64 0, .int .i64 0, .int .u32 0, .int .i64 0, .int .i64 0] 34)).drew) := Lib.hid (newB V _).drew
  have BZ : Hid (Blk (V.alloc (.cells #[.int .i64 0, .int .i64 0, .int .u32 0, .int .i64 0, .int .i64 0] 34)).drew V.heap.size 34 [.int .i64 0, .int .i64 0, .int .u32 0, .int .i64 0, .int .i64 0]) := Lib.hid (Blk.new V _ _)
  have hS := HS.out _ BD.out
  clear hs hx hbs hV hb0 hX hg H hP
  go_enter Try.func50, Try.ntmps50
  go_wp2_with fail
  rw [HVE.out, HPE.out]
  go_region_held_law (fun W => W.cell? ⟨g, 0, none⟩ = some (.pointer (some ⟨c, 0, none⟩)) ∧ W.cell? ⟨c, 0, none⟩ = some (.pointer (some ⟨h, 0, none⟩)) ∧ W.cell? ⟨P, 0, none⟩ = some (.int .i64 yi)) (first | with_reducible assumption | exact HS.out _ (Below.alloc BB.out BB.out.size _) | exact HS.out _ (below_five BB.out (Nat.le_refl _) _ _ _ _ _) | exact HS.out _ BX.out | exact HS.out _ ((Below.refl _ _).drew.alloc (Nat.le_refl _) _)) (first
    | (go_at_call 13; (with_reducible refine (HI.out _ (by with_reducible exact BD.out)).mono ?_); rintro e v ⟨rfl, hb⟩; have BB := Lib.hid (BD.out.trans (hb.mono BD.out.size)); have hS := HS.out _ BB.out; clear hb)
    | (go_at_call 13; (with_reducible refine (HI.out _ (by with_reducible exact BX.out)).mono ?_); rintro e v ⟨rfl, hb⟩; have BB := Lib.hid (BX.out.trans (hb.mono BX.out.size)); have hS := HS.out _ BB.out; have HZ := Lib.hid (BZ.out.next hb); have z0 := HZ.out.cell 0 (by simp); have z1 := HZ.out.cell 1 (by simp); have z2 := HZ.out.cell 2 (by simp); have z3 := HZ.out.cell 3 (by simp); have z4 := HZ.out.cell 4 (by simp); have f0 := HZ.out.f 0; have f1 := HZ.out.f 1; have f2 := HZ.out.f 2; have f3 := HZ.out.f 3; have f4 := HZ.out.f 4; clear hb))
  all_goals
    clear hS
    go_wp2_with fail
    go_ret
    first
      | exact ⟨rfl, HB0.out.trans ((Below.alloc BB.out BB.out.size _).mono HB0.out.size)⟩
      | exact ⟨rfl, HB0.out.trans ((below_five BB.out (Nat.le_refl _) _ _ _ _ _).mono HB0.out.size)⟩
end Go.Proofs.Ytlkpalaakncicaa
namespace Go.Proofs.Ytlkpalaakncicaa
open Go.RowKit Go.Maps
set_option linter.unusedVariables false
set_option linter.unusedSimpArgs false
set_option maxRecDepth 100000

def IdxB (b : Bool) (e : Ending) : Prop := ∃ i : Int, e = .returned (.int .i64 i) ∧ decide (0 ≤ i) = b
theorem any_snocS (q : Cy → Bool) (l : List Cy) (k : Nat) (hk : k < l.length) : (l.take (k + 1)).any q = ((l.take k).any q || q (l.getD k Cy.zero)) := by
  rw [List.take_add_one, List.any_append]
  simp [List.getD, hk]
theorem any_restS (q : Cy → Bool) (l : List Cy) (k : Nat) (hk : k < l.length) (h : q (l.getD k Cy.zero) = true) : l.any q = true := by
  rw [List.any_eq_true]
  exact ⟨_, by simp [List.getD, hk], h⟩
set_option maxHeartbeats 4000000 in
theorem csindex_any (g B c h b mb nn : Nat) (F : Nat → TrF) (l : List Ifc) (f : Int → Option Cy) (S : Nat → Sr) (p : Option Addr) (L : List Cy) (n c' : Nat) (w : World) (hl : CysAt w p L) (hn : L.length = n) (hm : n ≤ 256) (H : CapAt w B c h b mb nn F l f S) (hg : w.cell? ⟨g, 0, none⟩ = some (.pointer (some ⟨c, 0, none⟩))) :
    Calls Try.prog 65 #[.slice p n c', .func (.func 50) #[] #[.pointer (some ⟨g, 0, none⟩)]] w fun e w' => IdxB (L.any (strangeC l)) e ∧ Below w.heap.size w w' := by
  have HL := Lib.hid hl
  have HN := Lib.hid hn
  have HG := Lib.hid hg
  have HK := Lib.hid H
  clear hl hn hg H
  go_enter Try.func65, Try.ntmps65
  go_wp2
  go_loopw [8] (fun i wr => ∃ k : Nat, k ≤ n ∧ i = .int .i64 k ∧ (L.take k).any (strangeC l) = false ∧ Below w.heap.size w wr) (fun i _ => n - (intOf i).toNat)
  case atStart => exact ⟨0, Nat.zero_le _, rfl, rfl, Below.refl _ _⟩
  case round =>
    obtain ⟨k, hk, rfl, hd, hb⟩ := hrel
    have HD := Lib.hid hd
    have HB := Lib.hid hb
    have HLW := Lib.hid (HL.out.below hb)
    have HKW := Lib.hid (HK.out.below hb)
    have HGW := Lib.hid (kept hb HG.out)
    clear hd hb
    by_cases hlt : k < n
    · have hlt' : (k : Int) < (n : Int) := by omega
      have hin := HLW.out.in_ HN.out hlt
      obtain ⟨b', off, rfl, c0, c1, c2⟩ := cy_cell HLW.out HN.out hlt
      have hkl : k < L.length := by rw [HN.out]; exact hlt
      have HST := Lib.hid (any_snocS (strangeC l) L k hkl)
      have HRE := Lib.hid (any_restS (strangeC l) L k hkl)
      obtain ⟨x, hx⟩ : ∃ x, L.getD k Cy.zero = x := ⟨_, rfl⟩
      rw [hx] at c0 c1 c2 HST HRE hin
      have HC := Lib.hid (cstrange_any wr g B c h b mb nn F l f S HKW.out x hin HGW.out)
      obtain ⟨o, ho⟩ : ∃ o, strangeC l x = o := ⟨_, rfl⟩
      rw [ho] at HC HST HRE
      obtain ⟨xi, xc, xd⟩ := x
      dsimp only at c0 c1 c2
      clear hx ho hin
      rcases o with _ | _
      · go_wp2_with (go_at_call 50; refine HC.out.mono ?_; rintro e w2 ⟨rfl, hb2⟩)
        go_roundw
        case rel => exact ⟨k + 1, by omega, by go_num, by rw [HST.out, HD.out]; rfl, HB.out.trans (hb2.mono HB.out.size)⟩
        case measure => simp [intOf]; omega
      · go_wp2_with (go_at_call 50; refine HC.out.mono ?_; rintro e w2 ⟨rfl, hb2⟩)
        go_ret
        exact ⟨⟨k, rfl, by rw [show L.any (strangeC l) = true by first | exact HRE.out rfl | exact HRE.out trivial]; simp⟩, HB.out.trans (hb2.mono HB.out.size)⟩
    · obtain rfl : k = n := by omega
      go_wp2
      go_ret
      refine ⟨⟨-1, rfl, ?_⟩, HB.out⟩
      have := HD.out
      rw [List.take_of_length_le (by rw [HN.out]; exact Nat.le_refl _)] at this
      rw [this]; rfl
theorem cscontains_any (g B c h b mb nn : Nat) (F : Nat → TrF) (l : List Ifc) (f : Int → Option Cy) (S : Nat → Sr) (p : Option Addr) (L : List Cy) (n c' : Nat) (w : World) (hl : CysAt w p L) (hn : L.length = n) (hm : n ≤ 256) (H : CapAt w B c h b mb nn F l f S) (hg : w.cell? ⟨g, 0, none⟩ = some (.pointer (some ⟨c, 0, none⟩))) :
    Calls Try.prog 48 #[.slice p n c', .func (.func 50) #[] #[.pointer (some ⟨g, 0, none⟩)]] w fun e w' => e = .returned (.bool (L.any (strangeC l))) ∧ Below w.heap.size w w' := by
  have HI := Lib.hid (csindex_any g B c h b mb nn F l f S p L n c' w hl hn hm H hg)
  clear hl hn hm hg H
  go_enter Try.func48, Try.ntmps48
  go_wp2_with fail
  refine HI.out.mono ?_; rintro e w1 ⟨⟨i, rfl, hi'⟩, hb⟩
  have HD := Lib.hid hi'
  have HB := Lib.hid hb
  clear hi' hb
  go_wp2_with fail
  go_ret
  exact ⟨ret_bool HD.out, HB.out⟩
end Go.Proofs.Ytlkpalaakncicaa
namespace Go.Proofs.Ytlkpalaakncicaa
open Go.RowKit Go.Maps
set_option linter.unusedVariables false
set_option linter.unusedSimpArgs false
set_option maxRecDepth 100000

/-- What Take answers. -/
def takeE (l : List Ifc) (S : Nat → Sr) (src seq : Int) (L : List Cy) (now : Int) : Int :=
  if !(okCar src seq L && isCap now) then 1 else if L.any (strangeC l) then 4 else if (S src.toNat).h && decide (seq ≤ (S src.toNat).q) then 170 else 0
def setC (f : Int → Option Cy) (L : List Cy) : Int → Option Cy := L.foldl (fun f y => putF f y.i y) f
theorem setC_snoc (f : Int → Option Cy) (L : List Cy) (k : Nat) (hk : k < L.length) : setC f (L.take (k + 1)) = putF (setC f (L.take k)) (L.getD k Cy.zero).i (L.getD k Cy.zero) := by
  unfold setC
  rw [List.take_add_one, List.foldl_append]
  simp [List.getD, hk]
def takeF (l : List Ifc) (S : Nat → Sr) (f : Int → Option Cy) (src seq : Int) (L : List Cy) (now : Int) : Int → Option Cy := if takeE l S src seq L now = 0 then setC f L else f
def takeS (l : List Ifc) (S : Nat → Sr) (src seq : Int) (L : List Cy) (now : Int) : Nat → Sr := if takeE l S src seq L now = 0 then setS S src.toNat ⟨seq, now, true⟩ else S
theorem take_no {l : List Ifc} {S : Nat → Sr} {src seq : Int} {L : List Cy} {now : Int} (f : Int → Option Cy) (h : takeE l S src seq L now ≠ 0) : takeF l S f src seq L now = f ∧ takeS l S src seq L now = S := by
  unfold takeF takeS
  rw [if_neg h, if_neg h]; exact ⟨rfl, rfl⟩
theorem take_yes {l : List Ifc} {S : Nat → Sr} {src seq : Int} {L : List Cy} {now : Int} (f : Int → Option Cy) (h : takeE l S src seq L now = 0) : takeF l S f src seq L now = setC f L ∧ takeS l S src seq L now = setS S src.toNat ⟨seq, now, true⟩ := by
  unfold takeF takeS
  rw [if_pos h, if_pos h]; exact ⟨rfl, rfl⟩
def TakeTo (w' : World) (B c h b mb nn : Nat) (F : Nat → TrF) (l : List Ifc) (f : Int → Option Cy) (S : Nat → Sr) : Prop := ∃ nn', nn' ≤ nn + 256 ∧ CapAt w' B c h b mb nn' F l f S
theorem LAt.setOther {α : Type} {c : α → List Value} {ok : α → Prop} {zero : α} {sz : Nat} {w : World} {p : Option Addr} {l : List α} (h : LAt c ok zero sz w p l) {a : Addr} (hp : l ≠ [] → ∀ b off, p = some ⟨b, off, none⟩ → b ≠ a.block) (v : Value) : LAt c ok zero sz (w.setCell a v) p l := by
  refine ⟨h.ok, ?_⟩
  rcases h.cells with rfl | ⟨b, off, e, hc⟩
  · exact .inl rfl
  · by_cases hl : l = []
    · exact .inl hl
    · exact .inr ⟨b, off, e, fun i hi j u hv => cell_same (hc i hi j u hv) (Below.heap_setCell _ _ _ b (hp hl b off e))⟩
set_option maxHeartbeats 8000000 in
theorem ctake_any (w : World) (B c h b mb nn : Nat) (F : Nat → TrF) (l : List Ifc) (f : Int → Option Cy) (S : Nat → Sr) (src seq now : Int) (p : Option Addr) (L : List Cy) (n c' : Nat) (hl : CysAt w p L) (hn : L.length = n) (hm : n ≤ maxLen) (hpc : L ≠ [] → ∀ b off, p = some ⟨b, off, none⟩ → b ≠ c) (H : CapAt w B c h b mb nn F l f S) (hB : B ≤ w.heap.size) (hnn : nn ≤ 1000000) :
    Calls Try.prog 24 #[.pointer (some ⟨c, 0, none⟩), .agg #[.int .i64 src, .int .i64 seq, .slice p n c'], .int .i64 now] w fun e w' => e = .returned (.int .i64 (takeE l S src seq L now)) ∧ Turns (fun k => k = c ∨ k = mb) w w' ∧ TakeTo w' B c h b mb nn F l (takeF l S f src seq L now) (takeS l S src seq L now) := by
  unfold maxLen at hm
  have hb1 := newB w (.cells #[.pointer (some ⟨c, 0, none⟩)] 46)
  have hb2 := newB (w.alloc (.cells #[.pointer (some ⟨c, 0, none⟩)] 46)) (.cells #[.int .i64 src, .int .i64 seq, .slice p n c'] 53)
  have hX := (Blk.new w 46 [.pointer (some ⟨c, 0, none⟩)]).next hb2
  have hY := Blk.new (w.alloc (.cells #[.pointer (some ⟨c, 0, none⟩)] 46)) 53 [.int .i64 src, .int .i64 seq, .slice p n c']
  rw [sz_alloc] at hY
  have hb0 := hb1.trans (hb2.mono hb1.size)
  obtain ⟨P, hP⟩ : ∃ P, w.heap.size = P := ⟨_, rfl⟩
  obtain ⟨V, hV⟩ : ∃ V, (w.alloc (.cells #[.pointer (some ⟨c, 0, none⟩)] 46)).alloc (.cells #[.int .i64 src, .int .i64 seq, .slice p n c'] 53) = V := ⟨_, rfl⟩
  have hX : Blk V P 46 [.pointer (some ⟨c, 0, none⟩)] := by rw [← hV, ← hP]; exact hX
  have hY : Blk V (P + 1) 53 [.int .i64 src, .int .i64 seq, .slice p n c'] := by rw [← hV, ← hP]; exact hY
  have hb0 : Below w.heap.size w V := by rw [← hV]; exact hb0
  have HX := Lib.hid hX
  have HY := Lib.hid hY
  have HBV := Lib.hid (show Turns (fun k => k = c ∨ k = mb) w V from .of_below hb0)
  have HBS := Lib.hid (show B ≤ V.heap.size from Nat.le_trans hB hb0.size)
  have HK := Lib.hid (H.below hb0)
  have HVE := Lib.hid hV
  have HPE := Lib.hid hP
  have HL := Lib.hid (hl.below hb0)
  have HN := Lib.hid hn
  have HPC := Lib.hid hpc
  obtain ⟨E, hE⟩ : ∃ E, takeE l S src seq L now = E := ⟨_, rfl⟩
  have HEE := Lib.hid hE
  have HE := Lib.hid (show E = if !(okCar src seq L && isCap now) then 1 else if L.any (strangeC l) then 4 else if (S src.toNat).h && decide (seq ≤ (S src.toNat).q) then 170 else 0 from hE ▸ rfl)
  have HNO := Lib.hid (fun (hne : E ≠ 0) (U : World) (hU : Below V.heap.size V U) => show TakeTo U B c h b mb nn F l (takeF l S f src seq L now) (takeS l S src seq L now) from by
    rw [← HEE.out] at hne
    obtain ⟨e1, e2⟩ := take_no f hne
    rw [e1, e2]
    exact ⟨nn, by omega, HK.out.below hU⟩)
  rw [hE]
  have hck := ccheck_any src seq p L n c' V HL.out hn (by unfold maxLen; omega)
  obtain ⟨o1, ho1⟩ : ∃ o, okCar src seq L = o := ⟨_, rfl⟩
  obtain ⟨o2, ho2⟩ : ∃ o, isCap now = o := ⟨_, rfl⟩
  rw [ho1] at hck HE
  rw [ho2] at HE
  have HO1 := Lib.hid ho1
  have HP2 := Lib.hid (fun u => cisCapped_any now u)
  rw [ho2] at HP2
  clear hl hn hb1 hb2 hb0 hX hY hV hP hE H ho1 ho2 hB hpc
  rcases o1 with _ | _
  · have HC := Lib.hid (show Calls Try.prog 22 #[.agg #[.int .i64 src, .int .i64 seq, .slice p n c']] V (fun e w' => e = .returned (.int .i64 1) ∧ Below V.heap.size V w') from hck)
    obtain rfl : E = 1 := by rw [HE.out]; rfl
    have htab := HK.out.tab
    have y0 := HY.out.cell 0 (by simp)
    have y1 := HY.out.cell 1 (by simp)
    have y2 := HY.out.cell 2 (by simp)
    simp only [List.getD_cons_zero, List.getD_cons_succ] at y0 y1 y2
    clear hck HE
    go_enter Try.func24, Try.ntmps24
    go_wp2_with fail
    rw [HVE.out, HPE.out]
    refine (cclosed_any V c h htab).mono ?_
    rintro e w' ⟨rfl, rfl⟩
    go_wp2_with fail
    refine HC.out.mono ?_
    rintro e V1 ⟨rfl, hb⟩
    have HB1 := Lib.hid hb
    clear hb htab y0 y1 y2
    go_wp2_with fail
    go_ret
    exact ⟨rfl, HBV.out.trans (.of_below HB1.out), HNO.out (by decide) _ HB1.out⟩
  have HC := Lib.hid (show Calls Try.prog 22 #[.agg #[.int .i64 src, .int .i64 seq, .slice p n c']] V (fun e w' => e = .returned (.int .i64 0) ∧ Below V.heap.size V w') from hck)
  have htab := HK.out.tab
  have y0 := HY.out.cell 0 (by simp)
  have y1 := HY.out.cell 1 (by simp)
  have y2 := HY.out.cell 2 (by simp)
  simp only [List.getD_cons_zero, List.getD_cons_succ] at y0 y1 y2
  clear hck
  go_enter Try.func24, Try.ntmps24
  go_wp2_with fail
  rw [HVE.out, HPE.out]
  refine (cclosed_any V c h htab).mono ?_
  rintro e w' ⟨rfl, rfl⟩
  go_wp2_with fail
  refine HC.out.mono ?_
  rintro e V1 ⟨rfl, hb⟩
  have HB1 := Lib.hid hb
  have HX1 := Lib.hid (HX.out.next hb)
  have HY1 := Lib.hid (HY.out.next hb)
  have HK1 := Lib.hid (HK.out.below hb)
  have HL1 := Lib.hid (HL.out.below hb)
  clear hb htab y0 y1 y2 HX HY HK HC
  rcases o2 with _ | _
  · obtain rfl : E = 1 := by rw [HE.out]; rfl
    go_wp2_with (go_at_call 46; refine (HP2.out _).mono ?_; rintro e w' ⟨rfl, rfl⟩)
    go_ret
    exact ⟨rfl, HBV.out.trans (.of_below HB1.out), HNO.out (by decide) _ HB1.out⟩
  have HE2 := Lib.hid (show E = if L.any (strangeC l) then 4 else if (S src.toNat).h && decide (seq ≤ (S src.toNat).q) then 170 else 0 from HE.out)
  have hoc := HO1.out
  unfold okCar at hoc
  simp only [Bool.and_eq_true, decide_eq_true_eq, isR] at hoc
  obtain ⟨⟨hs0, hs1⟩, _, h256, _⟩ := hoc
  rw [HN.out] at h256
  obtain ⟨i, rfl⟩ := Int.eq_ofNat_of_zero_le hs0
  have hi : i < 16 := by omega
  have hcs := cscontains_any P B c h b mb nn F l f S p L n c' V1 HL1.out HN.out h256 HK1.out (HX1.out.cell 0 (by simp))
  obtain ⟨o3, ho3⟩ : ∃ o, L.any (strangeC l) = o := ⟨_, rfl⟩
  rw [ho3] at hcs HE2
  have HCS := Lib.hid hcs
  have HO3 := Lib.hid ho3
  have HII := Lib.hid hi
  have y0 := HY1.out.cell 0 (by simp)
  have y1 := HY1.out.cell 1 (by simp)
  have y2 := HY1.out.cell 2 (by simp)
  simp only [List.getD_cons_zero, List.getD_cons_succ] at y0 y1 y2
  clear hcs ho3 HE hs0 hs1
  rcases o3 with _ | _
  rotate_left
  · obtain rfl : E = 4 := by rw [HE2.out]; rfl
    go_wp2_with (first
      | (go_at_call 46; refine (HP2.out _).mono ?_; rintro e w' ⟨rfl, rfl⟩)
      | (go_at_call 48; refine HCS.out.mono ?_; rintro e V2 ⟨rfl, hb2⟩))
    go_ret
    have hb2 := HB1.out.trans (hb2.mono HB1.out.size)
    exact ⟨rfl, HBV.out.trans (.of_below hb2), HNO.out (by decide) _ hb2⟩
  go_wp2_with (first
    | (go_at_call 46; refine (HP2.out _).mono ?_; rintro e w' ⟨rfl, rfl⟩)
    | (go_at_call 48; refine HCS.out.mono ?_; rintro e V2 ⟨rfl, hb2⟩; have HB2 := Lib.hid (HB1.out.trans (hb2.mono HB1.out.size)); have HX2 := Lib.hid (HX1.out.next hb2); have HY2 := Lib.hid (HY1.out.next hb2); have HK2 := Lib.hid (HK1.out.below hb2); have HL2 := Lib.hid (HL1.out.below hb2); clear hb2 y0 y1 y2; have y0 := HY2.out.cell 0 (by simp); have y1 := HY2.out.cell 1 (by simp); have y2 := HY2.out.cell 2 (by simp); simp only [List.getD_cons_zero, List.getD_cons_succ] at y0 y1 y2; have x0 : V2.cell? ⟨P, 0, none⟩ = some (.pointer (some ⟨c, 0, none⟩)) := HX2.out.cell 0 (by simp)))
  have i0 : (0 : Int) ≤ (i : Int) := by omega
  have i16 : (i : Int) < 16 := by omega
  obtain ⟨s0, s1, s2⟩ := HK2.out.sr hi
  change V2.cell? ⟨c, 2 + i * 3 + 1 + 1, none⟩ = some (.bool (S i).h) at s2
  rw [Int.toNat_natCast] at HE2
  obtain ⟨⟨sq, sa, sh⟩, hsr⟩ : ∃ s, S i = s := ⟨_, rfl⟩
  rw [hsr] at s0 s1 s2 HE2
  dsimp only at s0 s1 s2 HE2
  have HSR := Lib.hid hsr
  clear hX hY hb0 hsr HK1 HL1 HX1 HY1 HCS HP2
  go_quiet (fail)
  have hb3 := below_dN V2.heap.size V2 nq
  obtain ⟨V3, hV3⟩ : ∃ V3, V2.drewN nq = V3 := ⟨_, rfl⟩
  rw [hV3] at hb3 ⊢
  have HB3 := Lib.hid (HB2.out.trans (hb3.mono HB2.out.size))
  have HX3 := Lib.hid (HX2.out.next hb3)
  have HY3 := Lib.hid (HY2.out.next hb3)
  have HK3 := Lib.hid (HK2.out.below hb3)
  have HL3 := Lib.hid (HL2.out.below hb3)
  clear hV3 hb3 y0 y1 y2 x0 s0 s1 s2 HX2 HY2 HK2 HL2
  have y1 := HY3.out.cell 1 (by simp)
  simp only [List.getD_cons_zero, List.getD_cons_succ] at y1
  obtain ⟨s0, s1, s2⟩ := HK3.out.sr hi
  change V3.cell? ⟨c, 2 + i * 3 + 1 + 1, none⟩ = some (.bool (S i).h) at s2
  rw [HSR.out] at s0 s1 s2
  dsimp only at s0 s1 s2
  have hcases : (sh = true ∧ decide (seq ≤ sq) = true) ∨ sh = false ∨ (sh = true ∧ decide (seq ≤ sq) = false) := by
    rcases sh with _ | _
    · exact .inr (.inl rfl)
    · by_cases hle : seq ≤ sq
      · exact .inl ⟨rfl, decide_eq_true hle⟩
      · exact .inr (.inr ⟨rfl, decide_eq_false hle⟩)
  rcases hcases with ⟨rfl, t1⟩ | hcases
  · obtain rfl : E = 170 := by rw [HE2.out, t1]; rfl
    go_wp2_with fail
    go_quiet (fail)
    have HB4 := Lib.hid (HB3.out.trans (below_dN V.heap.size V3 nq))
    go_wp2_with fail
    go_ret
    exact ⟨rfl, HBV.out.trans (.of_below HB4.out), HNO.out (by decide) _ HB4.out⟩
  obtain rfl : E = 0 := by
    rw [HE2.out]
    rcases hcases with rfl | ⟨rfl, t1⟩
    · rfl
    · rw [t1]; rfl
  have HYES := Lib.hid (take_yes f HEE.out)
  rcases hcases with rfl | ⟨rfl, t1⟩
  all_goals
    go_wp2_with fail
    go_quiet (fail)
    have hb4 := below_dN V3.heap.size V3 nq
    obtain ⟨V4, hV4⟩ : ∃ V4, V3.drewN nq = V4 := ⟨_, rfl⟩
    rw [hV4] at hb4 ⊢
    have HB4 := Lib.hid (HB3.out.trans (hb4.mono HB3.out.size))
    have HX4 := Lib.hid (HX3.out.next hb4)
    have HY4 := Lib.hid (HY3.out.next hb4)
    have HK4 := Lib.hid (HK3.out.below hb4)
    have HL4 := Lib.hid (HL3.out.below hb4)
    clear hV4 hb4 y1 s0 s1 s2 HX3 HY3 HK3 HL3
    have y1 := HY4.out.cell 1 (by simp)
    simp only [List.getD_cons_zero, List.getD_cons_succ] at y1
    have f0 := HK4.out.blk.f (2 + i * 3)
    have f1 := HK4.out.blk.f (2 + i * 3 + 1)
    have f2 := HK4.out.blk.f (2 + i * 3 + 2)
    obtain ⟨s0, s1, s2⟩ := HK4.out.sr hi
    have hk5 := HK4.out.heard hi ⟨seq, now, true⟩
    dsimp only at hk5
    have hnePX : P ≠ c := fun e => by have := (e ▸ HX4.out : Blk V4 c _ _).type HK4.out.blk; revert this; decide
    have hnePY : P + 1 ≠ c := fun e => by have := (e ▸ HY4.out : Blk V4 c _ _).type HK4.out.blk; revert this; decide
    have hx5 := ((HX4.out.setOther (a := ⟨c, 2 + i * 3, none⟩) hnePX (.int .i64 seq)).setOther (a := ⟨c, 2 + i * 3 + 1, none⟩) hnePX (.int .i64 now)).setOther (a := ⟨c, 2 + i * 3 + 2, none⟩) hnePX (.bool true)
    have hy5 := ((HY4.out.setOther (a := ⟨c, 2 + i * 3, none⟩) hnePY (.int .i64 seq)).setOther (a := ⟨c, 2 + i * 3 + 1, none⟩) hnePY (.int .i64 now)).setOther (a := ⟨c, 2 + i * 3 + 2, none⟩) hnePY (.bool true)
    have hb5 := (((HBV.out.trans (.of_below HB4.out)).setCell (p := ⟨c, 2 + i * 3, none⟩) (.inl (.inl rfl)) (.int .i64 seq)).setCell (p := ⟨c, 2 + i * 3 + 1, none⟩) (.inl (.inl rfl)) (.int .i64 now)).setCell (p := ⟨c, 2 + i * 3 + 2, none⟩) (.inl (.inl rfl)) (.bool true)
    have hl5 : CysAt (((V4.setCell ⟨c, 2 + i * 3, none⟩ (.int .i64 seq)).setCell ⟨c, 2 + i * 3 + 1, none⟩ (.int .i64 now)).setCell ⟨c, 2 + i * 3 + 2, none⟩ (.bool true)) p L := ((HL4.out.setOther (a := ⟨c, 2 + i * 3, none⟩) HPC.out _).setOther (a := ⟨c, 2 + i * 3 + 1, none⟩) HPC.out _).setOther (a := ⟨c, 2 + i * 3 + 2, none⟩) HPC.out _
    have HX5 := Lib.hid hx5
    have HY5 := Lib.hid hy5
    have HK5 := Lib.hid hk5
    have HB5 := Lib.hid hb5
    have HL5 := Lib.hid hl5
    have y2 := hy5.cell 2 (by simp)
    simp only [List.getD_cons_zero, List.getD_cons_succ] at y2
    clear hx5 hy5 hk5 hb5 hl5 hnePX hnePY
    go_wp2_with fail
    obtain ⟨V5, hV5⟩ : ∃ V5, ((V4.setCell ⟨c, 2 + i * 3, none⟩ (.int .i64 seq)).setCell ⟨c, 2 + i * 3 + 1, none⟩ (.int .i64 now)).setCell ⟨c, 2 + i * 3 + 2, none⟩ (.bool true) = V5 := ⟨_, rfl⟩
    rw [hV5] at HX5 HY5 HK5 HB5 HL5 ⊢
    obtain ⟨S', hS'⟩ : ∃ S', setS S i ⟨seq, now, true⟩ = S' := ⟨_, rfl⟩
    rw [hS'] at HK5
    have HS' := Lib.hid hS'
    clear hV5 hS' y1 y2 f0 f1 f2 s0 s1 s2 HK4 HX4 HY4 HL4
    go_loopw [56] (fun v wr => ∃ k : Nat, k ≤ n ∧ v = .int .i64 k ∧ CapAt wr B c h b mb (nn + k) F l (setC f (L.take k)) S' ∧ V5.grownBy wr (some mb)) (fun v _ => n - (intOf v).toNat)
    case atStart => exact ⟨0, Nat.zero_le _, rfl, HK5.out, World.grownBy.refl _ _⟩
    case round =>
      obtain ⟨k, hk, rfl, hkk, hgr⟩ := hrel
      obtain ⟨ss, hmm⟩ := hkk.map
      obtain ⟨s5, hm5⟩ := HK5.out.map
      obtain ⟨es5, cl5, hh5⟩ := hm5.heap
      have HKK := Lib.hid hkk
      have HGR := Lib.hid hgr
      have HMM := Lib.hid hmm
      have HXX := Lib.hid (HX5.out.of_same (hgr.block P HX5.out.lt (fun e => HX5.out.notMap hh5 (by simpa using e))))
      have HLL := Lib.hid (HL5.out.turn hh5 hgr)
      have HBB := Lib.hid (HB5.out.next (S' := fun q => q = mb) ⟨hgr.os, hgr.tape, hgr.output, hgr.size, fun q hq hne => hgr.block q hq (fun e => hne (by simpa using e))⟩ (fun q hq => .inl (.inr hq)))
      clear hgr hmm hkk hm5 hh5
      by_cases hlt : k < n
      · have hlt' : (k : Int) < (n : Int) := by omega
        have k0 : (0 : Int) ≤ (k : Int) := by omega
        have hin := HLL.out.in_ HN.out hlt
        obtain ⟨b', off, rfl, c0, c1, c2⟩ := cy_cell HLL.out HN.out hlt
        have hkl : k < L.length := by rw [HN.out]; exact hlt
        have HST := Lib.hid (setC_snoc f L k hkl)
        obtain ⟨x, hx⟩ : ∃ x, L.getD k Cy.zero = x := ⟨_, rfl⟩
        rw [hx] at c0 c1 c2 HST hin
        obtain ⟨xi, xc, xd⟩ := x
        unfold InCy at hin
        dsimp only at c0 c1 c2 hin
        have hbq := newB wr (.cells #[.int .i64 xi, .int .i64 xc, .bool xd] 67)
        have hq := Blk.new wr 67 [.int .i64 xi, .int .i64 xc, .bool xd]
        obtain ⟨Q, hQ⟩ : ∃ Q, wr.heap.size = Q := ⟨_, rfl⟩
        obtain ⟨U, hU⟩ : ∃ U, wr.alloc (.cells #[.int .i64 xi, .int .i64 xc, .bool xd] 67) = U := ⟨_, rfl⟩
        rw [hU] at hbq hq
        rw [hQ] at hq
        have hmU : MapC U mb (nn + k) ss (setC f (L.take k)) := HMM.out.next hbq
        obtain ⟨w3, hrun, hm3, hg3⟩ := MapAt.update (C := keyIntC) (E := elCyC) (w := U.drew) hmU Try.underlying92 (by unfold maxLen; omega) hin (a := (⟨xi, xc, xd⟩ : Cy)) trivial
        obtain ⟨esU, clU, hhU⟩ := hmU.heap
        have hS : U.drew.cell? ⟨P, 0, none⟩ = some (.pointer (some ⟨c, 0, none⟩)) ∧ U.drew.cell? ⟨c, 1, none⟩ = some (.map (some mb)) ∧ U.drew.cell? ⟨Q, 0, none⟩ = some (.int .i64 xi) ∧ U.drew.cell? ⟨Q, 1, none⟩ = some (.int .i64 xc) ∧ U.drew.cell? ⟨Q, 2, none⟩ = some (.bool xd) := ⟨(HXX.out.next hbq).cell 0 (by simp), (HKK.out.below hbq).said, hq.cell 0 (by simp), hq.cell 1 (by simp), hq.cell 2 (by simp)⟩
        have hgo : ∀ g j v, U.drew.cell? ⟨g, j, none⟩ = some v → w3.cell? ⟨g, j, none⟩ = some v := fun g j v h => cell_same h (hg3.block g (World.block_lt_of_cell? _ _ h) (fun e => cell_notMap (w := U.drew) h hhU (by simpa using e)))
        have hS3 : w3.cell? ⟨P, 0, none⟩ = some (.pointer (some ⟨c, 0, none⟩)) ∧ w3.cell? ⟨c, 1, none⟩ = some (.map (some mb)) ∧ w3.cell? ⟨Q, 0, none⟩ = some (.int .i64 xi) ∧ w3.cell? ⟨Q, 1, none⟩ = some (.int .i64 xc) ∧ w3.cell? ⟨Q, 2, none⟩ = some (.bool xd) := ⟨hgo _ _ _ hS.1, hgo _ _ _ hS.2.1, hgo _ _ _ hS.2.2.1, hgo _ _ _ hS.2.2.2.1, hgo _ _ _ hS.2.2.2.2⟩
        have hrun : (Instr.mapUpdate 92 (.map (some mb)) (.int .i64 xi) (.agg #[.int .i64 xi, .int .i64 xc, .bool xd])).run Try.prog U.drew = .ok () w3 := hrun
        have HK3 := Lib.hid (show CapAt w3 B c h b mb (nn + (k + 1)) F l (setC f (L.take (k + 1))) S' from by
          rw [HST.out]
          exact CapAt.mapTurn (w := U.drew) (HKK.out.below (hbq.trans (Below.refl _ _).drew)) hg3 hm3)
        have HG3 := Lib.hid (show V5.grownBy w3 (some mb) from (HGR.out.trans (gb_belowL hbq)).trans ((gb_belowL (show Below U.heap.size U U.drew from (Below.refl _ _).drew)).trans hg3))
        have HUE := Lib.hid hU
        have HQE := Lib.hid hQ
        clear hU hQ hx hq hbq hmU hm3 hg3 hhU hgo
        go_wp2_with fail
        rw [HUE.out, HQE.out]
        go_region_held_law (fun W => W.cell? ⟨P, 0, none⟩ = some (.pointer (some ⟨c, 0, none⟩)) ∧ W.cell? ⟨c, 1, none⟩ = some (.map (some mb)) ∧ W.cell? ⟨Q, 0, none⟩ = some (.int .i64 xi) ∧ W.cell? ⟨Q, 1, none⟩ = some (.int .i64 xc) ∧ W.cell? ⟨Q, 2, none⟩ = some (.bool xd)) (with_reducible assumption) (fail)
        all_goals
          clear hS hS3 hrun c0 c1 c2
          go_wp2_with fail
          go_roundw
          case rel => exact ⟨k + 1, by omega, by go_num, HK3.out, HG3.out⟩
          case measure => simp [intOf]; omega
      · obtain rfl : k = n := by omega
        go_wp2_with fail
        go_ret
        refine ⟨rfl, HBB.out, nn + k, by omega, ?_⟩
        rw [HYES.out.1, HYES.out.2]
        have hf := HKK.out
        rw [List.take_of_length_le (by rw [HN.out]; exact Nat.le_refl _)] at hf
        rw [show ((i : Int)).toNat = i from rfl, HS'.out]
        exact hf
end Go.Proofs.Ytlkpalaakncicaa
