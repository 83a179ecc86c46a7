/- best: slices.DeleteFunc at lists of numbers of the call's own. -/
import Derived.Test.YtljbebeaahcjaaaJ5
namespace Go.Proofs.Ytljbebeaahcjaaa
open Go.RowKit Go.Maps
set_option linter.unusedVariables false
set_option linter.unusedSimpArgs false
set_option maxRecDepth 100000

def setsL (vs : List Value) : Nat → List Value → List Value
  | _, [] => vs
  | o, v :: r => setsL (vs.set o v) (o + 1) r
theorem setsL_len : ∀ (xs : List Value) (o : Nat) (vs : List Value), (setsL vs o xs).length = vs.length
  | [], _, _ => rfl
  | v :: r, o, vs => by rw [setsL, setsL_len r, List.length_set]
theorem setsL_take : ∀ (xs : List Value) (o m : Nat) (vs : List Value), m ≤ o → (setsL vs o xs).take m = vs.take m
  | [], _, _, _, _ => rfl
  | v :: r, o, m, vs, h => by rw [setsL, setsL_take r (o + 1) m _ (by omega), List.take_set, List.set_eq_of_length_le (by rw [List.length_take]; omega)]
theorem Blk.sets {g : Nat} {t : TypeId} : ∀ (xs : List Value) (o : Nat) {w : World} {vs : List Value}, Blk w g t vs → Blk (w.setCells g o xs) g t (setsL vs o xs)
  | [], _, _, _, h => h
  | v :: r, o, w, vs, h => Blk.sets r (o + 1) (h.set o v)
theorem turns_sets {g : Nat} : ∀ (xs : List Value) (o : Nat) (w : World), Turns (fun k => k = g) w (w.setCells g o xs)
  | [], _, w => Turns.refl _ w
  | v :: r, o, w => ((Turns.refl (fun k => k = g) w).setCell (p := ⟨g, o, none⟩) (.inl rfl) v).trans (turns_sets r (o + 1) _)
/-- Numbers at the head of a block of the call's own. -/
def AtBk (w : World) (g : Nat) (l : List Int) (N : Nat) : Prop := ∃ vs, Blk w g 3 vs ∧ vs.length = N ∧ vs.take l.length = l.map (fun x : Int => Value.int .i64 x) ∧ l.length ≤ N
theorem AtBk.at {w : World} {g N : Nat} {l : List Int} (h : AtBk w g l N) (hi : ∀ x ∈ l, InI x) : LAt inC InI 0 1 w (some ⟨g, 0, none⟩) l := by
  obtain ⟨vs, hb, hN, ht, hl⟩ := h
  refine ⟨hi, .inr ⟨g, 0, rfl, fun i hil j v hv => ?_⟩⟩
  have hj : j = 0 := by
    have := (List.getElem?_eq_some_iff.1 hv).1
    simp [inC] at this; exact this
  subst hj
  refine hb.cellAt ?_
  rw [show 0 + i * 1 + 0 = i by omega, ← List.getElem?_take_of_lt (show i < l.length from hil), ht, List.getElem?_map]
  simp only [inC, List.getElem?_cons_zero] at hv
  rw [← hv]
  simp [List.getD, hil]
theorem AtBk.same {w w' : World} {g N : Nat} {l : List Int} (h : AtBk w g l N) (e : w'.heap[g]? = w.heap[g]?) : AtBk w' g l N := by
  obtain ⟨vs, hb, r⟩ := h
  exact ⟨vs, hb.of_same e, r⟩
theorem AtBk.lt {w : World} {g N : Nat} {l : List Int} (h : AtBk w g l N) : g < w.heap.size := by
  obtain ⟨vs, hb, _⟩ := h
  exact hb.lt
/-- Those of the first ones that stay. -/
theorem keep_snoc (P : Int → Bool) (l : List Int) (x : Int) : (l ++ [x]).filter (fun x => !P x) = l.filter (fun x => !P x) ++ if P x then [] else [x] := by
  rw [List.filter_append]; congr 1; cases h : P x <;> simp [h]
theorem keep_all {P : Int → Bool} {l : List Int} (h : ∀ x ∈ l, P x = false) : l.filter (fun x => !P x) = l := List.filter_eq_self.2 fun x hx => by rw [h x hx]; rfl
/-- The list while it is gone through: i kept of the first j. -/
structure DelSt (P : Int → Bool) (l : List Int) (vs0 : List Value) (N i j : Nat) (vs : List Value) : Prop where
  intro ::
  len : vs.length = N
  keep : ((l.take j).filter (fun x => !P x)).length = i
  head : vs.take i = ((l.take j).filter (fun x => !P x)).map (fun x : Int => Value.int .i64 x)
  tail : vs.drop j = vs0.drop j
  lt : i < j
theorem DelSt.cell {P : Int → Bool} {l : List Int} {vs0 vs : List Value} {N i j n : Nat} (h : DelSt P l vs0 N i j vs) (h0 : vs0.take n = l.map (fun x : Int => Value.int .i64 x)) (hn : l.length = n) (hj : j < n) : vs[j]? = some (.int .i64 (l.getD j 0)) := by
  have e : vs[j]? = vs0[j]? := by
    have := congrArg (fun l => l[0]?) h.tail
    simpa [List.getElem?_drop] using this
  rw [e, ← List.getElem?_take_of_lt hj, h0, List.getElem?_map]
  simp [List.getD, show j < l.length by omega]
theorem DelSt.gone {P : Int → Bool} {l : List Int} {vs0 vs : List Value} {N i j n : Nat} (h : DelSt P l vs0 N i j vs) (hn : l.length = n) (hj : j < n) (hP : P (l.getD j 0) = true) : DelSt P l vs0 N i (j + 1) vs := by
  have e : (l.take (j + 1)).filter (fun x => !P x) = (l.take j).filter (fun x => !P x) := by rw [takeI_snoc hn hj, keep_snoc, hP]; simp
  refine ⟨h.len, by rw [e]; exact h.keep, by rw [e]; exact h.head, ?_, by have := h.lt; omega⟩
  have := congrArg (List.drop 1) h.tail
  simpa [List.drop_drop, Nat.add_comm] using this
theorem DelSt.kept {P : Int → Bool} {l : List Int} {vs0 vs : List Value} {N i j n : Nat} (h : DelSt P l vs0 N i j vs) (hn : l.length = n) (hj : j < n) (hnN : n ≤ N) (hP : P (l.getD j 0) = false) : DelSt P l vs0 N (i + 1) (j + 1) (vs.set i (.int .i64 (l.getD j 0))) := by
  have e : (l.take (j + 1)).filter (fun x => !P x) = (l.take j).filter (fun x => !P x) ++ [l.getD j 0] := by rw [takeI_snoc hn hj, keep_snoc, hP]; simp
  have hlt := h.lt
  have hl := h.len
  refine ⟨by rw [List.length_set]; exact h.len, by rw [e, List.length_append, h.keep]; rfl, ?_, ?_, by omega⟩
  · rw [e, List.map_append, ← h.head, List.take_add_one, List.take_set, List.set_eq_of_length_le (by rw [List.length_take]; omega)]
    congr 1
    simp [show i < vs.length by omega]
  · have h1 := congrArg (List.drop 1) h.tail
    rw [List.drop_set_of_lt (by omega)]
    simpa [List.drop_drop, Nat.add_comm] using h1

def DelRL (P : Int → Bool) (l : List Int) (g N c : Nat) (w w' : World) (e : Ending) : Prop := ∃ m, e = .returned (.slice (some ⟨g, 0, none⟩) m c) ∧ (l.filter fun x => !P x).length = m ∧ AtBk w' g (l.filter fun x => !P x) N ∧ Turns (fun k => k = g) w w'
set_option maxHeartbeats 8000000 in
theorem delL_any (w : World) (g : Nat) (l : List Int) (n c N : Nat) (h : AtBk w g l N) (hi : ∀ x ∈ l, InI x) (hn : l.length = n) (hc : n ≤ c) (hm : c ≤ 9223372036854775807) (P : Int → Bool) (ca cb cd : Nat)
    (HP : ∀ u, Turns (fun k => k = g) w u → ∀ x ∈ l, Calls Try.prog 32 #[.int .i64 x, .pointer (some ⟨ca, 0, none⟩), .pointer (some ⟨cb, 0, none⟩), .pointer (some ⟨cd, 0, none⟩)] u fun e w' => e = .returned (.bool (P x)) ∧ Below u.heap.size u w') :
    Calls Try.prog 31 #[.slice (some ⟨g, 0, none⟩) n c, .func (.func 32) #[] #[.pointer (some ⟨ca, 0, none⟩), .pointer (some ⟨cb, 0, none⟩), .pointer (some ⟨cd, 0, none⟩)]] w fun e w' => DelRL P l g N c w w' e := by
  have HI := Lib.hid (idxL_any w (some ⟨g, 0, none⟩) l n c (h.at hi) hn (by omega) P ca cb cd fun u hu => HP u (.of_below hu))
  have HH := Lib.hid h
  have HN := Lib.hid hn
  have HPP := Lib.hid HP
  have HII := Lib.hid hi
  clear h hn HP hi
  go_enter Try.func31, Try.ntmps31
  go_wp2_with fail
  refine HI.out.mono ?_
  rintro e W1 ⟨i0, rfl, hB1, hcase⟩
  have HB1 := Lib.hid hB1
  clear hB1 HI
  rcases hcase with ⟨rfl, hall⟩ | ⟨k0, rfl, hk0, hP0, hall⟩
  · have HKA := Lib.hid (keep_all hall)
    clear hall
    go_wp2_with fail
    go_ret
    exact ⟨n, rfl, by rw [HKA.out]; exact HN.out, by rw [HKA.out]; exact HH.out.same (HB1.out.block g HH.out.lt), .of_below HB1.out⟩
  · have t0 : decide ((k0 : Int) = -1) = false := decide_eq_false (by omega)
    have t00 : ((k0 : Int) == -1) = false := by simp
    obtain ⟨vs0, hb0, hN0, ht0, hl0⟩ := HH.out
    have HV0 := Lib.hid (show Blk W1 g 3 vs0 from hb0.next HB1.out)
    have HN0 := Lib.hid hN0
    have HT0 := Lib.hid ht0
    have HK0 := Lib.hid (show (l.take (k0 + 1)).filter (fun x => !P x) = l.take k0 from by
      rw [takeI_snoc HN.out hk0, keep_snoc, hP0, keep_all hall]; simp)
    have hnN : n ≤ N := by rw [← HN.out]; exact hl0
    clear hb0 hN0 ht0 hl0 hP0 hall
    go_wp2_with fail
    go_loopw [6, 5] (fun jv iv wr => ∃ (j i : Nat) (vs : List Value), j ≤ n ∧ jv = .int .i64 j ∧ iv = .int .i64 i ∧ DelSt P l vs0 N i j vs ∧ Blk wr g 3 vs ∧ Turns (fun k => k = g) w wr) (fun jv _ _ => n - (intOf jv).toNat)
    case atStart =>
      refine ⟨k0 + 1, k0, vs0, hk0, by go_num, rfl, ⟨HN0.out, by rw [HK0.out, List.length_take, HN.out]; omega, ?_, rfl, by omega⟩, HV0.out, .of_below HB1.out⟩
      rw [HK0.out, List.map_take, ← HT0.out, List.take_take, HN.out, Nat.min_eq_left (by omega)]
    case round =>
      obtain ⟨j, i, vs, hj, rfl, rfl, hst, hb, hT⟩ := hrel
      have HST := Lib.hid hst
      have HBK := Lib.hid hb
      have HT := Lib.hid hT
      have hij := hst.lt
      by_cases hlt : j < n
      · have hltI : (j : Int) < (n : Int) := by omega
        have hcv := hst.cell (n := n) (by rw [← HN.out]; exact HT0.out) HN.out hlt
        have c0 : wr.cell? ⟨g, j, none⟩ = some (.int .i64 (l.getD j 0)) := hb.cellAt hcv
        have hxm := getI_mem HN.out hlt
        obtain ⟨x, hx⟩ : ∃ x, l.getD j 0 = x := ⟨_, rfl⟩
        have HXE := Lib.hid hx
        rw [hx] at c0 hxm
        have HC := Lib.hid (HPP.out wr hT x hxm)
        obtain ⟨o, ho⟩ : ∃ o, P x = o := ⟨_, rfl⟩
        rw [ho] at HC
        have HO := Lib.hid (show P (l.getD j 0) = o by rw [hx, ho])
        have hvl := hst.len
        clear hst hb hT hcv hx hxm ho
        rcases o with _ | _
        · have HS2 := Lib.hid (HST.out.kept HN.out hlt hnN HO.out)
          have hge : vs.getD i undef = vs.getD i undef := rfl
          clear hvl
          go_wp2_with (go_at_call 32; refine HC.out.mono ?_; rintro e u ⟨rfl, hu⟩; have HBu := Lib.hid (HBK.out.next hu); have HTu := Lib.hid (HT.out.trans (.of_below hu)); have ci := HBu.out.cell i (by have h1 := HST.out.len; omega); have fi := HBu.out.f i; clear hu)
          go_roundw
          case rel =>
            refine ⟨j + 1, i + 1, _, by omega, by go_num, by go_num, HS2.out, ?_, HTu.out.trans ((Turns.refl (fun k => k = g) u).setCell (p := ⟨g, i, none⟩) (.inl rfl) _)⟩
            rw [HXE.out]
            exact HBu.out.set i _
          case measure => simp [intOf]; omega
        · have HS2 := Lib.hid (HST.out.gone HN.out hlt HO.out)
          clear hvl
          go_wp2_with (go_at_call 32; refine HC.out.mono ?_; rintro e u ⟨rfl, hu⟩; have HBu := Lib.hid (HBK.out.next hu); have HTu := Lib.hid (HT.out.trans (.of_below hu)); clear hu)
          go_roundw
          case rel => exact ⟨j + 1, i, vs, by omega, by go_num, rfl, HS2.out, HBu.out, HTu.out⟩
          case measure => simp [intOf]; omega
      · obtain rfl : j = n := by omega
        have hjI : ¬ (j : Int) < (j : Int) := by omega
        have e : l.take j = l := List.take_of_length_le (by rw [HN.out]; exact Nat.le_refl _)
        have hk := hst.keep
        have hh := hst.head
        rw [e] at hk hh
        have HK := Lib.hid hk
        have HHD := Lib.hid hh
        have hnc : ¬ c = i := by omega
        have sl1 : ∀ u, (Instr.slice 31 (.slice (some ⟨g, 0, none⟩) j c) (some (.int .i64 i)) none none).run Try.prog u = .ok (.slice (some ⟨g, i, none⟩) (j - i) (c - i)) u := fun u => by
          rw [run_slice_l (ht := rowIn.elem) (h0 := by omega) (h1 := by omega), rowIn.size]
          simp [Result.andThen, sliced, hnc, add_litL]
        have sl2 : ∀ u, (Instr.slice 31 (.slice (some ⟨g, 0, none⟩) j c) none (some (.int .i64 i)) none).run Try.prog u = .ok (.slice (some ⟨g, 0, none⟩) i c) u := fun u => by
          rw [run_slice_h (ht := rowIn.elem) (h0 := by omega) (h2 := by omega), rowIn.size]
          simp [Result.andThen, sliced, add_litL]
        have hclr := fun ty : TypeId => Go.Lib.run_clear_slice (P := Try.prog) wr 31 3 ty (.int .i64 0) Try.underlying31 (fun w => by kernel_rfl) rfl rfl g i (j - i) (c - i) (by omega) (fun k hk => by rw [hb.cell (i + k) (by have := hst.len; omega)]; rfl) (fun k hk => hb.f (i + k))
        obtain ⟨W9, hW9⟩ : ∃ W, wr.setCells g i (List.replicate (j - i) (.int .i64 0)) = W := ⟨_, rfl⟩
        have HW9 := Lib.hid (show AtBk W9 g (l.filter fun x => !P x) N ∧ Turns (fun k => k = g) w W9 from by
          rw [← hW9]
          refine ⟨⟨_, hb.sets _ _, by rw [setsL_len]; exact hst.len, ?_, by rw [hk]; omega⟩, hT.trans (turns_sets _ _ _)⟩
          rw [setsL_take _ _ _ _ (by rw [hk]; exact Nat.le_refl _), hk]
          exact hh)
        rw [hW9] at hclr
        clear hst hb hT hk hh e hW9
        go_wp2_with fail
        go_ret
        exact ⟨i, rfl, HK.out, HW9.out.1, HW9.out.2⟩
def DelRM (P : Int → Bool) (l : List Int) (g N c : Nat) (w w' : World) (e : Ending) : Prop := ∃ m, e = .returned (.slice (some ⟨g, 0, none⟩) m c) ∧ (l.filter fun x => !P x).length = m ∧ AtBk w' g (l.filter fun x => !P x) N ∧ Turns (fun k => k = g) w w'
set_option maxHeartbeats 8000000 in
theorem delM_any (w : World) (g : Nat) (l : List Int) (n c N : Nat) (h : AtBk w g l N) (hi : ∀ x ∈ l, InI x) (hn : l.length = n) (hc : n ≤ c) (hm : c ≤ 9223372036854775807) (P : Int → Bool) (ca cb : Nat)
    (HP : ∀ u, Turns (fun k => k = g) w u → ∀ x ∈ l, Calls Try.prog 47 #[.int .i64 x, .pointer (some ⟨ca, 0, none⟩), .pointer (some ⟨cb, 0, none⟩)] u fun e w' => e = .returned (.bool (P x)) ∧ Below u.heap.size u w') :
    Calls Try.prog 31 #[.slice (some ⟨g, 0, none⟩) n c, .func (.func 47) #[] #[.pointer (some ⟨ca, 0, none⟩), .pointer (some ⟨cb, 0, none⟩)]] w fun e w' => DelRM P l g N c w w' e := by
  have HI := Lib.hid (idxM_any w (some ⟨g, 0, none⟩) l n c (h.at hi) hn (by omega) P ca cb fun u hu => HP u (.of_below hu))
  have HH := Lib.hid h
  have HN := Lib.hid hn
  have HPP := Lib.hid HP
  have HII := Lib.hid hi
  clear h hn HP hi
  go_enter Try.func31, Try.ntmps31
  go_wp2_with fail
  refine HI.out.mono ?_
  rintro e W1 ⟨i0, rfl, hB1, hcase⟩
  have HB1 := Lib.hid hB1
  clear hB1 HI
  rcases hcase with ⟨rfl, hall⟩ | ⟨k0, rfl, hk0, hP0, hall⟩
  · have HKA := Lib.hid (keep_all hall)
    clear hall
    go_wp2_with fail
    go_ret
    exact ⟨n, rfl, by rw [HKA.out]; exact HN.out, by rw [HKA.out]; exact HH.out.same (HB1.out.block g HH.out.lt), .of_below HB1.out⟩
  · have t0 : decide ((k0 : Int) = -1) = false := decide_eq_false (by omega)
    have t00 : ((k0 : Int) == -1) = false := by simp
    obtain ⟨vs0, hb0, hN0, ht0, hl0⟩ := HH.out
    have HV0 := Lib.hid (show Blk W1 g 3 vs0 from hb0.next HB1.out)
    have HN0 := Lib.hid hN0
    have HT0 := Lib.hid ht0
    have HK0 := Lib.hid (show (l.take (k0 + 1)).filter (fun x => !P x) = l.take k0 from by
      rw [takeI_snoc HN.out hk0, keep_snoc, hP0, keep_all hall]; simp)
    have hnN : n ≤ N := by rw [← HN.out]; exact hl0
    clear hb0 hN0 ht0 hl0 hP0 hall
    go_wp2_with fail
    go_loopw [6, 5] (fun jv iv wr => ∃ (j i : Nat) (vs : List Value), j ≤ n ∧ jv = .int .i64 j ∧ iv = .int .i64 i ∧ DelSt P l vs0 N i j vs ∧ Blk wr g 3 vs ∧ Turns (fun k => k = g) w wr) (fun jv _ _ => n - (intOf jv).toNat)
    case atStart =>
      refine ⟨k0 + 1, k0, vs0, hk0, by go_num, rfl, ⟨HN0.out, by rw [HK0.out, List.length_take, HN.out]; omega, ?_, rfl, by omega⟩, HV0.out, .of_below HB1.out⟩
      rw [HK0.out, List.map_take, ← HT0.out, List.take_take, HN.out, Nat.min_eq_left (by omega)]
    case round =>
      obtain ⟨j, i, vs, hj, rfl, rfl, hst, hb, hT⟩ := hrel
      have HST := Lib.hid hst
      have HBK := Lib.hid hb
      have HT := Lib.hid hT
      have hij := hst.lt
      by_cases hlt : j < n
      · have hltI : (j : Int) < (n : Int) := by omega
        have hcv := hst.cell (n := n) (by rw [← HN.out]; exact HT0.out) HN.out hlt
        have c0 : wr.cell? ⟨g, j, none⟩ = some (.int .i64 (l.getD j 0)) := hb.cellAt hcv
        have hxm := getI_mem HN.out hlt
        obtain ⟨x, hx⟩ : ∃ x, l.getD j 0 = x := ⟨_, rfl⟩
        have HXE := Lib.hid hx
        rw [hx] at c0 hxm
        have HC := Lib.hid (HPP.out wr hT x hxm)
        obtain ⟨o, ho⟩ : ∃ o, P x = o := ⟨_, rfl⟩
        rw [ho] at HC
        have HO := Lib.hid (show P (l.getD j 0) = o by rw [hx, ho])
        have hvl := hst.len
        clear hst hb hT hcv hx hxm ho
        rcases o with _ | _
        · have HS2 := Lib.hid (HST.out.kept HN.out hlt hnN HO.out)
          have hge : vs.getD i undef = vs.getD i undef := rfl
          clear hvl
          go_wp2_with (go_at_call 47; refine HC.out.mono ?_; rintro e u ⟨rfl, hu⟩; have HBu := Lib.hid (HBK.out.next hu); have HTu := Lib.hid (HT.out.trans (.of_below hu)); have ci := HBu.out.cell i (by have h1 := HST.out.len; omega); have fi := HBu.out.f i; clear hu)
          go_roundw
          case rel =>
            refine ⟨j + 1, i + 1, _, by omega, by go_num, by go_num, HS2.out, ?_, HTu.out.trans ((Turns.refl (fun k => k = g) u).setCell (p := ⟨g, i, none⟩) (.inl rfl) _)⟩
            rw [HXE.out]
            exact HBu.out.set i _
          case measure => simp [intOf]; omega
        · have HS2 := Lib.hid (HST.out.gone HN.out hlt HO.out)
          clear hvl
          go_wp2_with (go_at_call 47; refine HC.out.mono ?_; rintro e u ⟨rfl, hu⟩; have HBu := Lib.hid (HBK.out.next hu); have HTu := Lib.hid (HT.out.trans (.of_below hu)); clear hu)
          go_roundw
          case rel => exact ⟨j + 1, i, vs, by omega, by go_num, rfl, HS2.out, HBu.out, HTu.out⟩
          case measure => simp [intOf]; omega
      · obtain rfl : j = n := by omega
        have hjI : ¬ (j : Int) < (j : Int) := by omega
        have e : l.take j = l := List.take_of_length_le (by rw [HN.out]; exact Nat.le_refl _)
        have hk := hst.keep
        have hh := hst.head
        rw [e] at hk hh
        have HK := Lib.hid hk
        have HHD := Lib.hid hh
        have hnc : ¬ c = i := by omega
        have sl1 : ∀ u, (Instr.slice 31 (.slice (some ⟨g, 0, none⟩) j c) (some (.int .i64 i)) none none).run Try.prog u = .ok (.slice (some ⟨g, i, none⟩) (j - i) (c - i)) u := fun u => by
          rw [run_slice_l (ht := rowIn.elem) (h0 := by omega) (h1 := by omega), rowIn.size]
          simp [Result.andThen, sliced, hnc, add_litL]
        have sl2 : ∀ u, (Instr.slice 31 (.slice (some ⟨g, 0, none⟩) j c) none (some (.int .i64 i)) none).run Try.prog u = .ok (.slice (some ⟨g, 0, none⟩) i c) u := fun u => by
          rw [run_slice_h (ht := rowIn.elem) (h0 := by omega) (h2 := by omega), rowIn.size]
          simp [Result.andThen, sliced, add_litL]
        have hclr := fun ty : TypeId => Go.Lib.run_clear_slice (P := Try.prog) wr 31 3 ty (.int .i64 0) Try.underlying31 (fun w => by kernel_rfl) rfl rfl g i (j - i) (c - i) (by omega) (fun k hk => by rw [hb.cell (i + k) (by have := hst.len; omega)]; rfl) (fun k hk => hb.f (i + k))
        obtain ⟨W9, hW9⟩ : ∃ W, wr.setCells g i (List.replicate (j - i) (.int .i64 0)) = W := ⟨_, rfl⟩
        have HW9 := Lib.hid (show AtBk W9 g (l.filter fun x => !P x) N ∧ Turns (fun k => k = g) w W9 from by
          rw [← hW9]
          refine ⟨⟨_, hb.sets _ _, by rw [setsL_len]; exact hst.len, ?_, by rw [hk]; omega⟩, hT.trans (turns_sets _ _ _)⟩
          rw [setsL_take _ _ _ _ (by rw [hk]; exact Nat.le_refl _), hk]
          exact hh)
        rw [hW9] at hclr
        clear hst hb hT hk hh e hW9
        go_wp2_with fail
        go_ret
        exact ⟨i, rfl, HK.out, HW9.out.1, HW9.out.2⟩
end Go.Proofs.Ytljbebeaahcjaaa
