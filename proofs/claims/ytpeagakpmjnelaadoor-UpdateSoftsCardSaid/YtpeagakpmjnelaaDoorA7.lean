/- attr: numbers and segments of the call's own; number, list. -/
import Derived.Test.YtpeagakpmjnelaaDoorA6
import Derived.Laws.AppendOwn
import Derived.Deep.Onto
import Derived.Deep.LoopGhost
namespace Go.Proofs.YtpeagakpmjnelaaDoor.Ax
open Go.RowKit
set_option maxRecDepth 100000

theorem infoInt : (Tryd.prog.info? 3).map (fun i => (i.zero, i.size, i.bytes)) = some (some (.int .i64 0), 1, 8) := by kernel_rfl
theorem infoSeg : (Tryd.prog.info? 88).map (fun i => (i.zero, i.size, i.bytes)) = some (some (.agg #[.bool false, .slice none 0 0]), 2, 32) := by kernel_rfl
theorem row_below {w w' : World} {B : Nat} {E : TypeId} {size : Nat} {v : Value} {n : Nat} {xs : List Value} (h : w.ownsRow B E size v n xs) (hb : Below w.heap.size w w') : w'.ownsRow B E size v n xs := by
  refine h.kept (row := none) (gb_below hb) ?_
  rcases hv : v.ownBlock with _ | g
  · exact .inl rfl
  · exact .inr (by simp)
/-- A row of another type than that of a block that is written stands. -/
theorem row_past {w w' : World} {B : Nat} {E : TypeId} {size : Nat} {v : Value} {n : Nat} {xs : List Value} (h : w.ownsRow B E size v n xs) {g : Nat} {t : TypeId} {vs : List Value} (hb : Blk w g t vs) (ht : t ≠ E) (hg : w.grownBy w' (some g)) : w'.ownsRow B E size v n xs := by
  refine h.kept hg ?_
  rcases h.2 with ⟨rfl, _⟩ | ⟨g', cap, cur, rfl, hB, hh, _⟩
  · exact .inl rfl
  · refine .inr (fun e => ?_)
    have e' : g' = g := by simpa [Value.ownBlock] using e
    subst e'
    obtain ⟨cs, hc, _⟩ := hb
    rw [hh] at hc
    simp at hc
    exact ht hc.2.symm
theorem row_form {w : World} {B : Nat} {E : TypeId} {size : Nat} {v : Value} {n : Nat} {xs : List Value} (h : w.ownsRow B E size v n xs) :
    ∃ p c, v = .slice p n c ∧ n ≤ c ∧ c ≤ maxLen := by
  rcases h.2 with ⟨rfl, rfl⟩ | ⟨g, cap, cur, rfl, _, _, h1, h2, _⟩
  · exact ⟨none, 0, rfl, Nat.le_refl _, by unfold maxLen; omega⟩
  · exact ⟨_, cap, rfl, h1, h2⟩
theorem row_len {w : World} {B : Nat} {E : TypeId} {size : Nat} {v : Value} {n : Nat} {xs : List Value} (h : w.ownsRow B E size v n xs) : xs.length = n * size := h.1
theorem row_ints {w : World} {B : Nat} {p : Option Addr} {n c : Nat} {xs : List Int} (h : w.ownsRow B 3 1 (.slice p n c) n (xs.map (Value.int .i64))) : IntsAt w p xs := by
  have hl := row_len h
  rcases h.2 with ⟨hv, h0⟩ | ⟨g, cap, cur, hv, _⟩
  · left
    have : xs.length = 0 := by simpa [h0] using hl
    exact List.eq_nil_of_length_eq_zero this
  · simp only [Value.slice.injEq] at hv
    obtain ⟨rfl, _, rfl⟩ := hv
    refine .inr ⟨g, 0, rfl, fun i hi => ?_⟩
    have := h.cells (g := g) rfl i (.int .i64 (xs.getD i 0)) (by simp [List.getD, List.getElem?_eq_getElem hi])
    rw [add_lit'] at this
    exact this

/-- append of one number to numbers of one's own. -/
theorem wpList_appi {ops : Array Oper} {rest : List Oper} {o : Oper} {a : Act} {w : World} {Q : Exit → Act → World → Prop} (hgd : o.guard = none) (s x : Operand)
    (ho : o.op = .call { callee := .builtin .append, args := #[s, x], argTypes := #[25, 25] })
    (B : Nat) (q : Option Addr) (cap n : Nat) (xs : List Int) (hown : w.ownsRow B 3 1 (.slice q n cap) n (xs.map (Value.int .i64))) (hs : a.eval s = .slice q n cap)
    (g : Nat) (y : Int) (hx : a.eval x = .slice (some ⟨g, 0, none⟩) 1 1) (hc : w.cell? ⟨g, 0, none⟩ = some (.int .i64 y)) (h40 : n + 1 ≤ 1099511627776) (hB : B ≤ w.heap.size)
    (h : ∀ q' cap' w', Hid (w'.ownsRow B 3 1 (.slice q' (n + 1) cap') (n + 1) ((xs ++ [y]).map (Value.int .i64))) → Hid (w.grownBy w' (Value.slice q n cap).ownBlock) → wpList Tryd.prog ops Q rest (a.put o.dst (.slice q' (n + 1) cap')) w') :
    wpList Tryd.prog ops Q (o :: rest) a w := by
  obtain ⟨i0, hi, hz0, hz1, hz2⟩ := info_parts infoInt
  refine wpList_append_own w hgd s x 25 ho B 3 i0 (.int .i64 0) 1 8 Tryd.underlying25 hi hz0 hz1 hz2 rfl (by decide) _ n _ hs hown ⟨g, 0, none⟩ 1 1 [.int .i64 y] hx rfl (fun j u hj => ?_) (fun u hu => ?_) (by unfold maxLen; omega) (by omega) hB (fun v' w' h2 h3 _ => ?_)
  · obtain ⟨rfl, rfl⟩ : j = 0 ∧ u = .int .i64 y := by
      match j, hj with
      | 0, hj => simp at hj; exact ⟨rfl, hj.symm⟩
    simpa [Addr.add] using hc
  · simp at hu; subst hu; rfl
  · obtain ⟨q', cap', rfl, _, _⟩ := row_form h2
    exact h q' cap' w' (Lib.hid (by rw [List.map_append]; exact h2)) (Lib.hid h3)

theorem number_any (wide : Nat) (I : Int) (hI : I = wide) (p : Option Addr) (xs : List Int) (n c : Nat) (w : World) (h1 : 1 ≤ wide) (h4 : wide ≤ 4) (hb : BytesAt w p xs) (hn : xs.length = n) (hm : n ≤ 140737488355328) :
    Calls Tryd.prog 101 #[.slice p n c, .int .i64 I] w fun e w' => e = .returned (.tuple #[.int .i64 (if n = wide then getV xs else 0), .bool (n == wide)]) ∧ w = w' := by
  subst hI
  by_cases h : n = wide
  · subst h
    have HG := Lib.hid (show Calls Tryd.prog 63 #[.slice p n c] w fun e w' => e = .returned (.tuple #[.int .i64 (getV xs), .int .i64 0]) ∧ w = w' by subst hn; exact get_some p xs c w h1 h4 hb)
    rw [if_pos rfl, beq_self_eq_true]
    clear hb hn
    go_enter Tryd.func101, Tryd.ntmps101
    go_wp2_with fail
    refine HG.out.mono ?_; rintro e w1 ⟨rfl, rfl⟩
    go_wp2_with fail
    go_ret2
    exact ⟨rfl, rfl⟩
  · have HE := Lib.hid (show (n == wide) = false by simpa using h)
    have t1 : ((n : Int) != (wide : Int)) = true := by rw [bne_iff_ne]; omega
    rw [if_neg h, HE.out]
    clear hb hn h
    go_enter Tryd.func101, Tryd.ntmps101
    go_wp2_with fail
    go_ret2
    exact ⟨rfl, rfl⟩

/-- Numbers of so many bytes each; false: the last is cut off. -/
def listV : Nat → Nat → List Int → List Int × Bool
  | 0, _, _ => ([], true)
  | _ + 1, _, [] => ([], true)
  | f + 1, wide, x :: xs => if wide ≤ (x :: xs).length then (getV ((x :: xs).take wide) :: (listV f wide ((x :: xs).drop wide)).1, (listV f wide ((x :: xs).drop wide)).2) else ([0], false)
def ListTo (w w' : World) (r : List Int × Bool) (e : Ending) : Prop := ∃ v, e = .returned (.tuple #[v, .bool r.2]) ∧ w'.ownsRow w.heap.size 3 1 v r.1.length (r.1.map (Value.int .i64)) ∧ Below w.heap.size w w'
def ListRel (w w1 : World) (gr : Nat) (wide : Nat) (R : List Int × Bool) (gk : Nat) (v : Value) (wr : World) : Prop :=
  ∃ (acc : List Int) (m : Nat) (q : Option Addr) (cap : Nat), v = .slice q m cap ∧ acc.length = m ∧ wr.ownsRow w1.heap.size 3 1 (.slice q m cap) m (acc.map (Value.int .i64)) ∧ m + gk ≤ 1000001 ∧ Below w.heap.size w wr ∧ w1.heap.size ≤ wr.heap.size ∧
    ((∃ ys f, RdAt wr gr (some ys) ∧ ys.length < f ∧ (acc ++ (listV f wide ys).1, (listV f wide ys).2) = R ∧ gk = ys.length) ∨ (RdAt wr gr none ∧ (acc, false) = R ∧ gk = 0))
theorem row_block {w : World} {B : Nat} {E : TypeId} {size : Nat} {v : Value} {n : Nat} {xs : List Value} (h : w.ownsRow B E size v n xs) : ∀ r, v.ownBlock = some r → B ≤ r := fun r hr => (h.lt r hr).1

set_option maxRecDepth 100000 in
set_option maxHeartbeats 2000000 in
theorem list_any (wide : Nat) (I : Int) (hI : I = wide) (p : Option Addr) (xs : List Int) (n c : Nat) (w : World) (h1 : 1 ≤ wide) (h4 : wide ≤ 4) (hb : BytesAt w p xs) (hn : xs.length = n) (hl : n ≤ 1000000) :
    Calls Tryd.prog 103 #[.slice p n c, .int .i64 I] w fun e w' => ListTo w w' (listV (xs.length + 1) wide xs) e := by
  subst hI
  have HF := Lib.hid (show Calls Tryd.prog 31 #[.slice p n c] w fun e w' => NewAt w w' e (fun g => RdAt w' g (some xs)) by subst hn; exact from_any p xs c w (by omega) hb)
  have hn' : xs.length ≤ 1000000 := by omega
  obtain ⟨R, hR⟩ : ∃ R, listV (xs.length + 1) wide xs = R := ⟨_, rfl⟩
  rw [hR]
  have HR := Lib.hid hR
  have HN := Lib.hid hn'
  clear hb hn hR hn'
  go_enter Tryd.func103, Tryd.ntmps103
  go_wp2_with fail
  refine HF.out.mono ?_; rintro e w1 ⟨gr, rfl, hnew, hrd, hbel⟩
  have HRD := Lib.hid hrd
  have HBL := Lib.hid hbel
  have hgl := hrd.lt
  clear hrd hbel HF
  go_wp2_with fail
  go_loopg [7] xs.length (fun k v wr => ListRel w w1 gr wide R k v wr)
  case atStart => exact ⟨[], 0, none, 0, rfl, rfl, World.ownsRow_nil _ _ _ _, by have := HN.out; omega, HBL.out, Nat.le_refl _, .inl ⟨xs, _, HRD.out, Nat.lt_succ_self _, by rw [← HR.out]; simp, rfl⟩⟩
  case round =>
    obtain ⟨acc, m, q, cap, rfl, hm, hown, hlen, hbel, hsz, ⟨ys, f, hrd, hf, hp, hk⟩ | ⟨hrd, hp, hk⟩⟩ := hrel
    · have HM := Lib.hid hm
      have HO := Lib.hid hown
      have HB := Lib.hid hbel
      have HP := Lib.hid hp
      have HT := Lib.hid hrd
      have HS := Lib.hid hsz
      have HL := Lib.hid (left_any wr gr _ hrd)
      clear hm hown hbel hp hrd hsz HRD HR
      match ys, hf, hk, HP, HT, HL with
      | [], hf, hk, HP, HT, HL =>
        have HBD := Lib.hid (bad_any wr gr _ HT.out)
        have HE := Lib.hid (show listV f wide [] = ([], true) by cases f <;> rfl)
        clear hk hf
        go_wp2_with fail
        refine HL.out.mono ?_; rintro e w2 ⟨rfl, rfl⟩
        rw [show leftV (some ([] : List Int)) = 0 from rfl]
        go_wp2_with fail
        refine HBD.out.mono ?_; rintro e w2 ⟨rfl, rfl⟩
        go_wp2_with fail
        go_ret2
        rw [← HP.out, HE.out]
        exact ⟨_, rfl, by rw [List.append_nil, HM.out]; exact HO.out.mono HBL.out.size, HB.out⟩
      | x :: t, hf, hk, HP, HT, HL =>
        obtain ⟨f, rfl⟩ : ∃ f', f = f' + 1 := ⟨f - 1, by omega⟩
        have HEV := Lib.hid (show listV (f + 1) wide (x :: t) = if wide ≤ (x :: t).length then (getV ((x :: t).take wide) :: (listV f wide ((x :: t).drop wide)).1, (listV f wide ((x :: t).drop wide)).2) else ([0], false) from rfl)
        have HLV := Lib.hid (show leftV (some (x :: t)) = t.length + 1 from rfl)
        have hkl : gk = t.length + 1 := hk
        have hfl : t.length + 1 < f + 1 := by simpa using hf
        clear hk hf
        by_cases hw : wide ≤ (x :: t).length
        · have HNM := Lib.hid (num_ok (wide : Int) wide rfl h1 h4 hw HT.out)
          have HE := Lib.hid (HEV.out.trans (if_pos hw))
          obtain ⟨y, hy⟩ : ∃ y, getV ((x :: t).take wide) = y := ⟨_, rfl⟩
          rw [hy] at HNM HE
          clear hy HEV
          go_wp2_with fail
          refine HL.out.mono ?_; rintro e w2 ⟨rfl, rfl⟩
          rw [HLV.out]
          go_wp2_with fail
          refine HNM.out.mono ?_; rintro e w2 ⟨rfl, hr, hg⟩
          have HT2 := Lib.hid (hr.below (new_below w2 (.cells #[.int .i64 y] 3)))
          have HO2 := Lib.hid ((HO.out.kept hg (by
            rcases hv : (Value.slice q m cap).ownBlock with _ | z
            · exact .inl rfl
            · have := row_block HO.out z hv
              exact .inr (by simp; omega))).alloc (.cells #[.int .i64 y] 3))
          have HS2 := Lib.hid (show w1.heap.size ≤ (w2.alloc (.cells #[.int .i64 y] 3)).heap.size by have := HS.out; have := hg.size; simp; omega)
          have HB2 := Lib.hid ((below_new HB.out hg hnew HB.out.size).trans ((new_below w2 (.cells #[.int .i64 y] 3)).mono (by have := HB.out.size; have := hg.size; omega)))
          have hc : (w2.alloc (.cells #[.int .i64 y] 3)).cell? ⟨w2.heap.size, 0, none⟩ = some (.int .i64 y) := (Blk.new w2 3 [.int .i64 y]).cell 0 (by simp)
          have HC := Lib.hid hc
          clear hr hg hc HL HNM
          go_wp2_with (refine wpList_appi (o := ⟨some 18, _, _, _, _, _⟩) (by rfl) (.tmp 13) (.tmp 17) (by rfl) w1.heap.size q cap m acc HO2.out (by rfl) w2.heap.size y (by rfl) HC.out (by omega) HS2.out ?_; intro q3 cap3 w3 hO3 hG3)
          have HRB := Lib.hid (fun r hr => (show w1.heap.size ≤ r from row_block HO2.out r hr))
          go_roundg ((x :: t).drop wide).length
          case rel =>
            refine ⟨acc ++ [y], m + 1, q3, cap3, rfl, by rw [List.length_append, HM.out]; rfl, hO3.out, by rw [List.length_drop]; simp only [List.length_cons]; omega, HB2.out.trans ((Below.refl _ _).grown hG3.out HB2.out.size (fun r hr => Nat.le_trans HBL.out.size (HRB.out r hr))), Nat.le_trans HS2.out hG3.out.size, .inl ⟨(x :: t).drop wide, f, HT2.out.above hG3.out (fun r hr => Nat.lt_of_lt_of_le hgl (HRB.out r hr)), by rw [List.length_drop]; simp only [List.length_cons]; omega, ?_, rfl⟩⟩
            rw [← HP.out, HE.out]
            simp
          case measure => rw [List.length_drop]; simp only [List.length_cons]; omega
        · have HNM := Lib.hid (num_short (wide : Int) wide rfl (by omega) HT.out)
          have HE := Lib.hid (HEV.out.trans (if_neg hw))
          clear HEV
          go_wp2_with fail
          refine HL.out.mono ?_; rintro e w2 ⟨rfl, rfl⟩
          rw [HLV.out]
          go_wp2_with fail
          refine HNM.out.mono ?_; rintro e w2 ⟨rfl, hr, hg⟩
          have HT2 := Lib.hid (hr.below (new_below w2 (.cells #[.int .i64 0] 3)))
          have HO2 := Lib.hid ((HO.out.kept hg (by
            rcases hv : (Value.slice q m cap).ownBlock with _ | z
            · exact .inl rfl
            · have := row_block HO.out z hv
              exact .inr (by simp; omega))).alloc (.cells #[.int .i64 0] 3))
          have HS2 := Lib.hid (show w1.heap.size ≤ (w2.alloc (.cells #[.int .i64 0] 3)).heap.size by have := HS.out; have := hg.size; simp; omega)
          have HB2 := Lib.hid ((below_new HB.out hg hnew HB.out.size).trans ((new_below w2 (.cells #[.int .i64 0] 3)).mono (by have := HB.out.size; have := hg.size; omega)))
          have hc : (w2.alloc (.cells #[.int .i64 0] 3)).cell? ⟨w2.heap.size, 0, none⟩ = some (.int .i64 0) := (Blk.new w2 3 [.int .i64 0]).cell 0 (by simp)
          have HC := Lib.hid hc
          clear hr hg hc HL HNM
          go_wp2_with (refine wpList_appi (o := ⟨some 18, _, _, _, _, _⟩) (by rfl) (.tmp 13) (.tmp 17) (by rfl) w1.heap.size q cap m acc HO2.out (by rfl) w2.heap.size 0 (by rfl) HC.out (by omega) HS2.out ?_; intro q3 cap3 w3 hO3 hG3)
          have HRB := Lib.hid (fun r hr => (show w1.heap.size ≤ r from row_block HO2.out r hr))
          go_roundg 0
          case rel =>
            refine ⟨acc ++ [0], m + 1, q3, cap3, rfl, by rw [List.length_append, HM.out]; rfl, hO3.out, by omega, HB2.out.trans ((Below.refl _ _).grown hG3.out HB2.out.size (fun r hr => Nat.le_trans HBL.out.size (HRB.out r hr))), Nat.le_trans HS2.out hG3.out.size, .inr ⟨HT2.out.above hG3.out (fun r hr => Nat.lt_of_lt_of_le hgl (HRB.out r hr)), ?_, rfl⟩⟩
            rw [← HP.out, HE.out]
          case measure => omega
    · have HM := Lib.hid hm
      have HO := Lib.hid hown
      have HB := Lib.hid hbel
      have HP := Lib.hid hp
      have HL := Lib.hid (left_any wr gr _ hrd)
      have HBD := Lib.hid (bad_any wr gr _ hrd)
      clear hm hown hbel hp hrd hsz HRD HR
      go_wp2_with fail
      refine HL.out.mono ?_; rintro e w2 ⟨rfl, rfl⟩
      rw [show leftV none = 0 from rfl]
      go_wp2_with fail
      refine HBD.out.mono ?_; rintro e w2 ⟨rfl, rfl⟩
      go_wp2_with fail
      go_ret2
      rw [← HP.out]
      exact ⟨_, rfl, by rw [HM.out]; exact HO.out.mono HBL.out.size, HB.out⟩
end Go.Proofs.YtpeagakpmjnelaaDoor.Ax
