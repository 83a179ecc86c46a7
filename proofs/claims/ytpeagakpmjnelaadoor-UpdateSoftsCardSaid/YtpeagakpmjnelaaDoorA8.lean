/- attr: path. -/
import Derived.Test.YtpeagakpmjnelaaDoorA7
namespace Go.Proofs.YtpeagakpmjnelaaDoor.Ax
open Go.RowKit
set_option maxRecDepth 100000

/-- Segments of the call's own: their cells, and each one's numbers. -/
def pcells (ps : List (Seg × Value)) : List Value := ps.flatMap (fun p => [.bool p.1.set, p.2])
def PathOwn (w : World) (B : Nat) (q : Option Addr) (n cap : Nat) (l : List Seg) : Prop :=
  ∃ ps : List (Seg × Value), ps.map Prod.fst = l ∧ l.length = n ∧ w.ownsRow B 88 2 (.slice q n cap) n (pcells ps) ∧ ∀ p ∈ ps, w.ownsRow B 3 1 p.2 p.1.nums.length (p.1.nums.map (Value.int .i64))
theorem PathOwn.nil (w : World) (B : Nat) : PathOwn w B none 0 0 [] := ⟨[], rfl, rfl, World.ownsRow_nil _ _ _ _, fun p hp => by cases hp⟩
theorem PathOwn.below {w w' : World} {B n cap : Nat} {q : Option Addr} {l : List Seg} (h : PathOwn w B q n cap l) (hb : Below w.heap.size w w') : PathOwn w' B q n cap l := by
  obtain ⟨ps, h1, h2, h3, h4⟩ := h
  exact ⟨ps, h1, h2, row_below h3 hb, fun p hp => row_below (h4 p hp) hb⟩
theorem PathOwn.mono {w : World} {B B' n cap : Nat} {q : Option Addr} {l : List Seg} (h : PathOwn w B q n cap l) (hB : B' ≤ B) : PathOwn w B' q n cap l := by
  obtain ⟨ps, h1, h2, h3, h4⟩ := h
  exact ⟨ps, h1, h2, h3.mono hB, fun p hp => (h4 p hp).mono hB⟩
theorem PathOwn.past {w w' : World} {B n cap : Nat} {q : Option Addr} {l : List Seg} (h : PathOwn w B q n cap l) {g : Nat} {t : TypeId} {vs : List Value} (hb : Blk w g t vs) (h1 : t ≠ 88) (h2 : t ≠ 3) (hg : w.grownBy w' (some g)) : PathOwn w' B q n cap l := by
  obtain ⟨ps, k1, k2, k3, k4⟩ := h
  exact ⟨ps, k1, k2, row_past k3 hb h1 hg, fun p hp => row_past (k4 p hp) hb h2 hg⟩
theorem pcells_get (ps : List (Seg × Value)) (i : Nat) (h : i < ps.length) : (pcells ps)[i * 2]? = some (.bool ps[i].1.set) ∧ (pcells ps)[i * 2 + 1]? = some ps[i].2 := by
  induction ps generalizing i with
  | nil => simp at h
  | cons a t ih =>
    unfold pcells at *
    rw [List.flatMap_cons]
    cases i with
    | zero => simp
    | succ i =>
      have := ih i (by simpa using h)
      rw [show (i + 1) * 2 = i * 2 + 2 from by omega, show i * 2 + 2 + 1 = (i * 2 + 1) + 2 from by omega]
      simpa using this
theorem PathOwn.at {w : World} {B n cap : Nat} {q : Option Addr} {l : List Seg} (h : PathOwn w B q n cap l) : SegsAt w q l := by
  obtain ⟨ps, rfl, hn, hrow, hin⟩ := h
  rcases hrow.2 with ⟨hv, h0⟩ | ⟨g, cap', cur, hv, _⟩
  · left
    exact List.eq_nil_of_length_eq_zero (by omega)
  · simp only [Value.slice.injEq] at hv
    obtain ⟨rfl, _, rfl⟩ := hv
    refine .inr ⟨g, 0, rfl, fun i hi => ?_⟩
    have hi' : i < ps.length := by simpa using hi
    obtain ⟨e1, e2⟩ := pcells_get ps i hi'
    have c1 := hrow.cells (g := g) rfl _ _ e1
    have c2 := hrow.cells (g := g) rfl _ _ e2
    rw [add_lit'] at c1 c2
    have hs : (ps.map Prod.fst).getD i Seg.none = ps[i].1 := by simp [List.getD, hi']
    rw [hs]
    have hr := hin ps[i] (List.getElem_mem hi')
    obtain ⟨q', c', hv', hc1, hc2⟩ := row_form hr
    rw [hv'] at hr c2
    refine ⟨c1, q', ps[i].1.nums.length, c', ?_, rfl, hc1, hc2, row_ints hr⟩
    rw [show 0 + i * 2 + 1 = 0 + (i * 2 + 1) from by omega]
    exact c2

/-- append of one segment to segments of one's own. -/
theorem wpList_apps {ops : Array Oper} {rest : List Oper} {o : Oper} {a : Act} {w : World} {Q : Exit → Act → World → Prop} (hgd : o.guard = none) (s x : Operand)
    (ho : o.op = .call { callee := .builtin .append, args := #[s, x], argTypes := #[23, 23] })
    (B : Nat) (q : Option Addr) (cap n : Nat) (l : List Seg) (hown : PathOwn w B q n cap l) (hs : a.eval s = .slice q n cap)
    (g : Nat) (y : Seg) (v : Value) (hx : a.eval x = .slice (some ⟨g, 0, none⟩) 1 1) (hc : Blk w g 88 [.bool y.set, v]) (hv : v.oneCell' = true) (hr : w.ownsRow B 3 1 v y.nums.length (y.nums.map (Value.int .i64))) (h40 : n + 1 ≤ 1099511627776) (hB : B ≤ w.heap.size)
    (h : ∀ q' cap' w', Hid (PathOwn w' B q' (n + 1) cap' (l ++ [y])) → Hid (w.grownBy w' (Value.slice q n cap).ownBlock) → wpList Tryd.prog ops Q rest (a.put o.dst (.slice q' (n + 1) cap')) w') :
    wpList Tryd.prog ops Q (o :: rest) a w := by
  obtain ⟨i0, hi, hz0, hz1, hz2⟩ := info_parts infoSeg
  obtain ⟨ps, hl, hn, hrow, hin⟩ := hown
  refine wpList_append_own w hgd s x 23 ho B 88 i0 (.agg #[.bool false, .slice none 0 0]) 2 32 Tryd.underlying23 hi hz0 hz1 hz2 rfl (by decide) _ n _ hs hrow ⟨g, 0, none⟩ 1 1 [.bool y.set, v] hx rfl (fun j u hj => ?_) (fun u hu => ?_) (by unfold maxLen; omega) (by omega) hB (fun v' w' h2 h3 _ => ?_)
  · have hjl : j < 2 := by
      rcases Nat.lt_or_ge j 2 with h | h
      · exact h
      · rw [List.getElem?_eq_none (by simpa using h)] at hj; cases hj
    rw [add_lit', Nat.zero_add, hc.cell j (by simpa using hjl)]
    have : j = 0 ∨ j = 1 := by omega
    rcases this with rfl | rfl <;> simpa using hj
  · simp at hu
    rcases hu with rfl | rfl
    · rfl
    · exact hv
  · obtain ⟨q', cap', rfl, _, _⟩ := row_form h2
    refine h q' cap' w' (Lib.hid ⟨ps ++ [(y, v)], by rw [List.map_append, hl]; rfl, by rw [List.length_append, hn]; rfl, ?_, ?_⟩) (Lib.hid h3)
    · unfold pcells
      rw [List.flatMap_append]
      simpa [pcells] using h2
    · intro p hp
      have hk : ∀ {v1 : Value} {n1 : Nat} {xs1 : List Value}, w.ownsRow B 3 1 v1 n1 xs1 → w'.ownsRow B 3 1 v1 n1 xs1 := by
        intro v1 n1 xs1 hr1
        refine hr1.kept h3 ?_
        rcases hr1.2 with ⟨rfl, _⟩ | ⟨g1, cap1, cur1, rfl, _, hh1, _⟩
        · exact .inl rfl
        · refine .inr (fun e => ?_)
          rcases hrow.2 with ⟨hv2, _⟩ | ⟨g2, cap2, cur2, hv2, _, hh2, _⟩
          · rw [hv2] at e; simp [Value.ownBlock] at e
          · rw [hv2] at e
            have e' : g1 = g2 := by simpa [Value.ownBlock] using e
            subst e'
            rw [hh1] at hh2
            simp at hh2
      rcases List.mem_append.1 hp with hp | hp
      · exact hk (hin p hp)
      · simp at hp; subst hp; exact hk hr

/-- The segments of bytes; none: they may not be. -/
def numsV (wide : Nat) (xs : List Int) : List Int := (listV (xs.length + 1) wide xs).1
def pathG (wide : Nat) : Nat → List Int → Option (List Seg)
  | 0, _ => some []
  | _ + 1, [] => some []
  | _ + 1, [_] => none
  | f + 1, k :: n :: rest =>
    if n.toNat * wide ≤ rest.length ∧ (k = 1 ∨ k = 2) then (pathG wide f (rest.drop (n.toNat * wide))).map (fun t => ⟨k == 1, numsV wide (rest.take (n.toNat * wide))⟩ :: t) else none
def PathTo (w w' : World) (r : Option (List Seg)) (e : Ending) : Prop :=
  match r with
  | some l => ∃ q n cap, e = .returned (.tuple #[.slice q n cap, .bool true]) ∧ PathOwn w' w.heap.size q n cap l ∧ Below w.heap.size w w'
  | none => e = .returned (.tuple #[.slice none 0 0, .bool false]) ∧ Below w.heap.size w w'
def PathRel (w w1 : World) (gr wide : Nat) (R : Option (List Seg)) (gk : Nat) (v : Value) (wr : World) : Prop :=
  ∃ (acc : List Seg) (m : Nat) (q : Option Addr) (cap : Nat) (ys : List Int) (f : Nat), v = .slice q m cap ∧ PathOwn wr w1.heap.size q m cap acc ∧ m + gk ≤ 1000001 ∧ Below w.heap.size w wr ∧ w1.heap.size ≤ wr.heap.size ∧
    RdAt wr gr (some ys) ∧ ys.length < f ∧ (pathG wide f ys).map (acc ++ ·) = R ∧ gk = ys.length
theorem PathOwn.read {w w' : World} {B n cap gr : Nat} {q : Option Addr} {l : List Seg} (h : PathOwn w B q n cap l) (hg : w.grownBy w' (some gr)) (hgr : gr < B) : PathOwn w' B q n cap l := by
  obtain ⟨ps, k1, k2, k3, k4⟩ := h
  have key : ∀ {E : TypeId} {size : Nat} {v : Value} {k : Nat} {xs : List Value}, w.ownsRow B E size v k xs → w'.ownsRow B E size v k xs := by
    intro E size v k xs hr
    refine hr.kept hg ?_
    rcases hv : v.ownBlock with _ | z
    · exact .inl rfl
    · have := row_block hr z hv
      exact .inr (by simp; omega)
  exact ⟨ps, k1, k2, key k3, fun p hp => key (k4 p hp)⟩

set_option maxRecDepth 100000 in
set_option maxHeartbeats 4000000 in
theorem path_four (p : Option Addr) (xs : List Int) (n c : Nat) (w : World) (hb : BytesAt w p xs) (hn : xs.length = n) (hl : n ≤ 1000000) :
    Calls Tryd.prog 102 #[.slice p n c, .bool true] w fun e w' => PathTo w w' (pathG 4 (xs.length + 1) xs) e := by
  have HF := Lib.hid (show Calls Tryd.prog 31 #[.slice p n c] w fun e w' => NewAt w w' e (fun g => RdAt w' g (some xs)) by subst hn; exact from_any p xs c w (by omega) hb)
  have hn' : xs.length ≤ 1000000 := by omega
  obtain ⟨R, hR⟩ : ∃ R, pathG 4 (xs.length + 1) xs = R := ⟨_, rfl⟩
  rw [hR]
  have HR := Lib.hid hR
  have HN := Lib.hid hn'
  have HWA := fun v : World => Lib.hid (show Calls Tryd.prog 90 #[.bool true] v fun e w' => e = .returned (.int .i64 4) ∧ v = w' from wide_as true v)
  clear hb hn hR hn'
  go_enter Tryd.func102, Tryd.ntmps102
  go_wp2_with fail
  refine HF.out.mono ?_; rintro e w1 ⟨gr, rfl, hnew, hrd, hbel⟩
  have HRD := Lib.hid hrd
  have HBL := Lib.hid hbel
  have hgl := hrd.lt
  clear hrd hbel HF
  go_wp2_with fail
  go_loopg [7] xs.length (fun k v wr => PathRel w w1 gr 4 R k v wr)
  case atStart => exact ⟨[], 0, none, 0, xs, _, rfl, PathOwn.nil _ _, by have := HN.out; omega, HBL.out, Nat.le_refl _, HRD.out, Nat.lt_succ_self _, by rw [HR.out]; cases R <;> simp, rfl⟩
  case round =>
    obtain ⟨acc, m, q, cap, ys, f, rfl, hown, hlen, hbel, hsz, hrd, hf, hp, hk⟩ := hrel
    have HO := Lib.hid hown
    have HB := Lib.hid hbel
    have HP := Lib.hid hp
    have HT := Lib.hid hrd
    have HS := Lib.hid hsz
    have HL := Lib.hid (left_any wr gr _ hrd)
    clear hown hbel hp hrd hsz HRD HR
    obtain ⟨f, rfl⟩ : ∃ f', f = f' + 1 := ⟨f - 1, by omega⟩
    match ys, hf, hk, HP, HT, HL with
    | [], hf, hk, HP, HT, HL =>
      clear hk hf
      go_wp2_with fail
      refine HL.out.mono ?_; rintro e w2 ⟨rfl, rfl⟩
      rw [show leftV (some ([] : List Int)) = 0 from rfl]
      go_wp2_with fail
      go_ret2
      rw [← HP.out]
      exact ⟨q, m, cap, rfl, by simp only [List.append_nil]; exact HO.out.mono HBL.out.size, HB.out⟩
    | [a], hf, hk, HP, HT, HL =>
      have HN1 := Lib.hid (num1_cons (k := a) (t := []) HT.out)
      clear hk hf
      go_wp2_with fail
      refine HL.out.mono ?_; rintro e w2 ⟨rfl, rfl⟩
      rw [show leftV (some [a]) = 1 from rfl]
      go_wp2_with fail
      refine HN1.out.mono ?_; rintro e w2 ⟨rfl, hr, hg⟩
      have HN2 := Lib.hid (num1_nil hr)
      have HB2 := Lib.hid (below_new HB.out hg hnew HB.out.size)
      clear hr hg HN1
      go_wp2_with fail
      refine HN2.out.mono ?_; rintro e w3 ⟨rfl, hr, hg⟩
      have HB3 := Lib.hid (below_new HB2.out hg hnew HB2.out.size)
      have HY := Lib.hid (bytes_bad 0 rfl hr)
      clear hr hg HN2
      go_wp2_with (go_at_call 90; (with_reducible refine (HWA _).out.mono ?_); rintro e w' ⟨rfl, rfl⟩)
      refine HY.out.mono ?_; rintro e w4 ⟨q4, rfl, hrow, hin, _, _, _, hr, hg⟩
      have HB4 := Lib.hid (below_new HB3.out hg hnew HB3.out.size)
      have HLA := Lib.hid (list_any 4 4 rfl (some ⟨q4, 0, none⟩) [] 0 0 w4 (by omega) (by omega) (hrow.bytes hin) rfl (by omega))
      have HR4 := Lib.hid hr
      clear hr hg hrow hin HY
      go_wp2_with (go_at_call 90; (with_reducible refine (HWA _).out.mono ?_); rintro e w' ⟨rfl, rfl⟩)
      refine HLA.out.mono ?_; rintro e w5 ⟨v5, rfl, _, hb5⟩
      have HBD := Lib.hid (bad_any w5 gr _ (HR4.out.below hb5))
      have HB5 := Lib.hid (HB4.out.trans (hb5.mono HB4.out.size))
      clear hb5 HLA
      go_wp2_with fail
      refine HBD.out.mono ?_; rintro e w6 ⟨rfl, rfl⟩
      go_wp2_with fail
      go_ret2
      rw [← HP.out]
      exact ⟨rfl, HB5.out⟩
    | a :: b :: t, hf, hk, HP, HT, HL =>
      have HN1 := Lib.hid (num1_cons (k := a) (t := b :: t) HT.out)
      have hbb := inByte_cons (inByte_tail HT.out.inb)
      obtain ⟨j, rfl⟩ := Int.eq_ofNat_of_zero_le hbb.1
      have hj255 : j ≤ 255 := by omega
      have HEV := Lib.hid (show pathG 4 (f + 1) (a :: (j : Int) :: t) = if j * 4 ≤ t.length ∧ (a = 1 ∨ a = 2) then (pathG 4 f (t.drop (j * 4))).map (fun l => ⟨a == 1, numsV 4 (t.take (j * 4))⟩ :: l) else none from rfl)
      have HLV := Lib.hid (show leftV (some (a :: (j : Int) :: t)) = t.length + 2 from rfl)
      have hkl : gk = t.length + 2 := hk
      have hfl : t.length + 1 < f := by simp at hf; omega
      clear hk hf hbb
      go_wp2_with fail
      refine HL.out.mono ?_; rintro e w2 ⟨rfl, rfl⟩
      rw [HLV.out]
      go_wp2_with fail
      refine HN1.out.mono ?_; rintro e w2 ⟨rfl, hr, hg⟩
      have HN2 := Lib.hid (num1_cons (k := (j : Int)) (t := t) hr)
      have HB2 := Lib.hid (below_new HB.out hg hnew HB.out.size)
      have HO2 := Lib.hid (HO.out.read hg hgl)
      have HS2 := Lib.hid (Nat.le_trans HS.out hg.size)
      clear hr hg HN1 HL HO HB HS
      go_wp2_with fail
      refine HN2.out.mono ?_; rintro e w3 ⟨rfl, hr, hg⟩
      have HB3 := Lib.hid (below_new HB2.out hg hnew HB2.out.size)
      have HO3 := Lib.hid (HO2.out.read hg hgl)
      have HS3 := Lib.hid (Nat.le_trans HS2.out hg.size)
      have HR3 := Lib.hid hr
      clear hr hg HN2 HB2 HO2 HS2
      by_cases hj : j * 4 ≤ t.length
      · have HY := Lib.hid (bytes_ok ((j : Int) * 4) (j * 4) (by omega) hj HR3.out)
        go_wp2_with (go_at_call 90; (with_reducible refine (HWA _).out.mono ?_); rintro e w' ⟨rfl, rfl⟩)
        refine HY.out.mono ?_; rintro e w4 ⟨q4, rfl, hrow, hin, hlen4, _, _, hr, hg⟩
        have HB4 := Lib.hid (below_new HB3.out hg hnew HB3.out.size)
        have HO4 := Lib.hid (HO3.out.read hg hgl)
        have HS4 := Lib.hid (Nat.le_trans HS3.out hg.size)
        have hla := list_any 4 4 rfl (some ⟨q4, 0, none⟩) (t.take (j * 4)) (j * 4) (j * 4) w4 (by omega) (by omega) (hrow.bytes hin) hlen4 (by omega)
        obtain ⟨⟨nl, ok⟩, hnl⟩ : ∃ r, listV ((t.take (j * 4)).length + 1) 4 (t.take (j * 4)) = r := ⟨_, rfl⟩
        rw [hnl] at hla
        have HLA := Lib.hid hla
        have HNL := Lib.hid (show numsV 4 (t.take (j * 4)) = nl from congrArg Prod.fst hnl)
        clear hla hnl
        have HR4 := Lib.hid hr
        clear hr hg hrow hin hlen4 HY HB3 HO3 HS3 HR3
        go_wp2_with (go_at_call 90; (with_reducible refine (HWA _).out.mono ?_); rintro e w' ⟨rfl, rfl⟩)
        refine HLA.out.mono ?_; rintro e w5 ⟨v5, rfl, hr5, hb5⟩
        have HBD := Lib.hid (bad_any w5 gr _ (HR4.out.below hb5))
        have HR5 := Lib.hid (HR4.out.below hb5)
        have HB5 := Lib.hid (HB4.out.trans (hb5.mono HB4.out.size))
        have HO5 := Lib.hid (HO4.out.below hb5)
        have HS5 := Lib.hid (Nat.le_trans HS4.out hb5.size)
        have hr5' : w5.ownsRow w1.heap.size 3 1 v5 nl.length (nl.map (Value.int .i64)) := hr5.mono HS4.out
        obtain ⟨q5, c5, rfl, _, _⟩ := row_form hr5'
        have HV5 := Lib.hid hr5'
        clear hr5'
        clear hb5 hr5 HLA HB4 HO4 HS4 HR4
        go_wp2_with fail
        refine HBD.out.mono ?_; rintro e w6 ⟨rfl, rfl⟩
        rw [show (some (List.drop (j * 4) t)).isNone = false from rfl]
        by_cases hkd : a = 1 ∨ a = 2
        · have HE := Lib.hid (HEV.out.trans (if_pos ⟨hj, hkd⟩))
          clear HEV
          rcases hkd with rfl | rfl
          · go_wp2_with (refine wpList_apps (o := ⟨some 49, _, _, _, _, _⟩) (by rfl) (.tmp 43) (.tmp 48) (by rfl) w1.heap.size q cap m acc (HO5.out.below (new_below w5 (.cells #[.bool true, .slice q5 nl.length c5] 88))) (by rfl) w5.heap.size ⟨true, nl⟩ (.slice q5 nl.length c5) (by rfl) (Blk.new w5 88 [.bool true, .slice q5 nl.length c5]) (by rfl) (row_below HV5.out (new_below w5 (.cells #[.bool true, .slice q5 nl.length c5] 88))) (by omega) (Nat.le_trans HS5.out (new_below w5 (.cells #[.bool true, .slice q5 nl.length c5] 88)).size) ?_; intro q7 cap7 w7 hO7 hG7)
            have HRB := Lib.hid (fun r hr => (show w1.heap.size ≤ r from by
              obtain ⟨_, _, _, h3, _⟩ := HO5.out
              exact row_block h3 r hr))
            have HNW := Lib.hid (new_below w5 (.cells #[.bool true, .slice q5 nl.length c5] 88))
            go_roundg (t.drop (j * 4)).length
            case rel =>
              refine ⟨acc ++ [⟨true, nl⟩], m + 1, q7, cap7, t.drop (j * 4), f, rfl, hO7.out, by rw [List.length_drop]; omega, (HB5.out.trans (HNW.out.mono HB5.out.size)).trans ((Below.refl _ _).grown hG7.out (Nat.le_trans HB5.out.size HNW.out.size) (fun r hr => Nat.le_trans HBL.out.size (HRB.out r hr))), Nat.le_trans (Nat.le_trans HS5.out HNW.out.size) hG7.out.size, (HR5.out.below HNW.out).above hG7.out (fun r hr => Nat.lt_of_lt_of_le hgl (HRB.out r hr)), by rw [List.length_drop]; omega, ?_, rfl⟩
              rw [← HP.out, HE.out, HNL.out, Option.map_map]
              congr 1
              funext l
              simp
            case measure => rw [List.length_drop]; omega
          · go_wp2_with (refine wpList_apps (o := ⟨some 49, _, _, _, _, _⟩) (by rfl) (.tmp 43) (.tmp 48) (by rfl) w1.heap.size q cap m acc (HO5.out.below (new_below w5 (.cells #[.bool false, .slice q5 nl.length c5] 88))) (by rfl) w5.heap.size ⟨false, nl⟩ (.slice q5 nl.length c5) (by rfl) (Blk.new w5 88 [.bool false, .slice q5 nl.length c5]) (by rfl) (row_below HV5.out (new_below w5 (.cells #[.bool false, .slice q5 nl.length c5] 88))) (by omega) (Nat.le_trans HS5.out (new_below w5 (.cells #[.bool false, .slice q5 nl.length c5] 88)).size) ?_; intro q7 cap7 w7 hO7 hG7)
            have HRB := Lib.hid (fun r hr => (show w1.heap.size ≤ r from by
              obtain ⟨_, _, _, h3, _⟩ := HO5.out
              exact row_block h3 r hr))
            have HNW := Lib.hid (new_below w5 (.cells #[.bool false, .slice q5 nl.length c5] 88))
            go_roundg (t.drop (j * 4)).length
            case rel =>
              refine ⟨acc ++ [⟨false, nl⟩], m + 1, q7, cap7, t.drop (j * 4), f, rfl, hO7.out, by rw [List.length_drop]; omega, (HB5.out.trans (HNW.out.mono HB5.out.size)).trans ((Below.refl _ _).grown hG7.out (Nat.le_trans HB5.out.size HNW.out.size) (fun r hr => Nat.le_trans HBL.out.size (HRB.out r hr))), Nat.le_trans (Nat.le_trans HS5.out HNW.out.size) hG7.out.size, (HR5.out.below HNW.out).above hG7.out (fun r hr => Nat.lt_of_lt_of_le hgl (HRB.out r hr)), by rw [List.length_drop]; omega, ?_, rfl⟩
              rw [← HP.out, HE.out, HNL.out, Option.map_map]
              congr 1
              funext l
              simp
            case measure => rw [List.length_drop]; omega
        · have HE := Lib.hid (HEV.out.trans (if_neg (fun h => hkd h.2)))
          have e1 : (a != 1) = true := by rw [bne_iff_ne]; omega
          have e2 : (a != 2) = true := by rw [bne_iff_ne]; omega
          clear hkd HEV
          go_wp2_with fail
          go_ret2
          rw [← HP.out, HE.out]
          exact ⟨rfl, HB5.out⟩
      · have HY := Lib.hid (bytes_bad ((j : Int) * 4) (by simp [okTake]; omega) HR3.out)
        have HE := Lib.hid (HEV.out.trans (if_neg (fun h => hj h.1)))
        go_wp2_with (go_at_call 90; (with_reducible refine (HWA _).out.mono ?_); rintro e w' ⟨rfl, rfl⟩)
        refine HY.out.mono ?_; rintro e w4 ⟨q4, rfl, hrow, hin, _, _, _, hr, hg⟩
        have HB4 := Lib.hid (below_new HB3.out hg hnew HB3.out.size)
        have HLA := Lib.hid (list_any 4 4 rfl (some ⟨q4, 0, none⟩) [] 0 0 w4 (by omega) (by omega) (hrow.bytes hin) rfl (by omega))
        have HR4 := Lib.hid hr
        clear hr hg hrow hin HY HEV
        go_wp2_with (go_at_call 90; (with_reducible refine (HWA _).out.mono ?_); rintro e w' ⟨rfl, rfl⟩)
        refine HLA.out.mono ?_; rintro e w5 ⟨v5, rfl, _, hb5⟩
        have HBD := Lib.hid (bad_any w5 gr _ (HR4.out.below hb5))
        have HB5 := Lib.hid (HB4.out.trans (hb5.mono HB4.out.size))
        clear hb5 HLA
        go_wp2_with fail
        refine HBD.out.mono ?_; rintro e w6 ⟨rfl, rfl⟩
        go_wp2_with fail
        go_ret2
        rw [← HP.out, HE.out]
        exact ⟨rfl, HB5.out⟩

set_option maxRecDepth 100000 in
set_option maxHeartbeats 4000000 in
theorem path_two (p : Option Addr) (xs : List Int) (n c : Nat) (w : World) (hb : BytesAt w p xs) (hn : xs.length = n) (hl : n ≤ 1000000) :
    Calls Tryd.prog 102 #[.slice p n c, .bool false] w fun e w' => PathTo w w' (pathG 2 (xs.length + 1) xs) e := by
  have HF := Lib.hid (show Calls Tryd.prog 31 #[.slice p n c] w fun e w' => NewAt w w' e (fun g => RdAt w' g (some xs)) by subst hn; exact from_any p xs c w (by omega) hb)
  have hn' : xs.length ≤ 1000000 := by omega
  obtain ⟨R, hR⟩ : ∃ R, pathG 2 (xs.length + 1) xs = R := ⟨_, rfl⟩
  rw [hR]
  have HR := Lib.hid hR
  have HN := Lib.hid hn'
  have HWA := fun v : World => Lib.hid (show Calls Tryd.prog 90 #[.bool false] v fun e w' => e = .returned (.int .i64 2) ∧ v = w' from wide_as false v)
  clear hb hn hR hn'
  go_enter Tryd.func102, Tryd.ntmps102
  go_wp2_with fail
  refine HF.out.mono ?_; rintro e w1 ⟨gr, rfl, hnew, hrd, hbel⟩
  have HRD := Lib.hid hrd
  have HBL := Lib.hid hbel
  have hgl := hrd.lt
  clear hrd hbel HF
  go_wp2_with fail
  go_loopg [7] xs.length (fun k v wr => PathRel w w1 gr 2 R k v wr)
  case atStart => exact ⟨[], 0, none, 0, xs, _, rfl, PathOwn.nil _ _, by have := HN.out; omega, HBL.out, Nat.le_refl _, HRD.out, Nat.lt_succ_self _, by rw [HR.out]; cases R <;> simp, rfl⟩
  case round =>
    obtain ⟨acc, m, q, cap, ys, f, rfl, hown, hlen, hbel, hsz, hrd, hf, hp, hk⟩ := hrel
    have HO := Lib.hid hown
    have HB := Lib.hid hbel
    have HP := Lib.hid hp
    have HT := Lib.hid hrd
    have HS := Lib.hid hsz
    have HL := Lib.hid (left_any wr gr _ hrd)
    clear hown hbel hp hrd hsz HRD HR
    obtain ⟨f, rfl⟩ : ∃ f', f = f' + 1 := ⟨f - 1, by omega⟩
    match ys, hf, hk, HP, HT, HL with
    | [], hf, hk, HP, HT, HL =>
      clear hk hf
      go_wp2_with fail
      refine HL.out.mono ?_; rintro e w2 ⟨rfl, rfl⟩
      rw [show leftV (some ([] : List Int)) = 0 from rfl]
      go_wp2_with fail
      go_ret2
      rw [← HP.out]
      exact ⟨q, m, cap, rfl, by simp only [List.append_nil]; exact HO.out.mono HBL.out.size, HB.out⟩
    | [a], hf, hk, HP, HT, HL =>
      have HN1 := Lib.hid (num1_cons (k := a) (t := []) HT.out)
      clear hk hf
      go_wp2_with fail
      refine HL.out.mono ?_; rintro e w2 ⟨rfl, rfl⟩
      rw [show leftV (some [a]) = 1 from rfl]
      go_wp2_with fail
      refine HN1.out.mono ?_; rintro e w2 ⟨rfl, hr, hg⟩
      have HN2 := Lib.hid (num1_nil hr)
      have HB2 := Lib.hid (below_new HB.out hg hnew HB.out.size)
      clear hr hg HN1
      go_wp2_with fail
      refine HN2.out.mono ?_; rintro e w3 ⟨rfl, hr, hg⟩
      have HB3 := Lib.hid (below_new HB2.out hg hnew HB2.out.size)
      have HY := Lib.hid (bytes_bad 0 rfl hr)
      clear hr hg HN2
      go_wp2_with (go_at_call 90; (with_reducible refine (HWA _).out.mono ?_); rintro e w' ⟨rfl, rfl⟩)
      refine HY.out.mono ?_; rintro e w4 ⟨q4, rfl, hrow, hin, _, _, _, hr, hg⟩
      have HB4 := Lib.hid (below_new HB3.out hg hnew HB3.out.size)
      have HLA := Lib.hid (list_any 2 2 rfl (some ⟨q4, 0, none⟩) [] 0 0 w4 (by omega) (by omega) (hrow.bytes hin) rfl (by omega))
      have HR4 := Lib.hid hr
      clear hr hg hrow hin HY
      go_wp2_with (go_at_call 90; (with_reducible refine (HWA _).out.mono ?_); rintro e w' ⟨rfl, rfl⟩)
      refine HLA.out.mono ?_; rintro e w5 ⟨v5, rfl, _, hb5⟩
      have HBD := Lib.hid (bad_any w5 gr _ (HR4.out.below hb5))
      have HB5 := Lib.hid (HB4.out.trans (hb5.mono HB4.out.size))
      clear hb5 HLA
      go_wp2_with fail
      refine HBD.out.mono ?_; rintro e w6 ⟨rfl, rfl⟩
      go_wp2_with fail
      go_ret2
      rw [← HP.out]
      exact ⟨rfl, HB5.out⟩
    | a :: b :: t, hf, hk, HP, HT, HL =>
      have HN1 := Lib.hid (num1_cons (k := a) (t := b :: t) HT.out)
      have hbb := inByte_cons (inByte_tail HT.out.inb)
      obtain ⟨j, rfl⟩ := Int.eq_ofNat_of_zero_le hbb.1
      have hj255 : j ≤ 255 := by omega
      have HEV := Lib.hid (show pathG 2 (f + 1) (a :: (j : Int) :: t) = if j * 2 ≤ t.length ∧ (a = 1 ∨ a = 2) then (pathG 2 f (t.drop (j * 2))).map (fun l => ⟨a == 1, numsV 2 (t.take (j * 2))⟩ :: l) else none from rfl)
      have HLV := Lib.hid (show leftV (some (a :: (j : Int) :: t)) = t.length + 2 from rfl)
      have hkl : gk = t.length + 2 := hk
      have hfl : t.length + 1 < f := by simp at hf; omega
      clear hk hf hbb
      go_wp2_with fail
      refine HL.out.mono ?_; rintro e w2 ⟨rfl, rfl⟩
      rw [HLV.out]
      go_wp2_with fail
      refine HN1.out.mono ?_; rintro e w2 ⟨rfl, hr, hg⟩
      have HN2 := Lib.hid (num1_cons (k := (j : Int)) (t := t) hr)
      have HB2 := Lib.hid (below_new HB.out hg hnew HB.out.size)
      have HO2 := Lib.hid (HO.out.read hg hgl)
      have HS2 := Lib.hid (Nat.le_trans HS.out hg.size)
      clear hr hg HN1 HL HO HB HS
      go_wp2_with fail
      refine HN2.out.mono ?_; rintro e w3 ⟨rfl, hr, hg⟩
      have HB3 := Lib.hid (below_new HB2.out hg hnew HB2.out.size)
      have HO3 := Lib.hid (HO2.out.read hg hgl)
      have HS3 := Lib.hid (Nat.le_trans HS2.out hg.size)
      have HR3 := Lib.hid hr
      clear hr hg HN2 HB2 HO2 HS2
      by_cases hj : j * 2 ≤ t.length
      · have HY := Lib.hid (bytes_ok ((j : Int) * 2) (j * 2) (by omega) hj HR3.out)
        go_wp2_with (go_at_call 90; (with_reducible refine (HWA _).out.mono ?_); rintro e w' ⟨rfl, rfl⟩)
        refine HY.out.mono ?_; rintro e w4 ⟨q4, rfl, hrow, hin, hlen4, _, _, hr, hg⟩
        have HB4 := Lib.hid (below_new HB3.out hg hnew HB3.out.size)
        have HO4 := Lib.hid (HO3.out.read hg hgl)
        have HS4 := Lib.hid (Nat.le_trans HS3.out hg.size)
        have hla := list_any 2 2 rfl (some ⟨q4, 0, none⟩) (t.take (j * 2)) (j * 2) (j * 2) w4 (by omega) (by omega) (hrow.bytes hin) hlen4 (by omega)
        obtain ⟨⟨nl, ok⟩, hnl⟩ : ∃ r, listV ((t.take (j * 2)).length + 1) 2 (t.take (j * 2)) = r := ⟨_, rfl⟩
        rw [hnl] at hla
        have HLA := Lib.hid hla
        have HNL := Lib.hid (show numsV 2 (t.take (j * 2)) = nl from congrArg Prod.fst hnl)
        clear hla hnl
        have HR4 := Lib.hid hr
        clear hr hg hrow hin hlen4 HY HB3 HO3 HS3 HR3
        go_wp2_with (go_at_call 90; (with_reducible refine (HWA _).out.mono ?_); rintro e w' ⟨rfl, rfl⟩)
        refine HLA.out.mono ?_; rintro e w5 ⟨v5, rfl, hr5, hb5⟩
        have HBD := Lib.hid (bad_any w5 gr _ (HR4.out.below hb5))
        have HR5 := Lib.hid (HR4.out.below hb5)
        have HB5 := Lib.hid (HB4.out.trans (hb5.mono HB4.out.size))
        have HO5 := Lib.hid (HO4.out.below hb5)
        have HS5 := Lib.hid (Nat.le_trans HS4.out hb5.size)
        have hr5' : w5.ownsRow w1.heap.size 3 1 v5 nl.length (nl.map (Value.int .i64)) := hr5.mono HS4.out
        obtain ⟨q5, c5, rfl, _, _⟩ := row_form hr5'
        have HV5 := Lib.hid hr5'
        clear hr5'
        clear hb5 hr5 HLA HB4 HO4 HS4 HR4
        go_wp2_with fail
        refine HBD.out.mono ?_; rintro e w6 ⟨rfl, rfl⟩
        rw [show (some (List.drop (j * 2) t)).isNone = false from rfl]
        by_cases hkd : a = 1 ∨ a = 2
        · have HE := Lib.hid (HEV.out.trans (if_pos ⟨hj, hkd⟩))
          clear HEV
          rcases hkd with rfl | rfl
          · go_wp2_with (refine wpList_apps (o := ⟨some 49, _, _, _, _, _⟩) (by rfl) (.tmp 43) (.tmp 48) (by rfl) w1.heap.size q cap m acc (HO5.out.below (new_below w5 (.cells #[.bool true, .slice q5 nl.length c5] 88))) (by rfl) w5.heap.size ⟨true, nl⟩ (.slice q5 nl.length c5) (by rfl) (Blk.new w5 88 [.bool true, .slice q5 nl.length c5]) (by rfl) (row_below HV5.out (new_below w5 (.cells #[.bool true, .slice q5 nl.length c5] 88))) (by omega) (Nat.le_trans HS5.out (new_below w5 (.cells #[.bool true, .slice q5 nl.length c5] 88)).size) ?_; intro q7 cap7 w7 hO7 hG7)
            have HRB := Lib.hid (fun r hr => (show w1.heap.size ≤ r from by
              obtain ⟨_, _, _, h3, _⟩ := HO5.out
              exact row_block h3 r hr))
            have HNW := Lib.hid (new_below w5 (.cells #[.bool true, .slice q5 nl.length c5] 88))
            go_roundg (t.drop (j * 2)).length
            case rel =>
              refine ⟨acc ++ [⟨true, nl⟩], m + 1, q7, cap7, t.drop (j * 2), f, rfl, hO7.out, by rw [List.length_drop]; omega, (HB5.out.trans (HNW.out.mono HB5.out.size)).trans ((Below.refl _ _).grown hG7.out (Nat.le_trans HB5.out.size HNW.out.size) (fun r hr => Nat.le_trans HBL.out.size (HRB.out r hr))), Nat.le_trans (Nat.le_trans HS5.out HNW.out.size) hG7.out.size, (HR5.out.below HNW.out).above hG7.out (fun r hr => Nat.lt_of_lt_of_le hgl (HRB.out r hr)), by rw [List.length_drop]; omega, ?_, rfl⟩
              rw [← HP.out, HE.out, HNL.out, Option.map_map]
              congr 1
              funext l
              simp
            case measure => rw [List.length_drop]; omega
          · go_wp2_with (refine wpList_apps (o := ⟨some 49, _, _, _, _, _⟩) (by rfl) (.tmp 43) (.tmp 48) (by rfl) w1.heap.size q cap m acc (HO5.out.below (new_below w5 (.cells #[.bool false, .slice q5 nl.length c5] 88))) (by rfl) w5.heap.size ⟨false, nl⟩ (.slice q5 nl.length c5) (by rfl) (Blk.new w5 88 [.bool false, .slice q5 nl.length c5]) (by rfl) (row_below HV5.out (new_below w5 (.cells #[.bool false, .slice q5 nl.length c5] 88))) (by omega) (Nat.le_trans HS5.out (new_below w5 (.cells #[.bool false, .slice q5 nl.length c5] 88)).size) ?_; intro q7 cap7 w7 hO7 hG7)
            have HRB := Lib.hid (fun r hr => (show w1.heap.size ≤ r from by
              obtain ⟨_, _, _, h3, _⟩ := HO5.out
              exact row_block h3 r hr))
            have HNW := Lib.hid (new_below w5 (.cells #[.bool false, .slice q5 nl.length c5] 88))
            go_roundg (t.drop (j * 2)).length
            case rel =>
              refine ⟨acc ++ [⟨false, nl⟩], m + 1, q7, cap7, t.drop (j * 2), f, rfl, hO7.out, by rw [List.length_drop]; omega, (HB5.out.trans (HNW.out.mono HB5.out.size)).trans ((Below.refl _ _).grown hG7.out (Nat.le_trans HB5.out.size HNW.out.size) (fun r hr => Nat.le_trans HBL.out.size (HRB.out r hr))), Nat.le_trans (Nat.le_trans HS5.out HNW.out.size) hG7.out.size, (HR5.out.below HNW.out).above hG7.out (fun r hr => Nat.lt_of_lt_of_le hgl (HRB.out r hr)), by rw [List.length_drop]; omega, ?_, rfl⟩
              rw [← HP.out, HE.out, HNL.out, Option.map_map]
              congr 1
              funext l
              simp
            case measure => rw [List.length_drop]; omega
        · have HE := Lib.hid (HEV.out.trans (if_neg (fun h => hkd h.2)))
          have e1 : (a != 1) = true := by rw [bne_iff_ne]; omega
          have e2 : (a != 2) = true := by rw [bne_iff_ne]; omega
          clear hkd HEV
          go_wp2_with fail
          go_ret2
          rw [← HP.out, HE.out]
          exact ⟨rfl, HB5.out⟩
      · have HY := Lib.hid (bytes_bad ((j : Int) * 2) (by simp [okTake]; omega) HR3.out)
        have HE := Lib.hid (HEV.out.trans (if_neg (fun h => hj h.1)))
        go_wp2_with (go_at_call 90; (with_reducible refine (HWA _).out.mono ?_); rintro e w' ⟨rfl, rfl⟩)
        refine HY.out.mono ?_; rintro e w4 ⟨q4, rfl, hrow, hin, _, _, _, hr, hg⟩
        have HB4 := Lib.hid (below_new HB3.out hg hnew HB3.out.size)
        have HLA := Lib.hid (list_any 2 2 rfl (some ⟨q4, 0, none⟩) [] 0 0 w4 (by omega) (by omega) (hrow.bytes hin) rfl (by omega))
        have HR4 := Lib.hid hr
        clear hr hg hrow hin HY HEV
        go_wp2_with (go_at_call 90; (with_reducible refine (HWA _).out.mono ?_); rintro e w' ⟨rfl, rfl⟩)
        refine HLA.out.mono ?_; rintro e w5 ⟨v5, rfl, _, hb5⟩
        have HBD := Lib.hid (bad_any w5 gr _ (HR4.out.below hb5))
        have HB5 := Lib.hid (HB4.out.trans (hb5.mono HB4.out.size))
        clear hb5 HLA
        go_wp2_with fail
        refine HBD.out.mono ?_; rintro e w6 ⟨rfl, rfl⟩
        go_wp2_with fail
        go_ret2
        rw [← HP.out, HE.out]
        exact ⟨rfl, HB5.out⟩
end Go.Proofs.YtpeagakpmjnelaaDoor.Ax
