/- load: the document's loads: set. -/
import Derived.Test.YteeihjdkenlebaaEG
namespace Go.Proofs.Yteeihjdkenlebaa
open Go.RowKit Go.Maps
set_option linter.unusedVariables false
set_option linter.unusedSimpArgs false
set_option maxRecDepth 100000

/-- The document's loads behind it. -/
def RlTo (w w' : World) (X n : Nat) (f : Int → Option Int) (ov : Bool) : Prop := ∃ q' L' n' cap', RlAt w' X q' L' n' cap' ov ∧ AllL f L' ∧ n' ≤ n ∧ Turns (fun k => k = X) w w'
theorem ge_dec {a b : Int} (h : a ≤ b) : decide (a ≤ b) = true := decide_eq_true h
set_option maxHeartbeats 8000000 in
theorem rlset_any (w : World) (X : Nat) (q : Option Addr) (L : List Lo) (n cap : Nat) (ov : Bool) (h : RlAt w X q L n cap ov) (hm : n < 1000000) (f : Int → Option Int) (hL : AllL f L) (i v : Int) (hi : (Lit.int .i64 i).wf = true) (hv0 : 0 ≤ v) (hv1 : v ≤ 9007199254740991) :
    Calls Try.prog 31 #[.pointer (some ⟨X, 0, none⟩), .int .i64 i, .int .i64 v] w fun e w' => e = .returned (.tuple #[]) ∧ RlTo w w' X (n + 1) (setL f i v) ov := by
  have HR := Lib.hid h
  have HAT := Lib.hid h.at_
  have HN := Lib.hid h.len
  have HL := Lib.hid hL
  have HIV := Lib.hid (show InLo ⟨i, v⟩ from ⟨hi, wf_cap hv0 hv1⟩)
  have HC0 := Lib.hid (fun (u : World) (hu : Below w.heap.size w u) => show u.cell? ⟨X, 0, none⟩ = some (.slice q n cap) from (h.blk.next hu).cellAt rfl)
  clear h hL hi
  go_enter Try.func31, Try.ntmps31
  go_wp2_with fail
  go_loopw [8, 6, 7] (fun iv ol dl wr => ∃ (k : Nat) (out : List Lo) (done : Bool) (q1 : Option Addr) (c1 : Nat), k ≤ n ∧ iv = .int .i64 k ∧ (ol = .slice q1 out.length c1 ∧ dl = .bool done) ∧ out.length + (if done then 0 else 1) ≤ k + 1 ∧ StI (L.take k) i v out done ∧ LosOwn wr w.heap.size q1 out.length c1 out ∧ Below w.heap.size w wr) (fun iv _ _ _ => n - (intOf iv).toNat)
  case atStart => exact ⟨0, [], false, none, 0, Nat.zero_le _, rfl, ⟨rfl, rfl⟩, by simp, by rw [List.take_zero]; exact stI_nil i v, LOwn.nil _ _ _ _ _ _, Below.refl _ _⟩
  case round =>
    obtain ⟨k, out, done, q1, c1, hk, rfl, ⟨rfl, rfl⟩, hlen, hst, hown, hB⟩ := hrel
    have HB := Lib.hid hB
    have HST := Lib.hid hst
    have HO := Lib.hid hown
    clear hB hst hown
    obtain ⟨m, hm'⟩ : ∃ m, out.length = m := ⟨_, rfl⟩
    rw [hm'] at hlen HO ⊢
    have HM := Lib.hid hm'
    clear hm'
    by_cases hlt : k < n
    · have hltI : (k : Int) < (n : Int) := by omega
      have c0 := HC0.out wr HB.out
      obtain ⟨x, hx⟩ : ∃ x, L[k]? = some x := ⟨_, List.getElem?_eq_getElem (by rw [HN.out]; exact hlt)⟩
      have HXI := Lib.hid (HAT.out.ok x (List.mem_of_getElem? hx))
      have HX := Lib.hid (take_snocL hx)
      have HP := Lib.hid (show ∀ y ∈ L.take k, y.i < x.i from fun y hy => by
        have h1 := HL.out.srt
        have h2 : (L.take k ++ [x]).Pairwise (fun x y : Lo => x.i < y.i) := by rw [← HX.out]; exact h1.sublist (List.take_sublist _ _)
        exact (List.pairwise_append.1 h2).2.2 y hy x (List.mem_singleton.2 rfl))
      obtain ⟨b, off, rfl, d0, d1⟩ := lo_cell (HAT.out.below HB.out) HN.out hlt
      rw [getD_of hx] at d0 d1
      have HDD := Lib.hid (fun (u : World) (hu : Below w.heap.size w u) => show u.cell? ⟨b, off + k * 2, none⟩ = some (.int .i64 x.i) ∧ u.cell? ⟨b, off + k * 2 + 1, none⟩ = some (.int .i64 x.n) from by
        obtain ⟨b', off', h1, h2, h3⟩ := lo_cell (HAT.out.below hu) HN.out hlt
        simp only [Option.some.injEq, Addr.mk.injEq, and_true] at h1
        obtain ⟨rfl, rfl⟩ := h1
        rw [getD_of hx] at h2 h3
        exact ⟨h2, h3⟩)
      clear hx

      by_cases hge : i ≤ x.i
      · have e1 : decide (i ≤ x.i) = true := decide_eq_true hge
        rcases done with _ | _
        · by_cases hv : 0 < v
          · have e4 : decide (0 < v) = true := decide_eq_true hv
            by_cases he : x.i = i
            · have e2 : (x.i != i) = false := by simpa using he
              have he : ¬ x.i ≠ i := fun h => h he
              have e3 : decide (x.i = i) = true := by simpa using he
              have LITA := Lib.hid (lo_one wr ⟨i, v⟩ HIV.out)
              have OWA := Lib.hid (HO.out.below (newB wr (.cells #[.int .i64 i, .int .i64 v] 63)))
              have HSZA := Lib.hid (show w.heap.size ≤ (wr.alloc (.cells #[.int .i64 i, .int .i64 v] 63)).heap.size from Nat.le_trans HB.out.size (newB wr _).size)
              have HNBA := Lib.hid (newB wr (.cells #[.int .i64 i, .int .i64 v] 63))
              have hl3 : (out ++ [(⟨i, v⟩ : Lo)]).length = m + 1 := by rw [List.length_append, HM.out]; rfl
              go_wp2_with (refine wpList_appL (o := ⟨some 39, _, _, _, _, _⟩) rowLo (by kernel_rfl) (.tmp 34) (.tmp 38) rfl w.heap.size q1 m c1 _ OWA.out rfl (some ⟨wr.heap.size, 0, none⟩) 1 1 [⟨i, v⟩] LITA.out rfl rfl (m + 1) rfl (by omega) HSZA.out ?_; intro q3 cap3 w3 hO3 hB3; have HB3 := Lib.hid ((HB.out.trans (HNBA.out.mono HB.out.size)).trans hB3.out); have HO3 := Lib.hid hO3.out; clear c0 d0 d1; have c0 := HC0.out w3 HB3.out; obtain ⟨d0, d1⟩ := HDD.out w3 HB3.out)
              go_roundw
              case rel => exact ⟨k + 1, _, _, _, _, by omega, by go_num, ⟨by rw [hl3], rfl⟩, by rw [hl3]; simp only [Bool.false_eq_true, if_false, if_true] at *; omega, by rw [HX.out]; have h := StI.step (v := v) (d1 := true) HP.out (HST.out.put hge hv).1 (hm := fun y => ((HST.out.put hge hv).2 y).trans ⟨fun h => h.elim .inl fun h => .inr ⟨rfl, hv, h⟩, fun h => h.elim .inl fun h => .inr h.2.2⟩) (hd := ⟨fun _ => ⟨x, List.mem_append_right _ (List.mem_singleton.2 rfl), hge⟩, fun _ => rfl⟩); rw [if_neg he] at h; exact h, by rw [hl3]; exact HO3.out, HB3.out⟩
              case measure => simp [intOf]; omega
            · have he : x.i ≠ i := he
              have e2 : (x.i != i) = true := by simpa using he
              have e3 : decide (x.i = i) = false := by simpa using he
              have LITA := Lib.hid (lo_one wr ⟨i, v⟩ HIV.out)
              have OWA := Lib.hid (HO.out.below (newB wr (.cells #[.int .i64 i, .int .i64 v] 63)))
              have HSZA := Lib.hid (show w.heap.size ≤ (wr.alloc (.cells #[.int .i64 i, .int .i64 v] 63)).heap.size from Nat.le_trans HB.out.size (newB wr _).size)
              have HNBA := Lib.hid (newB wr (.cells #[.int .i64 i, .int .i64 v] 63))
              have hl3 : (out ++ [(⟨i, v⟩ : Lo)]).length = m + 1 := by rw [List.length_append, HM.out]; rfl
              go_wp2_with (first | (refine wpList_appL (o := ⟨some 39, _, _, _, _, _⟩) rowLo (by kernel_rfl) (.tmp 34) (.tmp 38) rfl w.heap.size q1 m c1 _ OWA.out rfl (some ⟨wr.heap.size, 0, none⟩) 1 1 [⟨i, v⟩] LITA.out rfl rfl (m + 1) rfl (by omega) HSZA.out ?_; intro q3 cap3 w3 hO3 hB3; have HB3 := Lib.hid ((HB.out.trans (HNBA.out.mono HB.out.size)).trans hB3.out); have HO3 := Lib.hid hO3.out; clear c0 d0 d1; have c0 := HC0.out w3 HB3.out; obtain ⟨d0, d1⟩ := HDD.out w3 HB3.out; have LITB := Lib.hid (lo_one w3 ⟨x.i, x.n⟩ HXI.out); have OWB := Lib.hid (HO3.out.below (newB w3 (.cells #[.int .i64 x.i, .int .i64 x.n] 63))); have HSZB := Lib.hid (show w.heap.size ≤ (w3.alloc (.cells #[.int .i64 x.i, .int .i64 x.n] 63)).heap.size from Nat.le_trans HB3.out.size (newB w3 _).size); have HNBB := Lib.hid (newB w3 (.cells #[.int .i64 x.i, .int .i64 x.n] 63))) | (refine wpList_appL (o := ⟨some 59, _, _, _, _, _⟩) rowLo (by kernel_rfl) (.tmp 50) (.tmp 58) rfl w.heap.size q3 (m + 1) cap3 _ OWB.out rfl (some ⟨w3.heap.size, 0, none⟩) 1 1 [⟨x.i, x.n⟩] LITB.out rfl rfl ((m + 1) + 1) rfl (by omega) HSZB.out ?_; intro q9 cap9 w9 hO9 hB9))
              go_roundw
              case rel => exact ⟨k + 1, (out ++ [(⟨i, v⟩ : Lo)]) ++ [x], _, _, _, by omega, by go_num, ⟨by rw [List.length_append, hl3]; rfl, rfl⟩, by rw [List.length_append, hl3]; simp only [Bool.false_eq_true, if_false, if_true, List.length_singleton] at *; omega, by rw [HX.out]; have h := StI.step (v := v) (d1 := true) HP.out (HST.out.put hge hv).1 (hm := fun y => ((HST.out.put hge hv).2 y).trans ⟨fun h => h.elim .inl fun h => .inr ⟨rfl, hv, h⟩, fun h => h.elim .inl fun h => .inr h.2.2⟩) (hd := ⟨fun _ => ⟨x, List.mem_append_right _ (List.mem_singleton.2 rfl), hge⟩, fun _ => rfl⟩); rw [if_pos he] at h; exact h, by rw [List.length_append, hl3]; exact hO9.out, (HB3.out.trans (HNBB.out.mono HB3.out.size)).trans hB9.out⟩
              case measure => simp [intOf]; omega
          · have e4 : decide (0 < v) = false := decide_eq_false hv
            by_cases he : x.i = i
            · have e2 : (x.i != i) = false := by simpa using he
              have he : ¬ x.i ≠ i := fun h => h he
              have e3 : decide (x.i = i) = true := by simpa using he
              go_wp2_with fail
              go_roundw
              case rel => exact ⟨k + 1, _, _, _, _, by omega, by go_num, ⟨by rw [HM.out], rfl⟩, by rw [HM.out]; simp only [Bool.false_eq_true, if_false, if_true] at *; omega, by rw [HX.out]; have h := StI.step (v := v) (d1 := true) HP.out HST.out.srt (hm := fun y => (HST.out.mem y).trans ⟨fun h => h.elim .inl fun h => (by cases h.1), fun h => h.elim .inl fun h => absurd h.2.1 hv⟩) (hd := ⟨fun _ => ⟨x, List.mem_append_right _ (List.mem_singleton.2 rfl), hge⟩, fun _ => rfl⟩); rw [if_neg he] at h; exact h, by rw [HM.out]; exact HO.out, HB.out⟩
              case measure => simp [intOf]; omega
            · have he : x.i ≠ i := he
              have e2 : (x.i != i) = true := by simpa using he
              have e3 : decide (x.i = i) = false := by simpa using he
              have LITB := Lib.hid (lo_one wr ⟨x.i, x.n⟩ HXI.out)
              have OWB := Lib.hid (HO.out.below (newB wr (.cells #[.int .i64 x.i, .int .i64 x.n] 63)))
              have HSZB := Lib.hid (show w.heap.size ≤ (wr.alloc (.cells #[.int .i64 x.i, .int .i64 x.n] 63)).heap.size from Nat.le_trans HB.out.size (newB wr _).size)
              have HNBB := Lib.hid (newB wr (.cells #[.int .i64 x.i, .int .i64 x.n] 63))
              go_wp2_with (refine wpList_appL (o := ⟨some 59, _, _, _, _, _⟩) rowLo (by kernel_rfl) (.tmp 50) (.tmp 58) rfl w.heap.size q1 m c1 _ OWB.out rfl (some ⟨wr.heap.size, 0, none⟩) 1 1 [⟨x.i, x.n⟩] LITB.out rfl rfl (m + 1) rfl (by omega) HSZB.out ?_; intro q9 cap9 w9 hO9 hB9)
              go_roundw
              case rel => exact ⟨k + 1, out ++ [x], _, _, _, by omega, by go_num, ⟨by rw [List.length_append, HM.out]; rfl, rfl⟩, by rw [List.length_append, HM.out]; simp only [Bool.false_eq_true, if_false, if_true, List.length_singleton] at *; omega, by rw [HX.out]; have h := StI.step (v := v) (d1 := true) HP.out HST.out.srt (hm := fun y => (HST.out.mem y).trans ⟨fun h => h.elim .inl fun h => (by cases h.1), fun h => h.elim .inl fun h => absurd h.2.1 hv⟩) (hd := ⟨fun _ => ⟨x, List.mem_append_right _ (List.mem_singleton.2 rfl), hge⟩, fun _ => rfl⟩); rw [if_pos he] at h; exact h, by rw [List.length_append, HM.out]; exact hO9.out, (HB.out.trans (HNBB.out.mono HB.out.size)).trans hB9.out⟩
              case measure => simp [intOf]; omega
        · skip
          by_cases he : x.i = i
          · have e2 : (x.i != i) = false := by simpa using he
            have he : ¬ x.i ≠ i := fun h => h he
            have e3 : decide (x.i = i) = true := by simpa using he
            go_wp2_with fail
            go_roundw
            case rel => exact ⟨k + 1, _, _, _, _, by omega, by go_num, ⟨by rw [HM.out], rfl⟩, by rw [HM.out]; simp only [Bool.false_eq_true, if_false, if_true] at *; omega, by rw [HX.out]; have h := StI.step HP.out HST.out.srt true HST.out.mem ⟨fun _ => ⟨x, List.mem_append_right _ (List.mem_singleton.2 rfl), hge⟩, fun _ => rfl⟩; rw [if_neg he] at h; exact h, by rw [HM.out]; exact HO.out, HB.out⟩
            case measure => simp [intOf]; omega
          · have he : x.i ≠ i := he
            have e2 : (x.i != i) = true := by simpa using he
            have e3 : decide (x.i = i) = false := by simpa using he
            have LITB := Lib.hid (lo_one wr ⟨x.i, x.n⟩ HXI.out)
            have OWB := Lib.hid (HO.out.below (newB wr (.cells #[.int .i64 x.i, .int .i64 x.n] 63)))
            have HSZB := Lib.hid (show w.heap.size ≤ (wr.alloc (.cells #[.int .i64 x.i, .int .i64 x.n] 63)).heap.size from Nat.le_trans HB.out.size (newB wr _).size)
            have HNBB := Lib.hid (newB wr (.cells #[.int .i64 x.i, .int .i64 x.n] 63))
            go_wp2_with (refine wpList_appL (o := ⟨some 59, _, _, _, _, _⟩) rowLo (by kernel_rfl) (.tmp 50) (.tmp 58) rfl w.heap.size q1 m c1 _ OWB.out rfl (some ⟨wr.heap.size, 0, none⟩) 1 1 [⟨x.i, x.n⟩] LITB.out rfl rfl (m + 1) rfl (by omega) HSZB.out ?_; intro q9 cap9 w9 hO9 hB9)
            go_roundw
            case rel => exact ⟨k + 1, out ++ [x], _, _, _, by omega, by go_num, ⟨by rw [List.length_append, HM.out]; rfl, rfl⟩, by rw [List.length_append, HM.out]; simp only [Bool.false_eq_true, if_false, if_true, List.length_singleton] at *; omega, by rw [HX.out]; have h := StI.step HP.out HST.out.srt true HST.out.mem ⟨fun _ => ⟨x, List.mem_append_right _ (List.mem_singleton.2 rfl), hge⟩, fun _ => rfl⟩; rw [if_pos he] at h; exact h, by rw [List.length_append, HM.out]; exact hO9.out, (HB.out.trans (HNBB.out.mono HB.out.size)).trans hB9.out⟩
            case measure => simp [intOf]; omega
      · have e1 : decide (i ≤ x.i) = false := decide_eq_false hge
        have he : x.i ≠ i := fun h => hge (by omega)
        have e2 : (x.i != i) = true := by simpa using he
        have e3 : decide (x.i = i) = false := by simpa using he
        have LITB := Lib.hid (lo_one wr ⟨x.i, x.n⟩ HXI.out)
        have OWB := Lib.hid (HO.out.below (newB wr (.cells #[.int .i64 x.i, .int .i64 x.n] 63)))
        have HSZB := Lib.hid (show w.heap.size ≤ (wr.alloc (.cells #[.int .i64 x.i, .int .i64 x.n] 63)).heap.size from Nat.le_trans HB.out.size (newB wr _).size)
        have HNBB := Lib.hid (newB wr (.cells #[.int .i64 x.i, .int .i64 x.n] 63))
        go_wp2_with (refine wpList_appL (o := ⟨some 59, _, _, _, _, _⟩) rowLo (by kernel_rfl) (.tmp 50) (.tmp 58) rfl w.heap.size q1 m c1 _ OWB.out rfl (some ⟨wr.heap.size, 0, none⟩) 1 1 [⟨x.i, x.n⟩] LITB.out rfl rfl (m + 1) rfl (by omega) HSZB.out ?_; intro q9 cap9 w9 hO9 hB9)
        go_roundw
        case rel => exact ⟨k + 1, out ++ [x], _, _, _, by omega, by go_num, ⟨by rw [List.length_append, HM.out]; rfl, rfl⟩, by rw [List.length_append, HM.out]; simp only [Bool.false_eq_true, if_false, if_true, List.length_singleton] at *; omega, by rw [HX.out]; have h := StI.step HP.out HST.out.srt done HST.out.mem (HST.out.dn.trans ⟨fun ⟨y, hy, h⟩ => ⟨y, List.mem_append_left _ hy, h⟩, fun ⟨y, hy, h⟩ => by rcases List.mem_append.1 hy with hy | hy; exact ⟨y, hy, h⟩; rw [List.mem_singleton] at hy; subst hy; exact absurd h hge⟩); rw [if_pos he] at h; exact h, by rw [List.length_append, HM.out]; exact hO9.out, (HB.out.trans (HNBB.out.mono HB.out.size)).trans hB9.out⟩
        case measure => simp [intOf]; omega
    · obtain rfl : k = n := by omega
      have c0 := HC0.out wr HB.out
      have f0 := (HR.out.blk.next HB.out).f 0
      have hst := HST.out
      rw [show L.take k = L from List.take_of_length_le (by rw [HN.out]; exact Nat.le_refl _)] at hst
      have HE := Lib.hid (StI.end_ HL.out hv0 hst)
      have hkI : ¬ (k : Int) < (k : Int) := by omega
      have hXw := HR.out.blk.lt
      have hfin : ∀ (u : World) (q' : Option Addr) (o : List Lo) (nn cc : Nat), Below w.heap.size w u → LosOwn u w.heap.size q' nn cc o → RlAt (u.setCell ⟨X, 0, none⟩ (.slice q' nn cc)) X q' o nn cc ov ∧ Turns (fun k => k = X) w (u.setCell ⟨X, 0, none⟩ (.slice q' nn cc)) := fun u q' o nn cc hu ho => by
        have hT : Turns (fun k => k = X) u (u.setCell ⟨X, 0, none⟩ (.slice q' nn cc)) := (Turns.refl (fun k => k = X) u).setCell (p := ⟨X, 0, none⟩) (.inl rfl) _
        have hne : ∀ b off, q' = some ⟨b, off, none⟩ → b ≠ X := fun b off e => by
          have h1 := own_ge ho b off e
          omega
        exact ⟨⟨(HR.out.blk.next hu).set 0 _, (ho.at rowLo).turns hT fun b off e h => hne b off e h, ho.len, hne⟩, (Turns.of_below hu).trans hT⟩
      have HFN := Lib.hid hfin
      clear hst hfin
      rcases done with _ | _
      · by_cases hv : 0 < v
        · have e4 : decide (0 < v) = true := decide_eq_true hv
          have LITA := Lib.hid (lo_one wr ⟨i, v⟩ HIV.out)
          have OWA := Lib.hid (HO.out.below (newB wr (.cells #[.int .i64 i, .int .i64 v] 63)))
          have HSZA := Lib.hid (show w.heap.size ≤ (wr.alloc (.cells #[.int .i64 i, .int .i64 v] 63)).heap.size from Nat.le_trans HB.out.size (newB wr _).size)
          have HNBA := Lib.hid (newB wr (.cells #[.int .i64 i, .int .i64 v] 63))
          go_wp2_with (refine wpList_appL (o := ⟨some 71, _, _, _, _, _⟩) rowLo (by kernel_rfl) (.tmp 66) (.tmp 70) rfl w.heap.size q1 m c1 _ OWA.out rfl (some ⟨wr.heap.size, 0, none⟩) 1 1 [⟨i, v⟩] LITA.out rfl rfl (m + 1) rfl (by omega) HSZA.out ?_; intro q3 cap3 w3 hO3 hB3; have HB3 := Lib.hid ((HB.out.trans (HNBA.out.mono HB.out.size)).trans hB3.out); clear c0 f0; have c0 := HC0.out w3 HB3.out; have f0 := (HR.out.blk.next HB3.out).f 0)
          go_end0
          have h := HFN.out w3 q3 _ (m + 1) cap3 HB3.out hO3.out
          have he := HE.out
          rw [if_pos (by simp [hv])] at he
          exact ⟨rfl, q3, _, m + 1, cap3, h.1, he, by simp only [Bool.false_eq_true, if_false] at hlen; omega, h.2⟩
        · have e4 : decide (0 < v) = false := decide_eq_false hv
          go_wp2_with fail
          go_end0
          have h := HFN.out wr q1 out m c1 HB.out HO.out
          have he := HE.out
          rw [if_neg (by simp [hv])] at he
          exact ⟨rfl, q1, out, m, c1, h.1, he, by simp only [Bool.false_eq_true, if_false] at hlen; omega, h.2⟩
      · go_wp2_with fail
        go_end0
        have h := HFN.out wr q1 out m c1 HB.out HO.out
        have he := HE.out
        rw [if_neg (by simp)] at he
        exact ⟨rfl, q1, out, m, c1, h.1, he, by simp only [if_true] at hlen; omega, h.2⟩
end Go.Proofs.Yteeihjdkenlebaa
