/- 'OpenCaps': capabilities that count for nothing change nothing. -/
import Derived.Test.YthpadbeilecpeaaO9
import Derived.Test.YthpadbeilecpeaaOC
import Derived.Test.YthpadbeilecpeaaOE
namespace Go.Proofs.Ythpadbeilecpeaa
open Go.RowKit

theorem Own.setAt {w : World} {B g off cap : Nat} {xs : List Int} (h : Own w B (some ⟨g, off, none⟩) cap xs) (i : Nat) (hi : i < xs.length) (x : Int) (h0 : 0 ≤ x) (h1 : x ≤ 255) :
    Own (w.setCell ⟨g, off + i, none⟩ (.int .u8 x)) B (some ⟨g, off, none⟩) cap (xs.set i x) := by
  obtain ⟨hx, hle, hm, hv⟩ := h
  refine ⟨fun j hj => ?_, by simpa using hle, hm, .inr ?_⟩
  · rw [List.length_set] at hj
    by_cases e : j = i
    · subst e; simp [List.getD, hj]; omega
    · have := hx j hj
      simpa [List.getD, List.getElem?_set_ne (Ne.symm e)] using this
  · rcases hv with ⟨h0, _⟩ | ⟨g', off', hp, hb, hlt, hc, ht⟩
    · cases h0
    · obtain ⟨rfl, rfl⟩ : g = g' ∧ off = off' := by simpa using hp
      refine ⟨g, off, rfl, hb, by simpa [World.setCell] using hlt, fun j hj => ?_, fun j hj => ?_⟩
      · rw [List.length_set] at hj
        by_cases e : j = i
        · subst e
          rw [World.cell?_setCell_same _ _ _ (hc j hj)]
          simp [List.getD, hj]
        · rw [World.cell?_setCell_other _ _ _ _ (by intro hh; simp at hh <;> omega), hc j hj]
          simp [List.getD, List.getElem?_set_ne (Ne.symm e)]
      · rw [World.frozen?_setCell]
        refine ⟨?_, (ht j hj).2⟩
        by_cases e : j = i
        · subst e
          rw [World.cell?_setCell_same _ _ _ (hc j hi)]; rfl
        · rw [World.cell?_setCell_other _ _ _ _ (by intro hh; simp at hh <;> omega)]; exact (ht j hj).1
theorem own_at {w : World} {B : Nat} {p : Option Addr} {cap : Nat} {xs : List Int} (h : Own w B p cap xs) (i : Nat) (hi : i < xs.length) : ∃ g off, p = some ⟨g, off, none⟩ ∧ B ≤ g ∧ w.cell? ⟨g, off + i, none⟩ = some (.int .u8 (xs.getD i 0)) ∧ w.frozen? ⟨g, off + i, none⟩ = false := by
  have hle := h.le
  rcases h.val with ⟨_, h0⟩ | ⟨g, off, hp, hb, _, hc, ht⟩
  · omega
  · exact ⟨g, off, hp, hb, hc i hi, (ht i (by omega)).2⟩
theorem u8_in {x : Int} (h0 : 0 ≤ x) (h1 : x ≤ 255) : IntKind.u8.wrap x = x := by
  rw [show IntKind.u8.wrap x = x % 256 from by first | rfl | exact IntKind.wrap_u8 _ | exact IntKind.wrap_u8' _]; omega
theorem set_nine (o : Op) (t : List Int) (x : Int) : (putO o ++ t).set 9 x = frontO o ++ (x :: (saidO o ++ t)) := by
  have hl := front_len o
  unfold putO
  rw [List.append_assoc, List.cons_append, List.set_append_right _ _ (by omega), hl, Nat.sub_self, List.set_cons_zero]

/-- What is asked ahead. -/
def capsB (ok : Bool) (code : Int) (m : Nat) : Bool := ok && (decide (0 ≤ code) && (decide (code ≤ 255) && (!(code == 65) && (!(code == 69) && decide (m ≤ 200)))))
theorem caps_off (asn hold id paths code : Int) (four : Bool) (p : Option Addr) (m c : Nat) (w : World) (h : capsB (okO ⟨asn, hold, id, four, paths⟩) code m = false) :
    Calls Try.prog 3 #[.agg #[.int .i64 asn, .int .i64 hold, .int .u32 id, .bool four, .int .i64 paths], .int .i64 code, .slice p m c] w fun e w' => e = .returned (.bool true) ∧ Below w.heap.size w w' := by
  have HR := fun v : World => Lib.hid (rcheck_any asn hold id paths four v)
  have H0 := Lib.hid (new_below w (.cells #[.int .i64 asn, .int .i64 hold, .int .u32 id, .bool four, .int .i64 paths] 24))
  have hc : okO ⟨asn, hold, id, four, paths⟩ = false ∨ (okO ⟨asn, hold, id, four, paths⟩ = true ∧ (code < 0 ∨ (0 ≤ code ∧ 255 < code) ∨ code = 65 ∨ code = 69 ∨ (0 ≤ code ∧ code ≤ 255 ∧ (code == 65) = false ∧ (code == 69) = false ∧ 200 < m))) := by
    rcases hk : okO ⟨asn, hold, id, four, paths⟩ with _ | _
    · exact .inl rfl
    · refine .inr ⟨rfl, ?_⟩
      rw [hk] at h
      by_cases b1 : 0 ≤ code
      · by_cases b2 : code ≤ 255
        · by_cases b3 : code = 65
          · exact .inr (.inr (.inl b3))
          · by_cases b4 : code = 69
            · exact .inr (.inr (.inr (.inl b4)))
            · have e3 : (code == 65) = false := by simpa using b3
              have e4 : (code == 69) = false := by simpa using b4
              refine .inr (.inr (.inr (.inr ⟨b1, b2, e3, e4, ?_⟩)))
              by_cases b5 : m ≤ 200
              · simp [capsB, b1, b2, e3, e4, b5] at h
              · omega
        · exact .inr (.inl ⟨b1, by omega⟩)
      · exact .inl (by omega)
  clear h
  rcases hc with hk | ⟨hk, hc⟩
  · rw [hk] at HR
    clear hk
    go_enter Try.func3, Try.ntmps3
    go_wp2_with fail
    (with_reducible refine (HR _).out.mono ?_); rintro e w1 ⟨rfl, hb⟩
    have HB1 := Lib.hid (H0.out.trans (hb.mono H0.out.size))
    have HL := Lib.hid (lives_any w1)
    clear hb HR
    go_wp2_with fail
    refine HL.out.mono ?_; rintro e w2 ⟨rfl, hb⟩
    have HB2 := Lib.hid (HB1.out.trans (hb.mono HB1.out.size))
    clear hb
    go_wp2_with fail
    go_ret
    exact ⟨rfl, HB2.out⟩
  · rw [hk] at HR
    clear hk
    rcases hc with b1 | ⟨b1, b2⟩ | rfl | rfl | ⟨b1, b2, b3, b4, b5⟩
    all_goals
      try have t1 : decide ((200 : Int) < (m : Int)) = true := by simp; omega
      go_enter Try.func3, Try.ntmps3
      go_wp2_with fail
      (with_reducible refine (HR _).out.mono ?_); rintro e w1 ⟨rfl, hb⟩
      have HB1 := Lib.hid (H0.out.trans (hb.mono H0.out.size))
      have HL := Lib.hid (lives_any w1)
      clear hb HR
      go_wp2_with fail
      refine HL.out.mono ?_; rintro e w2 ⟨rfl, hb⟩
      have HB2 := Lib.hid (HB1.out.trans (hb.mono HB1.out.size))
      clear hb
      go_wp2_with fail
      go_ret
      exact ⟨rfl, HB2.out⟩

set_option maxHeartbeats 2000000 in
theorem caps_on (asn hold id paths code : Int) (four : Bool) (p : Option Addr) (ys : List Int) (m c : Nat) (w : World) (hy : BytesAt w p ys) (hm : ys.length = m) (i0 : 0 ≤ id) (i1 : id ≤ 4294967295) (h : capsB (okO ⟨asn, hold, id, four, paths⟩) code m = true) :
    Calls Try.prog 3 #[.agg #[.int .i64 asn, .int .i64 hold, .int .u32 id, .bool four, .int .i64 paths], .int .i64 code, .slice p m c] w fun e w' => e = .returned (.bool true) ∧ Below w.heap.size w w' := by
  unfold capsB at h
  simp only [Bool.and_eq_true, decide_eq_true_eq, Bool.not_eq_true'] at h
  obtain ⟨hk, b1, b2, b3, b4, b5⟩ := h
  have HR := fun v : World => Lib.hid (rcheck_yes asn hold id paths four v hk)
  have HP := fun v : World => Lib.hid (rput_any asn hold id paths four v hk i0 i1)
  have H0 := Lib.hid (new_below w (.cells #[.int .i64 asn, .int .i64 hold, .int .u32 id, .bool four, .int .i64 paths] 24))
  have K0 := Lib.hid (Blk.new w 24 [.int .i64 asn, .int .i64 hold, .int .u32 id, .bool four, .int .i64 paths])
  have Y0 := Lib.hid hy
  have HM := Lib.hid hm
  have t1 : decide ((200 : Int) < (m : Int)) = false := by simp; omega
  have hw1 : IntKind.u8.wrap ((m : Int) + 2) = (m : Int) + 2 := u8_in (by omega) (by omega)
  have hw2 : IntKind.u8.wrap code = code := u8_in b1 b2
  have hw3 : IntKind.u8.wrap (m : Int) = (m : Int) := u8_in (by omega) (by omega)
  have hcl := caps_len (o := ⟨asn, hold, id, four, paths⟩)
  obtain ⟨n, hn⟩ : ∃ n, (putO ⟨asn, hold, id, four, paths⟩).length = n := ⟨_, rfl⟩
  have hnb : 10 ≤ n ∧ n ≤ 30 := by
    rw [← hn]; unfold putO saidO; simp [front_len]; omega
  have HSET := Lib.hid (set_nine ⟨asn, hold, id, four, paths⟩ ([2, (m : Int) + 2, code, (m : Int)] ++ ys) ((n : Int) + 4 + m - 10))
  have HGET := Lib.hid (show getO (frontO ⟨asn, hold, id, four, paths⟩ ++ (((n : Int) + 4 + m - 10) :: (saidO ⟨asn, hold, id, four, paths⟩ ++ ([2, (m : Int) + 2, code, (m : Int)] ++ ys)))) = ⟨⟨asn, hold, id, four, paths⟩, 0, 0, []⟩ from by
    have := getO_caps hk i0 i1 code (by simpa using b3) (by simpa using b4) ys
    rw [hm] at this
    have e : (((saidO ⟨asn, hold, id, four, paths⟩ ++ (2 :: ((m + 2 : Nat) : Int) :: code :: (m : Int) :: ys)).length : Nat) : Int) = (n : Int) + 4 + m - 10 := by
      rw [← hn, ← hm]; unfold putO; simp [front_len]; omega
    rw [e] at this
    exact this)
  obtain ⟨po, hpo⟩ : ∃ po, putO ⟨asn, hold, id, four, paths⟩ = po := ⟨_, rfl⟩
  rw [hpo] at HP hn HSET
  obtain ⟨fin, hfin⟩ : ∃ fin, frontO ⟨asn, hold, id, four, paths⟩ ++ (((n : Int) + 4 + m - 10) :: (saidO ⟨asn, hold, id, four, paths⟩ ++ ([2, (m : Int) + 2, code, (m : Int)] ++ ys))) = fin := ⟨_, rfl⟩
  rw [hfin] at HSET HGET
  have HN := Lib.hid hn
  have hw4 : IntKind.u8.wrap ((n : Int) + 4 + m - 10) = (n : Int) + 4 + m - 10 := u8_in (by omega) (by omega)
  have HQ := open_eql asn hold id paths four
  have hg := open_eqGuard
  clear hk hy hm hcl hpo hfin hn
  go_enter Try.func3, Try.ntmps3
  go_wp2_with fail
  (with_reducible refine (HR _).out.mono ?_); rintro e w1 ⟨rfl, hb⟩
  have HB1 := Lib.hid (H0.out.trans (hb.mono H0.out.size))
  have K1 := Lib.hid (K0.out.next hb)
  have Y1 := Lib.hid ((Y0.out.below H0.out).below hb)
  have k0 := K1.out.cell 0 (by simp)
  have k1 := K1.out.cell 1 (by simp)
  have k2 := K1.out.cell 2 (by simp)
  have k3 := K1.out.cell 3 (by simp)
  have k4 := K1.out.cell 4 (by simp)
  clear hb HR H0 K0
  go_wp2_with fail
  (with_reducible refine (HP _).out.mono ?_); rintro e w2 ⟨q, cap, rfl, hO, hb⟩
  rw [HN.out]
  have HB2 := Lib.hid (HB1.out.trans (hb.mono HB1.out.size))
  have hlt : w.heap.size < w1.heap.size := K1.out.lt
  have G2 := Lib.hid (show GrowSt w2 (w.heap.size + 1) w.heap.size 24 [.int .i64 asn, .int .i64 hold, .int .u32 id, .bool four, .int .i64 paths] w2 q cap po from ⟨hO.mono (by omega), K1.out.next hb, Below.refl _ _, by omega, by have := hb.size; omega⟩)
  have Y2 := Lib.hid (Y1.out.below hb)
  have G2' := Lib.hid (G2.out.next (new_below w2 (.cells #[.int .u8 2, .int .u8 ((m : Int) + 2), .int .u8 code, .int .u8 (m : Int)] 5)))
  have L2 := Lib.hid (lit4 w2 2 ((m : Int) + 2) code (m : Int) (inByte_all fun x hx => by simp at hx; omega))
  have Y2' := Lib.hid (Y2.out.below (new_below w2 (.cells #[.int .u8 2, .int .u8 ((m : Int) + 2), .int .u8 code, .int .u8 (m : Int)] 5)))
  have SZ := Lib.hid (show w2.heap.size ≤ (w2.alloc (.cells #[.int .u8 2, .int .u8 ((m : Int) + 2), .int .u8 code, .int .u8 (m : Int)] 5)).heap.size by simp)
  clear hO hb HP HB1 Y1 K1 k0 k1 k2 k3 k4
  go_wp2_with (first
    | (refine wpList_appo (o := ⟨some 48, _, _, _, _, _⟩) (by rfl) (.tmp 37) (.tmp 47) (by rfl) (w.heap.size + 1) q cap po G2'.out.own n HN.out (by rfl) _ 4 4 [2, (m : Int) + 2, code, (m : Int)] L2.out (by rfl) (by rfl) (n + 4) (by rfl) (by omega) G2'.out.hB ?_; intro q3 cap3 w3 hO3 hB3 hG3; have G3 := Lib.hid (G2'.out.app hO3.out hB3.out); have Y3 := Lib.hid (Y0.out.below (HB2.out.trans (G3.out.bel.mono (by omega)))))
    | (refine wpList_appo (o := ⟨some 50, _, _, _, _, _⟩) (by rfl) (.tmp 48) (.tmp 49) (by rfl) (w.heap.size + 1) q3 cap3 (po ++ [2, (m : Int) + 2, code, (m : Int)]) G3.out.own (n + 4) (by rw [List.length_append, HN.out]; rfl) (by rfl) p m c ys Y3.out HM.out (by rfl) (n + 4 + m) (by rfl) (by omega) G3.out.hB ?_; intro q4 cap4 w4 hO4 hB4 hG4; have G4 := Lib.hid (G3.out.app hO4.out hB4.out); have HL4 := Lib.hid (show (po ++ [2, (m : Int) + 2, code, (m : Int)] ++ ys).length = n + 4 + m by rw [List.length_append, List.length_append, HN.out, HM.out]; rfl); obtain ⟨g4, off4, rfl, hgB, hcc, hff⟩ := own_at G4.out.own 9 (by rw [HL4.out]; omega)))
  have G5 := Lib.hid (show GrowSt w2 (w.heap.size + 1) w.heap.size 24 [.int .i64 asn, .int .i64 hold, .int .u32 id, .bool four, .int .i64 paths] (w4.setCell ⟨g4, off4 + 9, none⟩ (.int .u8 ((n : Int) + 4 + m - 10))) (some ⟨g4, off4, none⟩) cap4 fin from ⟨by
      have := G4.out.own.setAt 9 (by rw [HL4.out]; omega) ((n : Int) + 4 + m - 10) (by omega) (by omega)
      rw [List.append_assoc, HSET.out] at this
      exact this, G4.out.blk.setOther (by simp; omega) _, G4.out.bel.setCell (by simpa using hgB) _, by omega, by have := G4.out.hB; simpa [World.setCell] using this⟩)
  have HFL := Lib.hid (show fin.length = n + 4 + m by rw [← HSET.out, List.length_set, ← List.append_assoc, HL4.out])
  have HG := Lib.hid (get_as HGET.out (some ⟨g4, off4, none⟩) (n + 4 + m) cap4 0 (w4.setCell ⟨g4, off4 + 9, none⟩ (.int .u8 ((n : Int) + 4 + m - 10))) G5.out.own.bytes HFL.out (by omega) rfl)
  clear hcc hff
  refine HG.out.mono ?_; rintro e w6 ⟨q6, cap6, rfl, hO, hb⟩
  obtain ⟨W7, hW7⟩ : ∃ W7, (w6.alloc (.cells #[.int .i64 asn, .int .i64 hold, .int .u32 id, .bool four, .int .i64 paths] 24)).alloc (.cells #[.int .i64 0, .int .i64 0, .slice q6 0 cap6] 30) = W7 := ⟨_, rfl⟩
  have h7 : Below w6.heap.size w6 W7 := by rw [← hW7]; exact two_below _ _ _
  have P7 := Lib.hid (show Blk W7 w6.heap.size 24 [.int .i64 asn, .int .i64 hold, .int .u32 id, .bool four, .int .i64 paths] by rw [← hW7]; exact (Blk.new w6 24 [.int .i64 asn, .int .i64 hold, .int .u32 id, .bool four, .int .i64 paths]).alloc _)
  have N7 := Lib.hid (show Blk W7 (w6.heap.size + 1) 30 [.int .i64 0, .int .i64 0, .slice q6 0 cap6] by rw [← hW7, ← sz_alloc w6 (.cells #[.int .i64 asn, .int .i64 hold, .int .u32 id, .bool four, .int .i64 paths] 24)]; exact Blk.new _ 30 _)
  have h7' := hb.trans (h7.mono hb.size)
  have HB5 := Lib.hid (HB2.out.trans (G5.out.bel.mono (by omega)))
  have K7 := Lib.hid (G5.out.blk.next h7')
  have HB7 := Lib.hid (HB5.out.trans (h7'.mono HB5.out.size))
  have HW7 := Lib.hid hW7
  have HL := Lib.hid (lives_any W7)
  clear hO hb h7 h7' hW7 HG
  go_wp2_with fail
  rw [HW7.out]
  refine HL.out.mono ?_; rintro e w8 ⟨rfl, hb⟩
  have HB8 := Lib.hid (HB7.out.trans (hb.mono HB7.out.size))
  have K8 := K7.out.next hb
  have P8 := P7.out.next hb
  have N8 := N7.out.next hb
  have k0 := K8.cell 0 (by simp)
  have p0 := P8.cell 0 (by simp)
  have k1 := K8.cell 1 (by simp)
  have p1 := P8.cell 1 (by simp)
  have k2 := K8.cell 2 (by simp)
  have p2 := P8.cell 2 (by simp)
  have k3 := K8.cell 3 (by simp)
  have p3 := P8.cell 3 (by simp)
  have k4 := K8.cell 4 (by simp)
  have p4 := P8.cell 4 (by simp)
  have m0 := N8.cell 0 (by simp)
  clear hb K8 P8 N8 K7 P7 N7
  go_wp2_with fail
  go_ret
  exact ⟨rfl, HB8.out⟩

theorem caps_walk (w : World) (o : Op) (ho : 0 ≤ o.id ∧ o.id ≤ 4294967295) (code : Int) (_ : (Lit.int .i64 code).wf = true) (p : Option Addr) (ys : List Int) (c : Nat) (hb : BytesAt w p ys) (_ : ys.length ≤ c) (_ : c ≤ maxLen) :
    Calls Try.prog 3 #[.agg #[.int .i64 o.asn, .int .i64 o.hold, .int .u32 o.id, .bool o.four, .int .i64 o.paths], .int .i64 code, .slice p ys.length c] w fun e w' => e = .returned (.bool true) ∧ Below w.heap.size w w' := by
  obtain ⟨asn, hold, id, four, paths⟩ := o
  rcases hk : capsB (okO ⟨asn, hold, id, four, paths⟩) code ys.length with _ | _
  · exact caps_off asn hold id paths code four p _ c w hk
  · exact caps_on asn hold id paths code four p ys _ c w hb rfl ho.1 ho.2 hk
end Go.Proofs.Ythpadbeilecpeaa
