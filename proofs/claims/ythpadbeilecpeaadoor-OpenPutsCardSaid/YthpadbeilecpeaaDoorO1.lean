/- open: mayHold, Check, number, part, wrong. -/
import Derived.Test.YthpadbeilecpeaaDoorOm
import Derived.Test.YthpadbeilecpeaaDoorRd3
namespace Go.Proofs.YthpadbeilecpeaaDoor
open Go.RowKit

theorem hold_any (h : Int) (w : World) :
    Calls Tryd.prog 15 #[.int .i64 h] w fun e w' => e = .returned (.bool (holdB h)) ∧ w = w' := by
  by_cases h0 : h = 0
  · subst h0
    go_enter Tryd.func15, Tryd.ntmps15
    go_wp2
    go_ret
    exact ⟨rfl, rfl⟩
  · have hb : (h == 0) = false := by simpa using h0
    clear h0
    by_cases h3 : 3 ≤ h
    · go_enter Tryd.func15, Tryd.ntmps15
      go_wp2
      go_ret
      exact ⟨ret_bool (by simp [holdB, h3, hb]), rfl⟩
    · have hd : decide (3 ≤ h) = false := decide_eq_false h3
      go_enter Tryd.func15, Tryd.ntmps15
      go_wp2
      go_ret
      exact ⟨ret_bool (by simp [holdB, hd, hb]), rfl⟩

theorem new_below (w : World) (o : Obj) : Below w.heap.size w (w.alloc o) := (Below.refl _ _).alloc (Nat.le_refl _) o
def errO (o : Op) : Int := if okO o then 0 else 40
theorem check_yes (o : Op) (w : World) (h : okO o = true) :
    Calls Tryd.prog 8 #[o.v] w fun e w' => e = .returned (.int .i64 0) ∧ Below w.heap.size w w' := by
  obtain ⟨a1, a2, a3, a4, a5, a6⟩ := okO_yes h
  obtain ⟨asn, hold, id, four, paths⟩ := o
  simp only at *
  have hid : (id == 0) = false := by simpa using a4
  clear h a4
  unfold Op.v
  simp only
  cases four
  · have a2' : asn ≤ 65535 := a2
    clear a2
    go_enter Tryd.func8, Tryd.ntmps8
    go_wp2_with (go_at_call 15; refine (hold_any _ _).mono ?_; rintro e w' ⟨rfl, rfl⟩)
    go_ret
    exact ⟨rfl, new_below _ _⟩
  · have a2' : asn ≤ 4294967295 := a2
    clear a2
    go_enter Tryd.func8, Tryd.ntmps8
    go_wp2_with (go_at_call 15; refine (hold_any _ _).mono ?_; rintro e w' ⟨rfl, rfl⟩)
    go_ret
    exact ⟨rfl, new_below _ _⟩
set_option maxHeartbeats 2000000 in
theorem check_no (o : Op) (w : World) (h : okO o = false) :
    Calls Tryd.prog 8 #[o.v] w fun e w' => e = .returned (.int .i64 40) ∧ Below w.heap.size w w' := by
  obtain ⟨asn, hold, id, four, paths⟩ := o
  have hc : asn < 1 ∨ (1 ≤ asn ∧ mostAS four < asn) ∨ (1 ≤ asn ∧ asn ≤ mostAS four ∧ holdB hold = false) ∨ (1 ≤ asn ∧ asn ≤ mostAS four ∧ holdB hold = true ∧ id = 0) ∨ (1 ≤ asn ∧ asn ≤ mostAS four ∧ holdB hold = true ∧ (id == 0) = false ∧ paths < 0) ∨ (1 ≤ asn ∧ asn ≤ mostAS four ∧ holdB hold = true ∧ (id == 0) = false ∧ 0 ≤ paths ∧ 3 < paths) := by
    by_cases b1 : 1 ≤ asn
    · by_cases b2 : asn ≤ mostAS four
      · rcases b3 : holdB hold with _ | _
        · exact .inr (.inr (.inl ⟨b1, b2, rfl⟩))
        · by_cases b4 : id = 0
          · exact .inr (.inr (.inr (.inl ⟨b1, b2, rfl, b4⟩)))
          · have b4' : (id == 0) = false := by simpa using b4
            by_cases b5 : 0 ≤ paths
            · refine .inr (.inr (.inr (.inr (.inr ⟨b1, b2, rfl, b4', b5, ?_⟩))))
              by_cases b6 : paths ≤ 3
              · simp [okO, b1, b2, b3, b4', b5, b6] at h
              · omega
            · exact .inr (.inr (.inr (.inr (.inl ⟨b1, b2, rfl, b4', by omega⟩))))
      · exact .inr (.inl ⟨b1, by omega⟩)
    · exact .inl (by omega)
  clear h
  unfold Op.v
  simp only
  have hm0 : mostAS false = 65535 := rfl
  have hm1 : mostAS true = 4294967295 := rfl
  rcases hc with b1 | ⟨b1, b2⟩ | ⟨b1, b2, b3⟩ | ⟨b1, b2, b3, b4⟩ | ⟨b1, b2, b3, b4, b5⟩ | ⟨b1, b2, b3, b4, b5, b6⟩
  all_goals
    try subst b4
    cases four
    all_goals
      try rw [hm0] at b2
      try rw [hm1] at b2
      clear hm0 hm1
      go_enter Tryd.func8, Tryd.ntmps8
      go_wp2_with (go_at_call 15; refine (hold_any _ _).mono ?_; rintro e w' ⟨rfl, rfl⟩)
      go_ret
      exact ⟨rfl, new_below _ _⟩
theorem check_any (o : Op) (w : World) :
    Calls Tryd.prog 8 #[o.v] w fun e w' => e = .returned (.int .i64 (errO o)) ∧ Below w.heap.size w w' := by
  rcases h : okO o with _ | _
  · rw [show errO o = 40 by simp [errO, h]]; exact check_no o w h
  · rw [show errO o = 0 by simp [errO, h]]; exact check_yes o w h

theorem number_any (n : Int) (wide : Nat) (w : World) (h1 : 1 ≤ wide) (h4 : wide ≤ 4) (h : fitsB n wide = true) :
    Calls Tryd.prog 14 #[.int .i64 n, .int .i64 wide] w fun e w' => e = .returned (.slice (some ⟨w.heap.size, 0, none⟩) wide wide) ∧ BRow w' w.heap.size (putL n wide) ∧ Below w.heap.size w w' := by
  have HP := Lib.hid (put_fits n wide w h1 h4 h)
  clear h
  go_enter Tryd.func14, Tryd.ntmps14
  go_wp2_with fail
  refine HP.out.mono ?_; rintro e w1 ⟨rfl, hr, hb⟩
  have HR := Lib.hid hr.list
  have HB := Lib.hid hb
  clear hr hb
  go_wp2_with fail
  go_ret
  exact ⟨rfl, HR.out, HB.out⟩

/-- Bytes of one's own that a call hands back. -/
def RetB (w w' : World) (xs : List Int) (e : Ending) : Prop := ∃ p cap, e = .returned (.slice p xs.length cap) ∧ Own w' w.heap.size p cap xs ∧ Below w.heap.size w w'

theorem part_any (k : Int) (p : Option Addr) (xs : List Int) (n c : Nat) (w : World) (k0 : 0 ≤ k) (k1 : k ≤ 255) (hb : BytesAt w p xs) (hn : xs.length = n) (hl : n ≤ 255) :
    Calls Tryd.prog 12 #[.int .u8 k, .slice p n c] w fun e w' => RetB w w' (k :: (n : Int) :: xs) e := by
  have hw : IntKind.u8.wrap (n : Int) = n := by rw [show IntKind.u8.wrap (n : Int) = (n : Int) % 256 from by first | rfl | exact IntKind.wrap_u8 _ | exact IntKind.wrap_u8' _]; omega
  have HO := Lib.hid (Own.lit w w.heap.size [k, (n : Int)] (inByte_all fun x hx => by simp at hx; omega) (by simp) (Nat.le_refl _))
  have HB := Lib.hid (hb.alloc (.cells #[.int .u8 k, .int .u8 n] 5))
  have HN := Lib.hid hn
  clear hb hn
  go_enter Tryd.func12, Tryd.ntmps12
  go_wp2_with (refine wpList_appo (o := ⟨some 11, _, _, _, _, _⟩) (by rfl) (.tmp 9) (.tmp 10) (by rfl) w.heap.size (some ⟨w.heap.size, 0, none⟩) 2 [k, (n : Int)] HO.out 2 (by rfl) (by rfl) p n c xs HB.out HN.out (by rfl) (2 + n) (by rfl) (by omega) (by simp) ?_; intro p' cap' w' hO hB hG)
  go_ret
  exact ⟨p', cap', by rw [show (k :: (n : Int) :: xs).length = 2 + n by have := HN.out; simp; omega]; rfl, hO.out, (new_below _ _).trans (hB.out.mono (Nat.le_refl _))⟩

theorem clone_any (p : Option Addr) (xs : List Int) (n c : Nat) (w : World) (hb : BytesAt w p xs) (hn : xs.length = n) (hl : n ≤ 1099511627776) :
    Calls Tryd.prog 31 #[.slice p n c] w fun e w' => RetB w w' xs e := by
  have hq := fun (w : World) => Lib.run_eql_slice_nil (P := Tryd.prog) w 25 5 p n c 0 0 Tryd.underlying25
  rcases p with _ | a
  · obtain rfl : xs = [] := hb.2.resolve_right (by rintro ⟨_, _, h, _⟩; cases h)
    clear hb hl
    go_enter Tryd.func31, Tryd.ntmps31
    go_wp2
    go_ret
    exact ⟨none, 0, rfl, Own.nil _ _, Below.refl _ _⟩
  · have HB := Lib.hid (hb.alloc (.cells #[] 5))
    have HO := Lib.hid (Own.lit w w.heap.size [] (fun i hi => by simp at hi) (by simp) (Nat.le_refl _))
    have HN := Lib.hid hn
    clear hb hn
    go_enter Tryd.func31, Tryd.ntmps31
    go_wp2_with (refine wpList_appo (o := ⟨some 7, _, _, _, _, _⟩) (by rfl) (.tmp 5) (.tmp 6) (by rfl) w.heap.size (some ⟨w.heap.size, 0, none⟩) 0 [] HO.out 0 (by rfl) (by rfl) (some a) n c xs HB.out HN.out (by rfl) n (by omega) (by omega) (by simp) ?_; intro p' cap' w' hO hB hG)
    go_ret
    exact ⟨p', cap', by rw [HN.out]; rfl, hO.out, ((Below.refl _ _).alloc (Nat.le_refl _) _).trans hB.out⟩

/-- A note that a call hands back, with bytes of its own. -/
def RetN (w w' : World) (code sub : Int) (xs : List Int) (e : Ending) : Prop := ∃ p cap, e = .returned (.agg #[.int .i64 code, .int .i64 sub, .slice p xs.length cap]) ∧ Own w' w.heap.size p cap xs ∧ Below w.heap.size w w'
theorem wrong_any (sub : Int) (p : Option Addr) (xs : List Int) (n c : Nat) (w : World) (hb : BytesAt w p xs) (hn : xs.length = n) (hl : n ≤ 1099511627776) :
    Calls Tryd.prog 16 #[.int .i64 sub, .slice p n c] w fun e w' => RetN w w' 2 sub xs e := by
  have HX := Lib.hid (Blk.new w 37 [.int .i64 0, .int .i64 0, .slice none 0 0])
  have HB := Lib.hid (hb.alloc (.cells #[.int .i64 0, .int .i64 0, .slice none 0 0] 37))
  have HN := Lib.hid hn
  clear hb hn
  go_enter Tryd.func16, Tryd.ntmps16
  go_wp2_with fail
  refine (clone_any p xs n c _ HB.out HN.out hl).mono ?_; rintro e w1 ⟨p', cap', rfl, hO, hB⟩
  have HO := Lib.hid hO
  have HY := Lib.hid (HX.out.next hB)
  have HZ := Lib.hid hB
  rw [HN.out]
  clear hO hB
  have c0 := HY.out.cell 0 (by simp)
  have c1 := HY.out.cell 1 (by simp)
  have c2 := HY.out.cell 2 (by simp)
  have f0 := HY.out.f 0
  have f1 := HY.out.f 1
  have f2 := HY.out.f 2
  go_wp2_with fail
  exact bodyPost_ret (v := .agg #[.int .i64 2, .int .i64 sub, .slice p' n cap']) (by simp [results, Tryd.results16, go_sem, c0, c1, c2]) rfl ⟨p', cap', by rw [HN.out], (((HO.out.setBelow (by simp) _).setBelow (by simp) _).setBelow (by simp) _).mono (by simp), (((((Below.refl _ _).alloc (Nat.le_refl _) _).trans (HZ.out.mono (by simp))).setCell (Nat.le_refl _) _).setCell (Nat.le_refl _) _).setCell (Nat.le_refl _) _⟩
end Go.Proofs.YthpadbeilecpeaaDoor
