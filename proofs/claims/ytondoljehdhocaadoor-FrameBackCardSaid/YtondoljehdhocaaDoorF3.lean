/- frame: Head. -/
import Derived.Test.YtondoljehdhocaaDoorF2
namespace Go.Proofs.YtondoljehdhocaaDoor
open Go.RowKit

/-- Three results: two numbers, and a note with bytes of its own. -/
def RetH (w w' : World) (k n code sub : Int) (xs : List Int) (e : Ending) : Prop := ∃ p cap, e = .returned (.tuple #[.int .i64 k, .int .i64 n, .agg #[.int .i64 code, .int .i64 sub, .slice p xs.length cap]]) ∧ Own w' w.heap.size p cap xs ∧ Below w.heap.size w w'

def marksB (xs : List Int) : Bool := (List.range 16).all fun i => xs.getD i 0 == 255
theorem marksB_yes {xs : List Int} (h : marksB xs = true) (i : Nat) (hi : i < 16) : xs.getD i 0 = 255 := by
  unfold marksB at h
  rw [List.all_eq_true] at h
  simpa using h i (by simpa using hi)
theorem marksB_no {xs : List Int} (h : marksB xs = false) : ¬ ∀ i, i < 16 → xs.getD i 0 = 255 := fun hall => by
  have : marksB xs = true := by
    unfold marksB
    rw [List.all_eq_true]
    intro i hi
    simpa using hall i (by simpa using hi)
  rw [this] at h; cases h

structure HeadR where
  kind : Int
  size : Int
  code : Int
  sub : Int
  data : List Int
def headM (xs : List Int) : HeadR :=
  if xs.length < 19 then ⟨0, 0, 0, 0, []⟩
  else if marksB xs = false then ⟨0, 0, 1, 1, []⟩
  else if knownB (xs.getD 18 0) = false then ⟨0, 0, 1, 3, [xs.getD 18 0]⟩
  else if fitsM (xs.getD 18 0) (getV [xs.getD 16 0, xs.getD 17 0] - 19) = false then ⟨0, 0, 1, 2, [xs.getD 16 0, xs.getD 17 0]⟩
  else ⟨xs.getD 18 0, getV [xs.getD 16 0, xs.getD 17 0], 0, 0, []⟩

def RetHead (w w' : World) (r : HeadR) (e : Ending) : Prop := RetH w w' r.kind r.size r.code r.sub r.data e

theorem head_short (q : Option Addr) (n c : Nat) (w : World) (hn : n < 19) :
    Calls Tryd.prog 13 #[.slice q n c] w fun e w' => RetH w w' 0 0 0 0 [] e := by
  have HX := Lib.hid (Blk.new w 33 [.int .i64 0, .int .i64 0, .slice none 0 0])
  have c0 := HX.out.cell 0 (by simp)
  have c1 := HX.out.cell 1 (by simp)
  have c2 := HX.out.cell 2 (by simp)
  go_enter Tryd.func13, Tryd.ntmps13
  go_wp2_with fail
  exact bodyPost_ret (v := .tuple #[.int .i64 0, .int .i64 0, .agg #[.int .i64 0, .int .i64 0, .slice none 0 0]]) (by simp [results, Tryd.results13, go_sem, c0, c1, c2]) rfl ⟨none, 0, rfl, Own.nil _ _, (Below.refl _ _).alloc (Nat.le_refl _) _⟩

theorem head_marks (b off : Nat) (xs : List Int) (n c : Nat) (w : World) (hb : BytesAt w (some ⟨b, off, none⟩) xs) (hn : xs.length = n) (h19 : 19 ≤ n) (hc : n ≤ c) (hcm : c ≤ 9223372036854775807) (hm : marksB xs = false) :
    Calls Tryd.prog 13 #[.slice (some ⟨b, off, none⟩) n c] w fun e w' => RetH w w' 0 0 1 1 [] e := by
  have HX := Lib.hid (Blk.new w 33 [.int .i64 0, .int .i64 0, .slice none 0 0])
  have hb2 := hb.alloc (.cells #[.int .i64 0, .int .i64 0, .slice none 0 0] 33)
  obtain ⟨hx, hcl⟩ := hb2
  obtain ⟨b', off', he, hcl⟩ := hcl.resolve_left (by rintro rfl; simp at hn; omega)
  obtain ⟨rfl, rfl⟩ : b = b' ∧ off = off' := by simpa using he
  have HC := Lib.hid hcl
  have HIX := Lib.hid hx
  have HM := Lib.hid (marksB_no hm)
  have HN := Lib.hid hn
  clear hb hm he hcl hx hn
  have g1 : 16 ≤ c := by omega
  have t1 : decide ((n : Int) < 19) = false := by simp; omega
  go_enter Tryd.func13, Tryd.ntmps13
  go_wp2_with fail
  clear t1
  go_loop [17] (fun i => ∃ j : Nat, j ≤ 16 ∧ i = .int .i64 j ∧ ∀ m, m < j → xs.getD m 0 = 255) (fun i => 16 - (intOf i).toNat)
  case atStart => exact ⟨0, by omega, rfl, fun m hm => by omega⟩
  case round =>
    obtain ⟨j, hj, rfl, hall⟩ := hrel
    have HALL := Lib.hid hall
    clear hall
    by_cases hlt : j < 16
    · have cj := HC.out j (by have := HN.out; omega)
      rcases hx : (xs.getD j 0 != 255) with _ | _
      · have hxe : xs.getD j 0 = 255 := by simpa using hx
        have HJ := Lib.hid (show ∀ m, m < j + 1 → xs.getD m 0 = 255 from fun m hm => by
          rcases Nat.lt_or_ge m j with h | h
          · exact HALL.out m h
          · obtain rfl : m = j := by omega
            exact hxe)
        clear hxe
        generalize xs.getD j 0 = x at *
        go_wp2_with fail
        go_round
        case rel => exact ⟨j + 1, by omega, by go_num, HJ.out⟩
        case measure => simp [intOf]; omega
      · generalize xs.getD j 0 = x at *
        go_wp2_with fail
        refine (wrong_any 1 none [] 0 0 _ (BytesAt.nil _ _) rfl (by omega)).mono ?_; rintro e w1 ⟨p', cap', rfl, hO, hB⟩
        have HO := Lib.hid hO
        have HY := Lib.hid (HX.out.next hB)
        have HZ := Lib.hid hB
        clear hO hB cj
        have c0 := HY.out.cell 0 (by simp)
        have c1 := HY.out.cell 1 (by simp)
        have c2 := HY.out.cell 2 (by simp)
        have f0 := HY.out.f 0
        have f1 := HY.out.f 1
        have f2 := HY.out.f 2
        go_wp2_with fail
        exact bodyPost_ret (v := .tuple #[.int .i64 0, .int .i64 0, .agg #[.int .i64 1, .int .i64 1, .slice p' 0 cap']]) (by simp [results, Tryd.results13, go_sem, c0, c1, c2]) rfl ⟨p', cap', rfl, (((HO.out.setBelow (by simp) _).setBelow (by simp) _).setBelow (by simp) _).mono (by simp), (((((Below.refl _ _).alloc (Nat.le_refl _) _).trans (HZ.out.mono (by simp))).setCell (Nat.le_refl _) _).setCell (Nat.le_refl _) _).setCell (Nat.le_refl _) _⟩
    · obtain rfl : j = 16 := by omega
      exact absurd HALL.out HM.out

theorem getV_two (x y : Int) (hx : 0 ≤ x ∧ x ≤ 255) (hy : 0 ≤ y ∧ y ≤ 255) : 0 ≤ getV [x, y] ∧ getV [x, y] ≤ 65535 := by
  simp [getV]; omega

set_option maxHeartbeats 1000000 in
theorem head_kind (b off : Nat) (xs : List Int) (n c : Nat) (w : World) (ht : Tab w) (hb : BytesAt w (some ⟨b, off, none⟩) xs) (hn : xs.length = n) (h19 : 19 ≤ n) (hc : n ≤ c) (hcm : c ≤ 9223372036854775807) (hm : marksB xs = true) (hk : knownB (xs.getD 18 0) = false) :
    Calls Tryd.prog 13 #[.slice (some ⟨b, off, none⟩) n c] w fun e w' => RetH w w' 0 0 1 3 [xs.getD 18 0] e := by
  have HX := Lib.hid (Blk.new w 33 [.int .i64 0, .int .i64 0, .slice none 0 0])
  have hal := (Below.refl w.heap.size w).alloc (Nat.le_refl _) (.cells #[.int .i64 0, .int .i64 0, .slice none 0 0] 33)
  have HAL := Lib.hid hal
  have HT := Lib.hid (ht.below hal)
  have hb2 := hb.below hal
  obtain ⟨hx, hcl⟩ := hb2
  obtain ⟨b', off', he, hcl⟩ := hcl.resolve_left (by rintro rfl; simp at hn; omega)
  obtain ⟨rfl, rfl⟩ : b = b' ∧ off = off' := by simpa using he
  have HC := Lib.hid hcl
  have HM := Lib.hid (marksB_yes hm)
  have HN := Lib.hid hn
  have hX16 := hx 16 (by omega)
  have hX17 := hx 17 (by omega)
  have hX18 := hx 18 (by omega)
  have c18 := hcl 18 (by omega)
  have c16 := hcl 16 (by omega)
  have c17 := hcl 17 (by omega)
  generalize xs.getD 18 0 = k at *
  generalize xs.getD 17 0 = y at *
  generalize xs.getD 16 0 = x at *
  have hB2 : BytesAt (w.alloc (.cells #[.int .i64 0, .int .i64 0, .slice none 0 0] 33)) (some ⟨b, off + 16, none⟩) [x, y] :=
    ⟨inByte_all (by intro z hz; simp at hz; rcases hz with rfl | rfl; exact hX16; exact hX17), .inr ⟨b, off + 16, rfl, fun i hi => by
      have : i = 0 ∨ i = 1 := by simp at hi; omega
      rcases this with rfl | rfl
      · exact c16
      · exact c17⟩⟩
  have HB2 := Lib.hid hB2
  have hget := get_some (some ⟨b, off + 16, none⟩) [x, y] (c - 16) _ (by simp) (by simp) hB2
  rw [show [x, y].length = 2 from rfl] at hget
  have HG := Lib.hid hget
  have HV := Lib.hid (getV_two x y hX16 hX17)
  clear hb hm he hcl hx hn hal hB2 ht c16 c17 hget
  obtain ⟨k0, k255⟩ := hX18
  have g1 : 16 ≤ c := by omega
  have t1 : decide ((n : Int) < 19) = false := by simp; omega
  clear HG HV HB2
  have H1 := one_byte (w.alloc (.cells #[.int .i64 0, .int .i64 0, .slice none 0 0] 33)) k k0 k255
  rw [sz_alloc] at H1
  have HO1 := Lib.hid H1
  clear H1
  go_enter Tryd.func13, Tryd.ntmps13
  go_wp2_with fail
  clear t1
  go_loop [17] (fun i => ∃ j : Nat, j ≤ 16 ∧ i = .int .i64 j) (fun i => 16 - (intOf i).toNat)
  case atStart => exact ⟨0, by omega, rfl⟩
  case round =>
    obtain ⟨j, hj, rfl⟩ := hrel
    by_cases hlt : j < 16
    · have cj := HC.out j (by have := HN.out; omega)
      have hx : (xs.getD j 0 != 255) = false := by rw [HM.out j hlt]; rfl
      generalize xs.getD j 0 = z at *
      go_wp2_with fail
      go_round
      case rel => exact ⟨j + 1, by omega, by go_num⟩
      case measure => simp [intOf]; omega
    · obtain rfl : j = 16 := by omega
      have i18 : (18 : Int) < (n : Int) := by omega
      go_wp2_with (go_at_call 23; refine (known_any _ _).mono ?_; rintro e w' ⟨rfl, rfl⟩)
      refine (wrong_any 3 _ [k] 1 1 _ HO1.out rfl (by omega)).mono ?_; rintro e w1 ⟨p', cap', rfl, hO, hB⟩
      have HO := Lib.hid hO
      have HY := Lib.hid ((HX.out.alloc (.cells #[.int .u8 k] 5)).next hB)
      have HZ := Lib.hid ((HAL.out.alloc HAL.out.size (.cells #[.int .u8 k] 5)).trans (hB.mono (by simp; omega)))
      clear hO hB c18
      have c0 := HY.out.cell 0 (by simp)
      have c1 := HY.out.cell 1 (by simp)
      have c2 := HY.out.cell 2 (by simp)
      have f0 := HY.out.f 0
      have f1 := HY.out.f 1
      have f2 := HY.out.f 2
      go_wp2_with fail
      exact bodyPost_ret (v := .tuple #[.int .i64 0, .int .i64 0, .agg #[.int .i64 1, .int .i64 3, .slice p' 1 cap']]) (by simp [results, Tryd.results13, go_sem, c0, c1, c2]) rfl ⟨p', cap', rfl, (((HO.out.setBelow (by simp; omega) _).setBelow (by simp; omega) _).setBelow (by simp; omega) _).mono (by simp; omega), ((HZ.out.setCell (Nat.le_refl _) _).setCell (Nat.le_refl _) _).setCell (Nat.le_refl _) _⟩

set_option maxHeartbeats 1000000 in
theorem head_len (b off : Nat) (xs : List Int) (n c : Nat) (w : World) (ht : Tab w) (hb : BytesAt w (some ⟨b, off, none⟩) xs) (hn : xs.length = n) (h19 : 19 ≤ n) (hc : n ≤ c) (hcm : c ≤ 9223372036854775807) (hm : marksB xs = true) (hk : knownB (xs.getD 18 0) = true) (hf : fitsM (xs.getD 18 0) (getV [xs.getD 16 0, xs.getD 17 0] - 19) = false) :
    Calls Tryd.prog 13 #[.slice (some ⟨b, off, none⟩) n c] w fun e w' => RetH w w' 0 0 1 2 [xs.getD 16 0, xs.getD 17 0] e := by
  have HX := Lib.hid (Blk.new w 33 [.int .i64 0, .int .i64 0, .slice none 0 0])
  have hal := (Below.refl w.heap.size w).alloc (Nat.le_refl _) (.cells #[.int .i64 0, .int .i64 0, .slice none 0 0] 33)
  have HAL := Lib.hid hal
  have HT := Lib.hid (ht.below hal)
  have hb2 := hb.below hal
  obtain ⟨hx, hcl⟩ := hb2
  obtain ⟨b', off', he, hcl⟩ := hcl.resolve_left (by rintro rfl; simp at hn; omega)
  obtain ⟨rfl, rfl⟩ : b = b' ∧ off = off' := by simpa using he
  have HC := Lib.hid hcl
  have HM := Lib.hid (marksB_yes hm)
  have HN := Lib.hid hn
  have hX16 := hx 16 (by omega)
  have hX17 := hx 17 (by omega)
  have hX18 := hx 18 (by omega)
  have c18 := hcl 18 (by omega)
  have c16 := hcl 16 (by omega)
  have c17 := hcl 17 (by omega)
  generalize xs.getD 18 0 = k at *
  generalize xs.getD 17 0 = y at *
  generalize xs.getD 16 0 = x at *
  have hB2 : BytesAt (w.alloc (.cells #[.int .i64 0, .int .i64 0, .slice none 0 0] 33)) (some ⟨b, off + 16, none⟩) [x, y] :=
    ⟨inByte_all (by intro z hz; simp at hz; rcases hz with rfl | rfl; exact hX16; exact hX17), .inr ⟨b, off + 16, rfl, fun i hi => by
      have : i = 0 ∨ i = 1 := by simp at hi; omega
      rcases this with rfl | rfl
      · exact c16
      · exact c17⟩⟩
  have HB2 := Lib.hid hB2
  have hget := get_some (some ⟨b, off + 16, none⟩) [x, y] (c - 16) _ (by simp) (by simp) hB2
  rw [show [x, y].length = 2 from rfl] at hget
  have HG := Lib.hid hget
  have HV := Lib.hid (getV_two x y hX16 hX17)
  clear hb hm he hcl hx hn hal hB2 ht c16 c17 hget
  obtain ⟨k0, k255⟩ := hX18
  have g1 : 16 ≤ c := by omega
  have t1 : decide ((n : Int) < 19) = false := by simp; omega
  obtain ⟨V, hV⟩ : ∃ V, getV [x, y] = V := ⟨_, rfl⟩
  rw [hV] at HG HV hf
  clear hV
  obtain ⟨v0, v1⟩ := HV.out
  have HK := Lib.hid hk
  have HF := Lib.hid (fitsM_any k (V - 19) _ HT.out HK.out)
  rw [hf] at HF
  clear hf
  go_enter Tryd.func13, Tryd.ntmps13
  go_wp2_with fail
  clear t1
  go_loop [17] (fun i => ∃ j : Nat, j ≤ 16 ∧ i = .int .i64 j) (fun i => 16 - (intOf i).toNat)
  case atStart => exact ⟨0, by omega, rfl⟩
  case round =>
    obtain ⟨j, hj, rfl⟩ := hrel
    by_cases hlt : j < 16
    · have cj := HC.out j (by have := HN.out; omega)
      have hx : (xs.getD j 0 != 255) = false := by rw [HM.out j hlt]; rfl
      generalize xs.getD j 0 = z at *
      go_wp2_with fail
      go_round
      case rel => exact ⟨j + 1, by omega, by go_num⟩
      case measure => simp [intOf]; omega
    · obtain rfl : j = 16 := by omega
      have i18 : (18 : Int) < (n : Int) := by omega
      go_wp2_with (first | (go_at_call 23; refine (known_any _ _).mono ?_; rintro e w' ⟨rfl, rfl⟩) | (go_at_call 27; refine HG.out.mono ?_; rintro e w' ⟨rfl, rfl⟩) | (go_at_call 24; refine HF.out.mono ?_; rintro e w' ⟨rfl, rfl⟩))
      refine (wrong_any 2 _ [x, y] 2 (c - 16) _ HB2.out rfl (by omega)).mono ?_; rintro e w1 ⟨p', cap', rfl, hO, hB⟩
      have HO := Lib.hid hO
      have HY := Lib.hid (HX.out.next hB)
      have HZ := Lib.hid (HAL.out.trans (hB.mono (by simp)))
      clear hO hB c18
      have c0 := HY.out.cell 0 (by simp)
      have c1 := HY.out.cell 1 (by simp)
      have c2 := HY.out.cell 2 (by simp)
      have f0 := HY.out.f 0
      have f1 := HY.out.f 1
      have f2 := HY.out.f 2
      go_wp2_with fail
      exact bodyPost_ret (v := .tuple #[.int .i64 0, .int .i64 0, .agg #[.int .i64 1, .int .i64 2, .slice p' 2 cap']]) (by simp [results, Tryd.results13, go_sem, c0, c1, c2]) rfl ⟨p', cap', rfl, (((HO.out.setBelow (by simp) _).setBelow (by simp) _).setBelow (by simp) _).mono (by simp), ((HZ.out.setCell (Nat.le_refl _) _).setCell (Nat.le_refl _) _).setCell (Nat.le_refl _) _⟩

set_option maxHeartbeats 1000000 in
theorem head_ok (b off : Nat) (xs : List Int) (n c : Nat) (w : World) (ht : Tab w) (hb : BytesAt w (some ⟨b, off, none⟩) xs) (hn : xs.length = n) (h19 : 19 ≤ n) (hc : n ≤ c) (hcm : c ≤ 9223372036854775807) (hm : marksB xs = true) (hk : knownB (xs.getD 18 0) = true) (hf : fitsM (xs.getD 18 0) (getV [xs.getD 16 0, xs.getD 17 0] - 19) = true) :
    Calls Tryd.prog 13 #[.slice (some ⟨b, off, none⟩) n c] w fun e w' => RetH w w' (xs.getD 18 0) (getV [xs.getD 16 0, xs.getD 17 0]) 0 0 [] e := by
  have HX := Lib.hid (Blk.new w 33 [.int .i64 0, .int .i64 0, .slice none 0 0])
  have hal := (Below.refl w.heap.size w).alloc (Nat.le_refl _) (.cells #[.int .i64 0, .int .i64 0, .slice none 0 0] 33)
  have HAL := Lib.hid hal
  have HT := Lib.hid (ht.below hal)
  have hb2 := hb.below hal
  obtain ⟨hx, hcl⟩ := hb2
  obtain ⟨b', off', he, hcl⟩ := hcl.resolve_left (by rintro rfl; simp at hn; omega)
  obtain ⟨rfl, rfl⟩ : b = b' ∧ off = off' := by simpa using he
  have HC := Lib.hid hcl
  have HM := Lib.hid (marksB_yes hm)
  have HN := Lib.hid hn
  have hX16 := hx 16 (by omega)
  have hX17 := hx 17 (by omega)
  have hX18 := hx 18 (by omega)
  have c18 := hcl 18 (by omega)
  have c16 := hcl 16 (by omega)
  have c17 := hcl 17 (by omega)
  generalize xs.getD 18 0 = k at *
  generalize xs.getD 17 0 = y at *
  generalize xs.getD 16 0 = x at *
  have hB2 : BytesAt (w.alloc (.cells #[.int .i64 0, .int .i64 0, .slice none 0 0] 33)) (some ⟨b, off + 16, none⟩) [x, y] :=
    ⟨inByte_all (by intro z hz; simp at hz; rcases hz with rfl | rfl; exact hX16; exact hX17), .inr ⟨b, off + 16, rfl, fun i hi => by
      have : i = 0 ∨ i = 1 := by simp at hi; omega
      rcases this with rfl | rfl
      · exact c16
      · exact c17⟩⟩
  have HB2 := Lib.hid hB2
  have hget := get_some (some ⟨b, off + 16, none⟩) [x, y] (c - 16) _ (by simp) (by simp) hB2
  rw [show [x, y].length = 2 from rfl] at hget
  have HG := Lib.hid hget
  have HV := Lib.hid (getV_two x y hX16 hX17)
  clear hb hm he hcl hx hn hal hB2 ht c16 c17 hget
  obtain ⟨k0, k255⟩ := hX18
  have g1 : 16 ≤ c := by omega
  have t1 : decide ((n : Int) < 19) = false := by simp; omega
  obtain ⟨V, hV⟩ : ∃ V, getV [x, y] = V := ⟨_, rfl⟩
  rw [hV] at HG HV hf ⊢
  clear hV
  obtain ⟨v0, v1⟩ := HV.out
  have HK := Lib.hid hk
  have HF := Lib.hid (fitsM_any k (V - 19) _ HT.out HK.out)
  rw [hf] at HF
  clear hf
  go_enter Tryd.func13, Tryd.ntmps13
  go_wp2_with fail
  clear t1
  go_loop [17] (fun i => ∃ j : Nat, j ≤ 16 ∧ i = .int .i64 j) (fun i => 16 - (intOf i).toNat)
  case atStart => exact ⟨0, by omega, rfl⟩
  case round =>
    obtain ⟨j, hj, rfl⟩ := hrel
    by_cases hlt : j < 16
    · have cj := HC.out j (by have := HN.out; omega)
      have hx : (xs.getD j 0 != 255) = false := by rw [HM.out j hlt]; rfl
      generalize xs.getD j 0 = z at *
      go_wp2_with fail
      go_round
      case rel => exact ⟨j + 1, by omega, by go_num⟩
      case measure => simp [intOf]; omega
    · obtain rfl : j = 16 := by omega
      have i18 : (18 : Int) < (n : Int) := by omega
      have c0 := HX.out.cell 0 (by simp)
      have c1 := HX.out.cell 1 (by simp)
      have c2 := HX.out.cell 2 (by simp)
      go_wp2_with (first | (go_at_call 23; refine (known_any _ _).mono ?_; rintro e w' ⟨rfl, rfl⟩) | (go_at_call 27; refine HG.out.mono ?_; rintro e w' ⟨rfl, rfl⟩) | (go_at_call 24; refine HF.out.mono ?_; rintro e w' ⟨rfl, rfl⟩))
      exact bodyPost_ret (v := .tuple #[.int .i64 k, .int .i64 V, .agg #[.int .i64 0, .int .i64 0, .slice none 0 0]]) (by simp [results, Tryd.results13, go_sem, c0, c1, c2]) rfl ⟨none, 0, rfl, Own.nil _ _, HAL.out⟩

theorem head_any (p : Option Addr) (xs : List Int) (n c : Nat) (w : World) (ht : Tab w) (hb : BytesAt w p xs) (hn : xs.length = n) (hc : n ≤ c) (hcm : c ≤ 9223372036854775807) :
    Calls Tryd.prog 13 #[.slice p n c] w fun e w' => RetHead w w' (headM xs) e := by
  unfold RetHead headM
  by_cases h19 : xs.length < 19
  · rw [if_pos h19]
    exact head_short p n c w (by omega)
  · rw [if_neg h19]
    obtain ⟨b, off, rfl, _⟩ := hb.2.resolve_left (by rintro rfl; simp at h19)
    rcases hm : marksB xs with _ | _
    · rw [if_pos rfl]
      exact head_marks b off xs n c w hb hn (by omega) hc hcm hm
    · rw [if_neg (by decide)]
      rcases hk : knownB (xs.getD 18 0) with _ | _
      · rw [if_pos rfl]
        exact head_kind b off xs n c w ht hb hn (by omega) hc hcm hm hk
      · rw [if_neg (by decide)]
        rcases hf : fitsM (xs.getD 18 0) (getV [xs.getD 16 0, xs.getD 17 0] - 19) with _ | _
        · rw [if_pos rfl]
          exact head_len b off xs n c w ht hb hn (by omega) hc hcm hm hk hf
        · rw [if_neg (by decide)]
          exact head_ok b off xs n c w ht hb hn (by omega) hc hcm hm hk hf
end Go.Proofs.YtondoljehdhocaaDoor
