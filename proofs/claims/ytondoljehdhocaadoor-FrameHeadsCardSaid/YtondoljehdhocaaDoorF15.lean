/- The document's own Head, where the marks are right. -/
import Derived.Test.YtondoljehdhocaaDoorF14
namespace Go.Proofs.YtondoljehdhocaaDoor
open Go.RowKit

theorem far1 {B : Nat} {w w' : World} {a : Addr} {v : Option Value} (hb : Below B w w') (ha : a.block < B) (h : w.cell? a = v) : w'.cell? a = v := (hb.cell ha).trans h

set_option maxRecDepth 100000 in
set_option maxHeartbeats 2000000 in
theorem rhead_kind (b off : Nat) (xs : List Int) (n c : Nat) (w : World) (hb : BytesAt w (some ⟨b, off, none⟩) xs) (hn : xs.length = n) (h19 : 19 ≤ n) (hc : n ≤ c) (hcm : c ≤ 9223372036854775807) (hm : marksB xs = true) (hk : knownB (xs.getD 18 0) = false) :
    Calls Tryd.prog 14 #[.slice (some ⟨b, off, none⟩) n c] w fun e w' => RetH w w' 0 0 1 3 [xs.getD 18 0] e := by
  have HX := Lib.hid (Blk.new w 33 [.int .i64 0, .int .i64 0, .slice none 0 0])
  have hal := (Below.refl w.heap.size w).alloc (Nat.le_refl _) (.cells #[.int .i64 0, .int .i64 0, .slice none 0 0] 33)
  have hb2 := hb.below hal
  obtain ⟨W, hW⟩ : ∃ W, w.alloc (.cells #[.int .i64 0, .int .i64 0, .slice none 0 0] 33) = W := ⟨_, rfl⟩
  rw [hW] at HX hal hb2
  have HAL := Lib.hid hal
  obtain ⟨hx, hcl⟩ := hb2
  obtain ⟨b', off', he, hcl⟩ := hcl.resolve_left (by rintro rfl; simp at hn; omega)
  obtain ⟨rfl, rfl⟩ : b = b' ∧ off = off' := by simpa using he
  have HBW := Lib.hid (show b < w.heap.size by
    obtain ⟨b2, o2, e2, hc2⟩ := hb.2.resolve_left (by rintro rfl; simp at hn; omega)
    obtain ⟨rfl, rfl⟩ : b = b2 ∧ off = o2 := by simpa using e2
    exact World.block_lt_of_cell? w _ (hc2 0 (by omega)))
  have HC := Lib.hid hcl
  have HM := Lib.hid (marksB_yes hm)
  have HN := Lib.hid hn
  have hX16 := hx 16 (by omega)
  have hX17 := hx 17 (by omega)
  have hX18 := hx 18 (by omega)
  have c18 := hcl 18 (by omega)
  have c16 := hcl 16 (by omega)
  have c17 := hcl 17 (by omega)
  generalize xs.getD 18 0 = k at *
  generalize xs.getD 17 0 = y at *
  generalize xs.getD 16 0 = x at *
  have hB2 : BytesAt W.drew (some ⟨b, off + 16, none⟩) [x, y] :=
    ⟨inByte_all (by intro z hz; simp at hz; rcases hz with rfl | rfl; exact hX16; exact hX17), .inr ⟨b, off + 16, rfl, fun i hi => by
      have : i = 0 ∨ i = 1 := by simp at hi; omega
      rcases this with rfl | rfl
      · exact c16
      · exact c17⟩⟩
  have hget := rget_any (some ⟨b, off + 16, none⟩) [x, y] (c - 16) _ (by simp) hB2
  rw [show [x, y].length = 2 from rfl] at hget
  have HG := Lib.hid hget
  have HV := Lib.hid (getV_two x y hX16 hX17)
  have H18 := Lib.hid c18
  have H16 := Lib.hid c16
  have H17 := Lib.hid c17
  have HW := Lib.hid hW
  clear hb hm he hcl hx hn hal hB2 c16 c17 c18 hget hW
  obtain ⟨k0, k255⟩ := hX18
  have g1 : 16 ≤ c := by omega
  have t1 : decide ((n : Int) < 19) = false := by simp; omega
  obtain ⟨V, hV⟩ : ∃ V, getV [x, y] = V := ⟨_, rfl⟩
  rw [hV] at HG HV
  clear hV
  obtain ⟨v0, v1⟩ := HV.out
  obtain ⟨r, hr⟩ : ∃ r, rleast k = r := ⟨_, rfl⟩
  have HR := Lib.hid (fun w => hr ▸ rleast_any k w)
  have hr0 : r = 0 := by
    rw [← hr]; unfold rleast
    have : ¬ (1 ≤ k ∧ k ≤ 4) := fun h => by simp [knownB, h] at hk
    rw [if_neg (by omega), if_neg (by omega), if_neg (by omega), if_neg (by omega)]
  subst hr0
  clear hr hk
  go_enter Tryd.func14, Tryd.ntmps14
  go_wp2_with fail
  rw [HW.out]
  clear t1
  go_loop [5] (fun i => ∃ j : Nat, j ≤ 16 ∧ i = .int .i64 j) (fun i => 16 - (intOf i).toNat)
  case atStart => exact ⟨0, by omega, rfl⟩
  case round =>
    obtain ⟨j, hj, rfl⟩ := hrel
    by_cases hlt : j < 16
    · have cj := HC.out j (by have := HN.out; omega)
      have hjn : (j : Int) < (n : Int) := by omega
      have hx : (xs.getD j 0 != 255) = false := by rw [HM.out j hlt]; rfl
      generalize xs.getD j 0 = z at *
      go_wp2_with fail
      go_round
      case rel => exact ⟨j + 1, by omega, by go_num⟩
      case measure => simp [intOf]; omega
    · obtain rfl : j = 16 := by omega
      have i18 : (18 : Int) < (n : Int) := by omega
      have i16 : (16 : Int) < (n : Int) := by omega
      have i17 : (17 : Int) < (n : Int) := by omega
      go_wp2_with fail
      have hS : W.drew.cell? ⟨b, off + 18, none⟩ = some (.int .u8 k) := H18.out
      go_region_held (fun w' => w'.cell? ⟨b, off + 18, none⟩ = some (.int .u8 k)) (with_reducible assumption) (first
        | (go_at_call 28; refine HG.out.mono ?_; rintro e w' ⟨rfl, rfl⟩))
      go_wp2_with (go_at_call 22; refine (HR.out _).mono ?_; rintro e w' ⟨rfl, rfl⟩)
      obtain ⟨X, hX⟩ : ∃ X, W.drew = X := ⟨_, rfl⟩
      have x18 : X.cell? ⟨b, off + 18, none⟩ = some (.int .u8 k) := by rw [← hX]; exact H18.out
      have X18 := Lib.hid x18
      have HXX := Lib.hid (show Blk X w.heap.size 33 [.int .i64 0, .int .i64 0, .slice none 0 0] by rw [← hX]; exact HX.out)
      have HBX := Lib.hid (show Below w.heap.size w X by rw [← hX]; exact HAL.out.drew)
      rw [hX]
      have hS2 : X.drew.cell? ⟨b, off + 18, none⟩ = some (.int .u8 k) := x18
      have hXA : Blk (X.alloc (.cells #[.int .u8 k] 5)) w.heap.size 33 [.int .i64 0, .int .i64 0, .slice none 0 0] := (HXX.out.alloc _)
      have c0 := hXA.cell 0 (by simp)
      have c1 := hXA.cell 1 (by simp)
      have c2 := hXA.cell 2 (by simp)
      have f0 := hXA.f 0
      have f1 := hXA.f 1
      have f2 := hXA.f 2
      clear hXA hX hS x18
      go_region_held (fun w' => w'.cell? ⟨b, off + 18, none⟩ = some (.int .u8 k)) (first | with_reducible assumption | (with_reducible refine far1 ?_ HBW.out X18.out; repeat (first | with_reducible exact Below.refl _ _ | (with_reducible refine Below.drew ?_) | (with_reducible refine Below.setCell ?_ (by simp) _) | (with_reducible refine Below.alloc ?_ (by have := HBX.out.size; simp; omega) _)))) (fail)
      go_wp2_with fail
      have hlt := HXX.out.lt
      refine bodyPost_ret (v := .tuple #[.int .i64 0, .int .i64 0, .agg #[.int .i64 1, .int .i64 3, .slice (some ⟨X.heap.size, 0, none⟩) 1 1]]) (by simp [results, Tryd.results14, go_sem, c0, c1, c2]) rfl ⟨some ⟨X.heap.size, 0, none⟩, 1, rfl, ?_, ?_⟩
      · exact ((((Own.lit X X.heap.size [k] (inByte_all (by intro z hz; simp at hz; omega)) (by simp) (Nat.le_refl _)).setBelow (a := ⟨w.heap.size, 0, none⟩) hlt _).setBelow (a := ⟨w.heap.size, 1, none⟩) hlt _).setBelow (a := ⟨w.heap.size, 2, none⟩) hlt _).drew.mono (Nat.le_of_lt hlt)
      · exact ((((HBX.out.alloc HBX.out.size _).setCell (Nat.le_refl _) _).setCell (Nat.le_refl _) _).setCell (Nat.le_refl _) _).drew

theorem far2 {B : Nat} {w w' : World} {a a' : Addr} {v v' : Option Value} (hb : Below B w w') (ha : a.block < B) (ha' : a'.block < B) (h : w.cell? a = v) (h' : w.cell? a' = v') : w'.cell? a = v ∧ w'.cell? a' = v' := ⟨(hb.cell ha).trans h, (hb.cell ha').trans h'⟩

set_option maxRecDepth 100000 in
set_option maxHeartbeats 2000000 in
theorem rhead_len (b off : Nat) (xs : List Int) (n c : Nat) (w : World) (hb : BytesAt w (some ⟨b, off, none⟩) xs) (hn : xs.length = n) (h19 : 19 ≤ n) (hc : n ≤ c) (hcm : c ≤ 9223372036854775807) (hm : marksB xs = true) (hk : knownB (xs.getD 18 0) = true) (hf : fitsM (xs.getD 18 0) (getV [xs.getD 16 0, xs.getD 17 0] - 19) = false) :
    Calls Tryd.prog 14 #[.slice (some ⟨b, off, none⟩) n c] w fun e w' => RetH w w' 0 0 1 2 [xs.getD 16 0, xs.getD 17 0] e := by
  have HX := Lib.hid (Blk.new w 33 [.int .i64 0, .int .i64 0, .slice none 0 0])
  have hal := (Below.refl w.heap.size w).alloc (Nat.le_refl _) (.cells #[.int .i64 0, .int .i64 0, .slice none 0 0] 33)
  have hb2 := hb.below hal
  obtain ⟨W, hW⟩ : ∃ W, w.alloc (.cells #[.int .i64 0, .int .i64 0, .slice none 0 0] 33) = W := ⟨_, rfl⟩
  rw [hW] at HX hal hb2
  have HAL := Lib.hid hal
  obtain ⟨hx, hcl⟩ := hb2
  obtain ⟨b', off', he, hcl⟩ := hcl.resolve_left (by rintro rfl; simp at hn; omega)
  obtain ⟨rfl, rfl⟩ : b = b' ∧ off = off' := by simpa using he
  have HBW := Lib.hid (show b < w.heap.size by
    obtain ⟨b2, o2, e2, hc2⟩ := hb.2.resolve_left (by rintro rfl; simp at hn; omega)
    obtain ⟨rfl, rfl⟩ : b = b2 ∧ off = o2 := by simpa using e2
    exact World.block_lt_of_cell? w _ (hc2 0 (by omega)))
  have HC := Lib.hid hcl
  have HM := Lib.hid (marksB_yes hm)
  have HN := Lib.hid hn
  have hX16 := hx 16 (by omega)
  have hX17 := hx 17 (by omega)
  have hX18 := hx 18 (by omega)
  have c18 := hcl 18 (by omega)
  have c16 := hcl 16 (by omega)
  have c17 := hcl 17 (by omega)
  generalize xs.getD 18 0 = k at *
  generalize xs.getD 17 0 = y at *
  generalize xs.getD 16 0 = x at *
  have hB2 : BytesAt W.drew (some ⟨b, off + 16, none⟩) [x, y] :=
    ⟨inByte_all (by intro z hz; simp at hz; rcases hz with rfl | rfl; exact hX16; exact hX17), .inr ⟨b, off + 16, rfl, fun i hi => by
      have : i = 0 ∨ i = 1 := by simp at hi; omega
      rcases this with rfl | rfl
      · exact c16
      · exact c17⟩⟩
  have hget := rget_any (some ⟨b, off + 16, none⟩) [x, y] (c - 16) _ (by simp) hB2
  rw [show [x, y].length = 2 from rfl] at hget
  have HG := Lib.hid hget
  have HV := Lib.hid (getV_two x y hX16 hX17)
  have H18 := Lib.hid c18
  have H16 := Lib.hid c16
  have H17 := Lib.hid c17
  have HW := Lib.hid hW
  clear hb hm he hcl hx hn hal hB2 c16 c17 c18 hget hW
  obtain ⟨k0, k255⟩ := hX18
  have g1 : 16 ≤ c := by omega
  have t1 : decide ((n : Int) < 19) = false := by simp; omega
  obtain ⟨V, hV⟩ : ∃ V, getV [x, y] = V := ⟨_, rfl⟩
  rw [hV] at HG HV hf
  clear hV
  obtain ⟨v0, v1⟩ := HV.out
  obtain ⟨r, hr⟩ : ∃ r, rleast k = r := ⟨_, rfl⟩
  have HR := Lib.hid (fun w => hr ▸ rleast_any k w)
  have hbad : V < r ∨ (r ≤ V ∧ 4096 < V) ∨ (r ≤ V ∧ V ≤ 4096 ∧ k = 4 ∧ V ≠ 19) := by
    rw [← hr]
    obtain ⟨k1, k4⟩ := knownB_yes hk
    have hc : k = 1 ∨ k = 2 ∨ k = 3 ∨ k = 4 := by omega
    rcases hc with rfl | rfl | rfl | rfl <;> simp [fitsM, leastL, rleast] at hf ⊢ <;> omega
  have hr1 : 0 < r := by
    rw [← hr]; unfold rleast
    obtain ⟨k1, k4⟩ := knownB_yes hk
    split <;> (try split) <;> (try split) <;> (try split) <;> omega
  have tr : (r == 0) = false := by simp; omega
  clear hr hk hf
  go_enter Tryd.func14, Tryd.ntmps14
  go_wp2_with fail
  rw [HW.out]
  clear t1
  go_loop [5] (fun i => ∃ j : Nat, j ≤ 16 ∧ i = .int .i64 j) (fun i => 16 - (intOf i).toNat)
  case atStart => exact ⟨0, by omega, rfl⟩
  case round =>
    obtain ⟨j, hj, rfl⟩ := hrel
    by_cases hlt : j < 16
    · have cj := HC.out j (by have := HN.out; omega)
      have hjn : (j : Int) < (n : Int) := by omega
      have hx : (xs.getD j 0 != 255) = false := by rw [HM.out j hlt]; rfl
      generalize xs.getD j 0 = z at *
      go_wp2_with fail
      go_round
      case rel => exact ⟨j + 1, by omega, by go_num⟩
      case measure => simp [intOf]; omega
    · obtain rfl : j = 16 := by omega
      have i18 : (18 : Int) < (n : Int) := by omega
      have i16 : (16 : Int) < (n : Int) := by omega
      have i17 : (17 : Int) < (n : Int) := by omega
      go_wp2_with fail
      have hS : W.drew.cell? ⟨b, off + 18, none⟩ = some (.int .u8 k) := H18.out
      go_region_held (fun w' => w'.cell? ⟨b, off + 18, none⟩ = some (.int .u8 k)) (with_reducible assumption) (first
        | (go_at_call 28; refine HG.out.mono ?_; rintro e w' ⟨rfl, rfl⟩))
      rcases hbad with hv | ⟨hv, hw⟩ | ⟨hv, hw, rfl, hz⟩
      · have u1 : decide (V < r) = true := by simpa using hv
        go_wp2_with (go_at_call 22; refine (HR.out _).mono ?_; rintro e w' ⟨rfl, rfl⟩)
        obtain ⟨X, hX⟩ : ∃ X, W.drew = X := ⟨_, rfl⟩
        have X16 := Lib.hid (show X.cell? ⟨b, off + 16, none⟩ = some (.int .u8 x) by rw [← hX]; exact H16.out)
        have X17 := Lib.hid (show X.cell? ⟨b, off + 17, none⟩ = some (.int .u8 y) by rw [← hX]; exact H17.out)
        have HXX := Lib.hid (show Blk X w.heap.size 33 [.int .i64 0, .int .i64 0, .slice none 0 0] by rw [← hX]; exact HX.out)
        have HBX := Lib.hid (show Below w.heap.size w X by rw [← hX]; exact HAL.out.drew)
        rw [hX]
        have hS2 : X.drew.cell? ⟨b, off + 16, none⟩ = some (.int .u8 x) ∧ X.drew.cell? ⟨b, off + 17, none⟩ = some (.int .u8 y) := ⟨X16.out, X17.out⟩
        have hXA : Blk (X.alloc (.cells #[.int .u8 x, .int .u8 y] 5)) w.heap.size 33 [.int .i64 0, .int .i64 0, .slice none 0 0] := (HXX.out.alloc _)
        have c0 := hXA.cell 0 (by simp)
        have c1 := hXA.cell 1 (by simp)
        have c2 := hXA.cell 2 (by simp)
        have f0 := hXA.f 0
        have f1 := hXA.f 1
        have f2 := hXA.f 2
        clear hXA hX hS
        go_region_held (fun w' => w'.cell? ⟨b, off + 16, none⟩ = some (.int .u8 x) ∧ w'.cell? ⟨b, off + 17, none⟩ = some (.int .u8 y)) (first | with_reducible assumption | (with_reducible refine far2 ?_ HBW.out HBW.out X16.out X17.out; repeat (first | with_reducible exact Below.refl _ _ | (with_reducible refine Below.drew ?_) | (with_reducible refine Below.setCell ?_ (by simp) _) | (with_reducible refine Below.alloc ?_ (by have := HBX.out.size; simp; omega) _)))) (fail)
        go_wp2_with fail
        have hlt := HXX.out.lt
        refine bodyPost_ret (v := .tuple #[.int .i64 0, .int .i64 0, .agg #[.int .i64 1, .int .i64 2, .slice (some ⟨X.heap.size, 0, none⟩) 2 2]]) (by simp [results, Tryd.results14, go_sem, c0, c1, c2]) rfl ⟨some ⟨X.heap.size, 0, none⟩, 2, rfl, ?_, ?_⟩
        · exact ((((Own.lit X X.heap.size [x, y] (inByte_all (by intro z hz; simp at hz; rcases hz with rfl | rfl; exact hX16; exact hX17)) (by simp) (Nat.le_refl _)).setBelow (a := ⟨w.heap.size, 0, none⟩) hlt _).setBelow (a := ⟨w.heap.size, 1, none⟩) hlt _).setBelow (a := ⟨w.heap.size, 2, none⟩) hlt _).drew.mono (Nat.le_of_lt hlt)
        · exact ((((HBX.out.alloc HBX.out.size _).setCell (Nat.le_refl _) _).setCell (Nat.le_refl _) _).setCell (Nat.le_refl _) _).drew
      · have u1 : decide (V < r) = false := by simp; omega
        have u2 : decide ((4096 : Int) < V) = true := by simpa using hw
        go_wp2_with (go_at_call 22; refine (HR.out _).mono ?_; rintro e w' ⟨rfl, rfl⟩)
        obtain ⟨X, hX⟩ : ∃ X, W.drew = X := ⟨_, rfl⟩
        have X16 := Lib.hid (show X.cell? ⟨b, off + 16, none⟩ = some (.int .u8 x) by rw [← hX]; exact H16.out)
        have X17 := Lib.hid (show X.cell? ⟨b, off + 17, none⟩ = some (.int .u8 y) by rw [← hX]; exact H17.out)
        have HXX := Lib.hid (show Blk X w.heap.size 33 [.int .i64 0, .int .i64 0, .slice none 0 0] by rw [← hX]; exact HX.out)
        have HBX := Lib.hid (show Below w.heap.size w X by rw [← hX]; exact HAL.out.drew)
        rw [hX]
        have hS2 : X.drew.cell? ⟨b, off + 16, none⟩ = some (.int .u8 x) ∧ X.drew.cell? ⟨b, off + 17, none⟩ = some (.int .u8 y) := ⟨X16.out, X17.out⟩
        have hXA : Blk (X.alloc (.cells #[.int .u8 x, .int .u8 y] 5)) w.heap.size 33 [.int .i64 0, .int .i64 0, .slice none 0 0] := (HXX.out.alloc _)
        have c0 := hXA.cell 0 (by simp)
        have c1 := hXA.cell 1 (by simp)
        have c2 := hXA.cell 2 (by simp)
        have f0 := hXA.f 0
        have f1 := hXA.f 1
        have f2 := hXA.f 2
        clear hXA hX hS
        go_region_held (fun w' => w'.cell? ⟨b, off + 16, none⟩ = some (.int .u8 x) ∧ w'.cell? ⟨b, off + 17, none⟩ = some (.int .u8 y)) (first | with_reducible assumption | (with_reducible refine far2 ?_ HBW.out HBW.out X16.out X17.out; repeat (first | with_reducible exact Below.refl _ _ | (with_reducible refine Below.drew ?_) | (with_reducible refine Below.setCell ?_ (by simp) _) | (with_reducible refine Below.alloc ?_ (by have := HBX.out.size; simp; omega) _)))) (fail)
        go_wp2_with fail
        have hlt := HXX.out.lt
        refine bodyPost_ret (v := .tuple #[.int .i64 0, .int .i64 0, .agg #[.int .i64 1, .int .i64 2, .slice (some ⟨X.heap.size, 0, none⟩) 2 2]]) (by simp [results, Tryd.results14, go_sem, c0, c1, c2]) rfl ⟨some ⟨X.heap.size, 0, none⟩, 2, rfl, ?_, ?_⟩
        · exact ((((Own.lit X X.heap.size [x, y] (inByte_all (by intro z hz; simp at hz; rcases hz with rfl | rfl; exact hX16; exact hX17)) (by simp) (Nat.le_refl _)).setBelow (a := ⟨w.heap.size, 0, none⟩) hlt _).setBelow (a := ⟨w.heap.size, 1, none⟩) hlt _).setBelow (a := ⟨w.heap.size, 2, none⟩) hlt _).drew.mono (Nat.le_of_lt hlt)
        · exact ((((HBX.out.alloc HBX.out.size _).setCell (Nat.le_refl _) _).setCell (Nat.le_refl _) _).setCell (Nat.le_refl _) _).drew
      · have u1 : decide (V < r) = false := by simp; omega
        have u2 : decide ((4096 : Int) < V) = false := by simp; omega
        have u3 : (V != 19) = true := by simpa using hz
        go_wp2_with (go_at_call 22; refine (HR.out _).mono ?_; rintro e w' ⟨rfl, rfl⟩)
        obtain ⟨X, hX⟩ : ∃ X, W.drew = X := ⟨_, rfl⟩
        have X16 := Lib.hid (show X.cell? ⟨b, off + 16, none⟩ = some (.int .u8 x) by rw [← hX]; exact H16.out)
        have X17 := Lib.hid (show X.cell? ⟨b, off + 17, none⟩ = some (.int .u8 y) by rw [← hX]; exact H17.out)
        have HXX := Lib.hid (show Blk X w.heap.size 33 [.int .i64 0, .int .i64 0, .slice none 0 0] by rw [← hX]; exact HX.out)
        have HBX := Lib.hid (show Below w.heap.size w X by rw [← hX]; exact HAL.out.drew)
        rw [hX]
        have hS2 : X.drew.cell? ⟨b, off + 16, none⟩ = some (.int .u8 x) ∧ X.drew.cell? ⟨b, off + 17, none⟩ = some (.int .u8 y) := ⟨X16.out, X17.out⟩
        have hXA : Blk (X.alloc (.cells #[.int .u8 x, .int .u8 y] 5)) w.heap.size 33 [.int .i64 0, .int .i64 0, .slice none 0 0] := (HXX.out.alloc _)
        have c0 := hXA.cell 0 (by simp)
        have c1 := hXA.cell 1 (by simp)
        have c2 := hXA.cell 2 (by simp)
        have f0 := hXA.f 0
        have f1 := hXA.f 1
        have f2 := hXA.f 2
        clear hXA hX hS
        go_region_held (fun w' => w'.cell? ⟨b, off + 16, none⟩ = some (.int .u8 x) ∧ w'.cell? ⟨b, off + 17, none⟩ = some (.int .u8 y)) (first | with_reducible assumption | (with_reducible refine far2 ?_ HBW.out HBW.out X16.out X17.out; repeat (first | with_reducible exact Below.refl _ _ | (with_reducible refine Below.drew ?_) | (with_reducible refine Below.setCell ?_ (by simp) _) | (with_reducible refine Below.alloc ?_ (by have := HBX.out.size; simp; omega) _)))) (fail)
        go_wp2_with fail
        have hlt := HXX.out.lt
        refine bodyPost_ret (v := .tuple #[.int .i64 0, .int .i64 0, .agg #[.int .i64 1, .int .i64 2, .slice (some ⟨X.heap.size, 0, none⟩) 2 2]]) (by simp [results, Tryd.results14, go_sem, c0, c1, c2]) rfl ⟨some ⟨X.heap.size, 0, none⟩, 2, rfl, ?_, ?_⟩
        · exact ((((Own.lit X X.heap.size [x, y] (inByte_all (by intro z hz; simp at hz; rcases hz with rfl | rfl; exact hX16; exact hX17)) (by simp) (Nat.le_refl _)).setBelow (a := ⟨w.heap.size, 0, none⟩) hlt _).setBelow (a := ⟨w.heap.size, 1, none⟩) hlt _).setBelow (a := ⟨w.heap.size, 2, none⟩) hlt _).drew.mono (Nat.le_of_lt hlt)
        · exact ((((HBX.out.alloc HBX.out.size _).setCell (Nat.le_refl _) _).setCell (Nat.le_refl _) _).setCell (Nat.le_refl _) _).drew

set_option maxRecDepth 100000 in
set_option maxHeartbeats 2000000 in
theorem rhead_ok (b off : Nat) (xs : List Int) (n c : Nat) (w : World) (hb : BytesAt w (some ⟨b, off, none⟩) xs) (hn : xs.length = n) (h19 : 19 ≤ n) (hc : n ≤ c) (hcm : c ≤ 9223372036854775807) (hm : marksB xs = true) (hk : knownB (xs.getD 18 0) = true) (hf : fitsM (xs.getD 18 0) (getV [xs.getD 16 0, xs.getD 17 0] - 19) = true) :
    Calls Tryd.prog 14 #[.slice (some ⟨b, off, none⟩) n c] w fun e w' => RetH w w' (xs.getD 18 0) (getV [xs.getD 16 0, xs.getD 17 0]) 0 0 [] e := by
  have HX := Lib.hid (Blk.new w 33 [.int .i64 0, .int .i64 0, .slice none 0 0])
  have hal := (Below.refl w.heap.size w).alloc (Nat.le_refl _) (.cells #[.int .i64 0, .int .i64 0, .slice none 0 0] 33)
  have hb2 := hb.below hal
  obtain ⟨W, hW⟩ : ∃ W, w.alloc (.cells #[.int .i64 0, .int .i64 0, .slice none 0 0] 33) = W := ⟨_, rfl⟩
  rw [hW] at HX hal hb2
  have HAL := Lib.hid hal
  obtain ⟨hx, hcl⟩ := hb2
  obtain ⟨b', off', he, hcl⟩ := hcl.resolve_left (by rintro rfl; simp at hn; omega)
  obtain ⟨rfl, rfl⟩ : b = b' ∧ off = off' := by simpa using he
  have HBW := Lib.hid (show b < w.heap.size by
    obtain ⟨b2, o2, e2, hc2⟩ := hb.2.resolve_left (by rintro rfl; simp at hn; omega)
    obtain ⟨rfl, rfl⟩ : b = b2 ∧ off = o2 := by simpa using e2
    exact World.block_lt_of_cell? w _ (hc2 0 (by omega)))
  have HC := Lib.hid hcl
  have HM := Lib.hid (marksB_yes hm)
  have HN := Lib.hid hn
  have hX16 := hx 16 (by omega)
  have hX17 := hx 17 (by omega)
  have hX18 := hx 18 (by omega)
  have c18 := hcl 18 (by omega)
  have c16 := hcl 16 (by omega)
  have c17 := hcl 17 (by omega)
  generalize xs.getD 18 0 = k at *
  generalize xs.getD 17 0 = y at *
  generalize xs.getD 16 0 = x at *
  have hB2 : BytesAt W.drew (some ⟨b, off + 16, none⟩) [x, y] :=
    ⟨inByte_all (by intro z hz; simp at hz; rcases hz with rfl | rfl; exact hX16; exact hX17), .inr ⟨b, off + 16, rfl, fun i hi => by
      have : i = 0 ∨ i = 1 := by simp at hi; omega
      rcases this with rfl | rfl
      · exact c16
      · exact c17⟩⟩
  have hget := rget_any (some ⟨b, off + 16, none⟩) [x, y] (c - 16) _ (by simp) hB2
  rw [show [x, y].length = 2 from rfl] at hget
  have HG := Lib.hid hget
  have HV := Lib.hid (getV_two x y hX16 hX17)
  have H18 := Lib.hid c18
  have H16 := Lib.hid c16
  have H17 := Lib.hid c17
  have HW := Lib.hid hW
  clear hb hm he hcl hx hn hal hB2 c16 c17 c18 hget hW
  obtain ⟨k0, k255⟩ := hX18
  have g1 : 16 ≤ c := by omega
  have t1 : decide ((n : Int) < 19) = false := by simp; omega
  obtain ⟨V, hV⟩ : ∃ V, getV [x, y] = V := ⟨_, rfl⟩
  rw [hV] at HG HV hf ⊢
  clear hV
  obtain ⟨v0, v1⟩ := HV.out
  obtain ⟨r, hr⟩ : ∃ r, rleast k = r := ⟨_, rfl⟩
  have HR := Lib.hid (fun w => hr ▸ rleast_any k w)
  have hgood : r ≤ V ∧ V ≤ 4096 ∧ (k ≠ 4 ∨ V = 19) := by
    rw [← hr]
    obtain ⟨k1, k4⟩ := knownB_yes hk
    have hc : k = 1 ∨ k = 2 ∨ k = 3 ∨ k = 4 := by omega
    rcases hc with rfl | rfl | rfl | rfl <;> simp [fitsM, leastL, rleast] at hf ⊢ <;> omega
  have hr1 : 0 < r := by
    rw [← hr]; unfold rleast
    obtain ⟨k1, k4⟩ := knownB_yes hk
    split <;> (try split) <;> (try split) <;> (try split) <;> omega
  have tr : (r == 0) = false := by simp; omega
  clear hr hk hf
  go_enter Tryd.func14, Tryd.ntmps14
  go_wp2_with fail
  rw [HW.out]
  clear t1
  go_loop [5] (fun i => ∃ j : Nat, j ≤ 16 ∧ i = .int .i64 j) (fun i => 16 - (intOf i).toNat)
  case atStart => exact ⟨0, by omega, rfl⟩
  case round =>
    obtain ⟨j, hj, rfl⟩ := hrel
    by_cases hlt : j < 16
    · have cj := HC.out j (by have := HN.out; omega)
      have hjn : (j : Int) < (n : Int) := by omega
      have hx : (xs.getD j 0 != 255) = false := by rw [HM.out j hlt]; rfl
      generalize xs.getD j 0 = z at *
      go_wp2_with fail
      go_round
      case rel => exact ⟨j + 1, by omega, by go_num⟩
      case measure => simp [intOf]; omega
    · obtain rfl : j = 16 := by omega
      have i18 : (18 : Int) < (n : Int) := by omega
      have i16 : (16 : Int) < (n : Int) := by omega
      have i17 : (17 : Int) < (n : Int) := by omega
      go_wp2_with fail
      have hS : W.drew.cell? ⟨b, off + 18, none⟩ = some (.int .u8 k) := H18.out
      go_region_held (fun w' => w'.cell? ⟨b, off + 18, none⟩ = some (.int .u8 k)) (with_reducible assumption) (first
        | (go_at_call 28; refine HG.out.mono ?_; rintro e w' ⟨rfl, rfl⟩))
      obtain ⟨hv, hw, hz⟩ := hgood
      have u1 : decide (V < r) = false := by simp; omega
      have u2 : decide ((4096 : Int) < V) = false := by simp; omega
      have c0 : W.drew.cell? ⟨w.heap.size, 0, none⟩ = some (.int .i64 0) := HX.out.cell 0 (by simp)
      have c1 : W.drew.cell? ⟨w.heap.size, 1, none⟩ = some (.int .i64 0) := HX.out.cell 1 (by simp)
      have c2 : W.drew.cell? ⟨w.heap.size, 2, none⟩ = some (.slice none 0 0) := HX.out.cell 2 (by simp)
      have d0 : W.cell? ⟨w.heap.size, 0, none⟩ = some (.int .i64 0) := HX.out.cell 0 (by simp)
      have d1 : W.cell? ⟨w.heap.size, 1, none⟩ = some (.int .i64 0) := HX.out.cell 1 (by simp)
      have d2 : W.cell? ⟨w.heap.size, 2, none⟩ = some (.slice none 0 0) := HX.out.cell 2 (by simp)
      have f0 := HX.out.f 0
      have f1 := HX.out.f 1
      have f2 := HX.out.f 2
      rcases h4 : (k == 4) with _ | _
      · go_wp2_with (go_at_call 22; refine (HR.out _).mono ?_; rintro e w' ⟨rfl, rfl⟩)
        exact bodyPost_ret (v := .tuple #[.int .i64 k, .int .i64 V, .agg #[.int .i64 0, .int .i64 0, .slice none 0 0]]) (by simp [results, Tryd.results14, go_sem, d0, d1, d2]) rfl ⟨none, 0, rfl, Own.nil _ _, by first | exact HAL.out.drew | exact (((HAL.out.setCell (Nat.le_refl _) _).setCell (Nat.le_refl _) _).setCell (Nat.le_refl _) _).drew⟩
      · obtain rfl : k = 4 := by simpa using h4
        clear h4
        have u3 : (V != 19) = false := by simp; omega
        go_wp2_with (go_at_call 22; refine (HR.out _).mono ?_; rintro e w' ⟨rfl, rfl⟩)
        exact bodyPost_ret (v := .tuple #[.int .i64 4, .int .i64 V, .agg #[.int .i64 0, .int .i64 0, .slice none 0 0]]) (by simp [results, Tryd.results14, go_sem, d0, d1, d2]) rfl ⟨none, 0, rfl, Own.nil _ _, by first | exact HAL.out.drew | exact (((HAL.out.setCell (Nat.le_refl _) _).setCell (Nat.le_refl _) _).setCell (Nat.le_refl _) _).drew⟩
end Go.Proofs.YtondoljehdhocaaDoor
