/- 'AddrCodes', a prefix that may be. -/
import Derived.Test.YtbkpbjjddgmilaaDoorCodesA
namespace Go.Proofs.YtbkpbjjddgmilaaDoor
open Go.RowKit

set_option maxRecDepth 100000 in
set_option maxHeartbeats 2000000 in
theorem codesA_yes (a n : Int) (p : Option Addr) (xs : List Int) (l cap : Nat) (w : World) (ht : Tab w) (a0 : 0 ≤ a) (a1 : a < 4294967296) (hk : okP a n = true) (hb : BytesAt w p xs) (hl : xs.length = l) (hl1 : l ≤ 1000) (_ : l ≤ cap) (_ : cap ≤ 9223372036854775807)
    (A M C E : Int) (B : Bool) (hEB : (E = 20 ∧ B = false) ∨ (E = 0 ∧ B = true))
    (hG : ∀ w, BytesAt w p xs → Calls Tryd.prog 32 #[.slice p l cap] w fun e w' => e = .returned (.tuple #[.agg #[.int .u32 A, .int .i64 M], .int .i64 C, .int .i64 E]) ∧ Below w.heap.size w w')
    (hR : ∀ w, BytesAt w p xs → Calls Tryd.prog 33 #[.slice p l cap] w fun e w' => e = .returned (.tuple #[.agg #[.int .u32 A, .int .i64 M], .int .i64 C, .bool B]) ∧ Below w.heap.size w w') :
    Calls Tryd.prog 7 #[.agg #[.int .u32 a, .int .i64 n], .slice p l cap] w fun e w' => e = .returned (.bool true) ∧ Below w.heap.size w w' := by
  have hq : ∀ w, (binOp .neq 24 (.agg #[.int .u32 A, .int .i64 M]) (.agg #[.int .u32 A, .int .i64 M])).run Tryd.prog w = .ok (.bool false) w := fun w => by rw [pfx_neq]; simp
  have hg := pfx_eqGuard
  have hq2 : ∀ w, (binOp .eql 24 (.agg #[.int .u32 a, .int .i64 n]) (.agg #[.int .u32 a, .int .i64 n])).run Tryd.prog w = .ok (.bool true) w := fun w => by rw [pfx_eql]; simp
  have HP := Lib.hid (fun w => putp_ok a n w a0 a1 hk)
  have hgot := pfx_got xs a0 a1 hk
  have ⟨hmk, hcl⟩ := okP_eq hk
  have HPB := Lib.hid (pfxL_byte hk)
  have ⟨n0, n1⟩ := okP_len hk
  obtain ⟨N, rfl⟩ := Int.eq_ofNat_of_zero_le n0
  have HRP := Lib.hid (fun w => rputp_any a N w a0 a1 (by omega))
  obtain ⟨L, hL⟩ : ∃ L, (pfxL a N).length = L := ⟨_, rfl⟩
  have hL5 : L ≤ 5 := by rw [← hL]; unfold pfxL; simp [putL_len]; omega
  obtain ⟨ps, hps⟩ : ∃ ps, pfxL a N = ps := ⟨_, rfl⟩
  rw [hps] at hgot hL HPB HRP
  have HPS := Lib.hid hps
  have HLL := Lib.hid hL
  have HLX := Lib.hid hl
  have HGX := Lib.hid (show ∀ (q : Option Addr) (cq : Nat) (w : World), BytesAt w q (ps ++ xs) → L + l ≤ cq → cq ≤ 9223372036854775807 → Calls Tryd.prog 32 #[.slice q (L + l) cq] w fun e w' => e = .returned (.tuple #[.agg #[.int .u32 a, .int .i64 N], .int .i64 L, .int .i64 0]) ∧ Below w.heap.size w w' from fun q cq w hb h1 h2 => by
    have hlen : (ps ++ xs).length = L + l := by rw [List.length_append, hL, hl]
    have h := getp_any q (ps ++ xs) cq w hb (by rw [hlen]; exact h1) h2
    rw [hlen, hgot] at h
    refine h.mono fun e w' ⟨he, hb'⟩ => ⟨?_, hb'⟩
    have he' : e = .returned (.tuple #[.agg #[.int .u32 (mk a N), .int .i64 (cl N)], .int .i64 ps.length, .int .i64 0]) := he
    rw [he', ← hmk, ← hcl, hL])
  have HD := Lib.hid (fun w => show Calls Tryd.prog 10 #[.agg #[.int .u32 a, .int .i64 N]] w fun e w' => e = .returned (.bool true) ∧ Below w.heap.size w w' from by have := rcheck_any a N w a0 a1; rwa [hk] at this)
  have HG := Lib.hid hG
  have HR := Lib.hid hR
  have HY := Lib.hid hb
  have HT := Lib.hid ht
  have X0 := Lib.hid (Box.new w (.int .u32 a) (.int .i64 N))
  have B0 := Lib.hid ((Below.refl w.heap.size w).alloc (Nat.le_refl _) (.cells #[.int .u32 a, .int .i64 N] 24))
  have t1 : decide ((1000 : Int) < (l : Int)) = false := by simp; omega
  clear hk hG hR hb ht hl hgot hmk hcl hL hps n0 n1
  go_enter Tryd.func7, Tryd.ntmps7
  go_wp2_with fail
  refine (HP.out _).mono ?_; rintro e w1 ⟨g, rfl, hr, _, hgw, hb⟩
  rw [HPS.out, HLL.out]
  have Z1 := Lib.hid ((show BRow w1 g ps by rw [← HPS.out]; exact hr).bytes HPB.out)
  clear hr
  have B1 := Lib.hid (B0.out.trans (hb.mono B0.out.size))
  have X1 := Lib.hid (X0.out.below hb)
  clear hb
  go_wp2_with fail
  refine (HG.out w1 (HY.out.below B1.out)).mono ?_; rintro e w2 ⟨rfl, hb⟩
  have hal := (Below.refl w2.heap.size w2).alloc (Nat.le_refl _) (.cells #[.int .u32 A, .int .i64 M] 24)
  have B2 := Lib.hid ((B1.out.trans (hb.mono B1.out.size)).trans (hal.mono (Nat.le_trans B1.out.size hb.size)))
  have X2 := Lib.hid ((X1.out.below hb).below hal)
  have Z2 := Lib.hid ((Z1.out.below hb).below hal)
  have Y2 := Lib.hid (Box.new w2 (.int .u32 A) (.int .i64 M))
  clear hb hal
  go_wp2_with fail
  refine (HR.out _ (HY.out.below B2.out)).mono ?_; rintro e w3 ⟨rfl, hb⟩
  have hal := (Below.refl w3.heap.size w3).alloc (Nat.le_refl _) (.cells #[.int .u32 A, .int .i64 M] 24)
  have S3 := Lib.hid (show PSt w (w3.alloc (.cells #[.int .u32 A, .int .i64 M] 24)) a N w2.heap.size w3.heap.size A M from
    have hb2 := hb.trans (hal.mono hb.size)
    have hB := B2.out.trans (hb2.mono B2.out.size)
    ⟨HT.out.below hB, X2.out.below hb2, Y2.out.below hb2, Box.new w3 _ _, hB⟩)
  have Z3 := Lib.hid ((Z2.out.below hb).below hal)
  have HL := Lib.hid (lives_any _ S3.out.1)
  clear hb hal X2 Y2 Z1 Z2
  go_wp2_with fail
  refine HL.out.mono ?_; rintro e w4 ⟨rfl, hb⟩
  have S4 := Lib.hid (S3.out.next hb)
  have Z4 := Lib.hid (Z3.out.below hb)
  have c0 := S4.out.2.1.c0
  have c1 := S4.out.2.1.c1
  have d0 := S4.out.2.2.1.c0
  have d1 := S4.out.2.2.1.c1
  have e0 := S4.out.2.2.2.1.c0
  have e1 := S4.out.2.2.2.1.c1
  clear hb HL S3
  rcases hEB with ⟨rfl, rfl⟩ | ⟨rfl, rfl⟩
  · go_wp2_with fail
    refine (HD.out _).mono ?_; rintro e w5 ⟨rfl, hb⟩
    have S5 := Lib.hid (S4.out.next hb)
    have Z5 := Lib.hid ((Z4.out.below hb).alloc (.cells #[] 5))
    have Z5b := Lib.hid (Z4.out.below hb)
    have V5 := Lib.hid ((HY.out.below S5.out.2.2.2.2))
    have OL := Lib.hid (Own.lit w5 w5.heap.size [] (fun i hi => by simp at hi) (by simp) (Nat.le_refl _))
    clear hb c0 c1 d0 d1 e0 e1
    go_wp2_with (first
      | (refine wpList_appo (o := ⟨some 76, _, _, _, _, _⟩) (by rfl) (.tmp 74) (.tmp 75) (by rfl) w5.heap.size (some ⟨w5.heap.size, 0, none⟩) 0 [] OL.out 0 (by rfl) (by rfl) (some ⟨g, 0, none⟩) L L ps Z5.out HLL.out (by rfl) L (by omega) (by omega) (by simp) ?_; intro p6 c6 w6 hO6 hB6 hG6; have B6 := Lib.hid (((Below.refl w5.heap.size w5).alloc (Nat.le_refl _) (.cells #[] 5)).trans hB6.out); have V6 := Lib.hid (V5.out.below B6.out))
      | (refine wpList_appo (o := ⟨some 78, _, _, _, _, _⟩) (by rfl) (.tmp 76) (.tmp 77) (by rfl) w5.heap.size p6 c6 ([] ++ ps) hO6.out L HLL.out (by rfl) p l cap xs V6.out HLX.out (by rfl) (L + l) (by omega) (by omega) B6.out.size ?_; intro p7 c7 w7 hO7 hB7 hG7))
    have B7 := Lib.hid (B6.out.trans hB7.out)
    have hle7 : L + l ≤ c7 := by have := hO7.out.le; rw [List.nil_append, List.length_append, HLL.out, HLX.out] at this; exact this
    have hmx7 : c7 ≤ 9223372036854775807 := by have := hO7.out.max; unfold maxLen at this; omega
    refine (HGX.out p7 c7 w7 hO7.out.bytes hle7 hmx7).mono ?_; rintro e w8 ⟨rfl, hb⟩
    have S8 := Lib.hid ((S5.out.next B7.out).next hb)
    have hal := (Below.refl w8.heap.size w8).alloc (Nat.le_refl _) (.cells #[.int .u32 a, .int .i64 N] 24)
    have S9 := Lib.hid (S8.out.next hal)
    have Z9 := Lib.hid (((Z5b.out.below B7.out).below hb).below hal)
    have X9 := Lib.hid (Box.new w8 (.int .u32 a) (.int .i64 N))
    clear hb hal hO6 hB6 hG6 hO7 hB7 hG7 OL Z5
    obtain ⟨W9, hW9⟩ : ∃ W9, w8.alloc (.cells #[.int .u32 a, .int .i64 N] 24) = W9 := ⟨_, rfl⟩
    rw [hW9] at S9 Z9 X9
    have HW9 := Lib.hid hW9
    clear hW9
    go_wp2_with fail
    rw [HW9.out]
    have c2 := run_text (Z9.out.drew) L
    rw [HLL.out] at c2
    have hS := And.intro (show W9.drew.cell? ⟨w.heap.size, 0, none⟩ = some (.int .u32 a) from S9.out.2.1.c0) (And.intro (show W9.drew.cell? ⟨w.heap.size, 1, none⟩ = some (.int .i64 N) from S9.out.2.1.c1) (And.intro (show W9.drew.cell? ⟨w8.heap.size, 0, none⟩ = some (.int .u32 a) from X9.out.c0) (And.intro (show W9.drew.cell? ⟨w8.heap.size, 1, none⟩ = some (.int .i64 N) from X9.out.c1) c2)))
    clear c2
    have S9D := Lib.hid (PSt.next S9.out ((Below.refl W9.heap.size W9).drew))
    go_region_held (fun w' => w'.cell? ⟨w.heap.size, 0, none⟩ = some (.int .u32 a) ∧ w'.cell? ⟨w.heap.size, 1, none⟩ = some (.int .i64 N) ∧ w'.cell? ⟨w8.heap.size, 0, none⟩ = some (.int .u32 a) ∧ w'.cell? ⟨w8.heap.size, 1, none⟩ = some (.int .i64 N) ∧ (convert 46 9 (.slice (some ⟨g, 0, none⟩) L L)).run Tryd.prog w' = .ok (.string (strOfNums ps)) w') (with_reducible assumption) (first
      | (go_at_call 34; refine (HRP.out W9.drew).mono ?_; rintro e w10 ⟨g10, c10, rfl, hO10, hb10⟩; rw [HLL.out]; have S10 := Lib.hid (PSt.next S9D.out hb10); have X10 := Lib.hid (Box.below (w := W9.drew) X9.out hb10); have c3 := run_text (Z9.out.drew.below hb10) L; have d3 := run_text (w := w10) (p := some ⟨g10, 0, none⟩) (xs := ps) ⟨HPB.out, .inr ⟨g10, 0, rfl, fun j hj => by have h := OwnB.at hO10 j hj; rw [add_lit'] at h; exact h⟩⟩ c10; rw [HLL.out] at c3 d3; have hS10 := And.intro (show w10.cell? ⟨w.heap.size, 0, none⟩ = some (.int .u32 a) from S10.out.2.1.c0) (And.intro (show w10.cell? ⟨w.heap.size, 1, none⟩ = some (.int .i64 N) from S10.out.2.1.c1) (And.intro (show w10.cell? ⟨w8.heap.size, 0, none⟩ = some (.int .u32 a) from X10.out.c0) (And.intro (show w10.cell? ⟨w8.heap.size, 1, none⟩ = some (.int .i64 N) from X10.out.c1) c3))); clear hb10 hO10 c3))
    go_wp2_with fail
    go_ret
    exact ⟨rfl, S10.out.2.2.2.2⟩
  · go_wp2_with fail
    refine (HD.out _).mono ?_; rintro e w5 ⟨rfl, hb⟩
    have S5 := Lib.hid (S4.out.next hb)
    have Z5 := Lib.hid ((Z4.out.below hb).alloc (.cells #[] 5))
    have Z5b := Lib.hid (Z4.out.below hb)
    have V5 := Lib.hid ((HY.out.below S5.out.2.2.2.2))
    have OL := Lib.hid (Own.lit w5 w5.heap.size [] (fun i hi => by simp at hi) (by simp) (Nat.le_refl _))
    clear hb c0 c1 d0 d1 e0 e1
    go_wp2_with (first
      | (refine wpList_appo (o := ⟨some 76, _, _, _, _, _⟩) (by rfl) (.tmp 74) (.tmp 75) (by rfl) w5.heap.size (some ⟨w5.heap.size, 0, none⟩) 0 [] OL.out 0 (by rfl) (by rfl) (some ⟨g, 0, none⟩) L L ps Z5.out HLL.out (by rfl) L (by omega) (by omega) (by simp) ?_; intro p6 c6 w6 hO6 hB6 hG6; have B6 := Lib.hid (((Below.refl w5.heap.size w5).alloc (Nat.le_refl _) (.cells #[] 5)).trans hB6.out); have V6 := Lib.hid (V5.out.below B6.out))
      | (refine wpList_appo (o := ⟨some 78, _, _, _, _, _⟩) (by rfl) (.tmp 76) (.tmp 77) (by rfl) w5.heap.size p6 c6 ([] ++ ps) hO6.out L HLL.out (by rfl) p l cap xs V6.out HLX.out (by rfl) (L + l) (by omega) (by omega) B6.out.size ?_; intro p7 c7 w7 hO7 hB7 hG7))
    have B7 := Lib.hid (B6.out.trans hB7.out)
    have hle7 : L + l ≤ c7 := by have := hO7.out.le; rw [List.nil_append, List.length_append, HLL.out, HLX.out] at this; exact this
    have hmx7 : c7 ≤ 9223372036854775807 := by have := hO7.out.max; unfold maxLen at this; omega
    refine (HGX.out p7 c7 w7 hO7.out.bytes hle7 hmx7).mono ?_; rintro e w8 ⟨rfl, hb⟩
    have S8 := Lib.hid ((S5.out.next B7.out).next hb)
    have hal := (Below.refl w8.heap.size w8).alloc (Nat.le_refl _) (.cells #[.int .u32 a, .int .i64 N] 24)
    have S9 := Lib.hid (S8.out.next hal)
    have Z9 := Lib.hid (((Z5b.out.below B7.out).below hb).below hal)
    have X9 := Lib.hid (Box.new w8 (.int .u32 a) (.int .i64 N))
    clear hb hal hO6 hB6 hG6 hO7 hB7 hG7 OL Z5
    obtain ⟨W9, hW9⟩ : ∃ W9, w8.alloc (.cells #[.int .u32 a, .int .i64 N] 24) = W9 := ⟨_, rfl⟩
    rw [hW9] at S9 Z9 X9
    have HW9 := Lib.hid hW9
    clear hW9
    go_wp2_with fail
    rw [HW9.out]
    have c2 := run_text (Z9.out.drew) L
    rw [HLL.out] at c2
    have hS := And.intro (show W9.drew.cell? ⟨w.heap.size, 0, none⟩ = some (.int .u32 a) from S9.out.2.1.c0) (And.intro (show W9.drew.cell? ⟨w.heap.size, 1, none⟩ = some (.int .i64 N) from S9.out.2.1.c1) (And.intro (show W9.drew.cell? ⟨w8.heap.size, 0, none⟩ = some (.int .u32 a) from X9.out.c0) (And.intro (show W9.drew.cell? ⟨w8.heap.size, 1, none⟩ = some (.int .i64 N) from X9.out.c1) c2)))
    clear c2
    have S9D := Lib.hid (PSt.next S9.out ((Below.refl W9.heap.size W9).drew))
    go_region_held (fun w' => w'.cell? ⟨w.heap.size, 0, none⟩ = some (.int .u32 a) ∧ w'.cell? ⟨w.heap.size, 1, none⟩ = some (.int .i64 N) ∧ w'.cell? ⟨w8.heap.size, 0, none⟩ = some (.int .u32 a) ∧ w'.cell? ⟨w8.heap.size, 1, none⟩ = some (.int .i64 N) ∧ (convert 46 9 (.slice (some ⟨g, 0, none⟩) L L)).run Tryd.prog w' = .ok (.string (strOfNums ps)) w') (with_reducible assumption) (first
      | (go_at_call 34; refine (HRP.out W9.drew).mono ?_; rintro e w10 ⟨g10, c10, rfl, hO10, hb10⟩; rw [HLL.out]; have S10 := Lib.hid (PSt.next S9D.out hb10); have X10 := Lib.hid (Box.below (w := W9.drew) X9.out hb10); have c3 := run_text (Z9.out.drew.below hb10) L; have d3 := run_text (w := w10) (p := some ⟨g10, 0, none⟩) (xs := ps) ⟨HPB.out, .inr ⟨g10, 0, rfl, fun j hj => by have h := OwnB.at hO10 j hj; rw [add_lit'] at h; exact h⟩⟩ c10; rw [HLL.out] at c3 d3; have hS10 := And.intro (show w10.cell? ⟨w.heap.size, 0, none⟩ = some (.int .u32 a) from S10.out.2.1.c0) (And.intro (show w10.cell? ⟨w.heap.size, 1, none⟩ = some (.int .i64 N) from S10.out.2.1.c1) (And.intro (show w10.cell? ⟨w8.heap.size, 0, none⟩ = some (.int .u32 a) from X10.out.c0) (And.intro (show w10.cell? ⟨w8.heap.size, 1, none⟩ = some (.int .i64 N) from X10.out.c1) c3))); clear hb10 hO10 c3))
    go_wp2_with fail
    go_ret
    exact ⟨rfl, S10.out.2.2.2.2⟩
end Go.Proofs.YtbkpbjjddgmilaaDoor
