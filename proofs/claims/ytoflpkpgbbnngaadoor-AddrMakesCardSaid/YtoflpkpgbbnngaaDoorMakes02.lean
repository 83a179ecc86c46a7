/- 'AddrMakes': prefixes of any address, of any length; which may be; any bit. -/
import Derived.Test.YtoflpkpgbbnngaaDoorRefD02
namespace Go.Proofs.YtoflpkpgbbnngaaDoor
open Go.RowKit

def TO (w W : World) (a n : Int) : Prop := Tab W ∧ One w W a n
theorem to_next {w W W' : World} {a n : Int} (h : W.cell? ⟨w.heap.size, 0, none⟩ = some (.int .u32 a) ∧ W.cell? ⟨w.heap.size, 1, none⟩ = some (.int .i64 n) ∧ TO w W a n) (hb : Below W.heap.size W W') :
    W'.cell? ⟨w.heap.size, 0, none⟩ = some (.int .u32 a) ∧ W'.cell? ⟨w.heap.size, 1, none⟩ = some (.int .i64 n) ∧ TO w W' a n :=
  have h' : TO w W' a n := ⟨h.2.2.1.below hb, h.2.2.2.below hb⟩
  ⟨h'.2.1.c0, h'.2.1.c1, h'⟩

set_option maxHeartbeats 2000000 in
theorem makes_no (x i a n : Int) (w : World) (ht : Tab w) (x0 : 0 ≤ x) (x1 : x < 4294967296) (a0 : 0 ≤ a) (a1 : a < 4294967296) (hk : okP a n = false) :
    Calls Tryd.prog 3 #[.int .u32 x, .int .i64 i, .agg #[.int .u32 a, .int .i64 n]] w fun e w' => e = .returned (.bool true) ∧ Below w.heap.size w w' := by
  obtain ⟨W, hW⟩ : ∃ W, w.alloc (.cells #[.int .u32 a, .int .i64 n] 24) = W := ⟨_, rfl⟩
  have hO : TO w W a n := by
    rw [← hW]
    have hb := (Below.refl w.heap.size w).alloc (Nat.le_refl _) (.cells #[.int .u32 a, .int .i64 n] 24)
    exact ⟨ht.below hb, Box.new w _ _, hb⟩
  have hq : ∀ w, (binOp .eql 24 (.agg #[.int .u32 (mk x i), .int .i64 (cl i)]) (.agg #[.int .u32 (mk x i), .int .i64 (cl i)])).run Tryd.prog w = .ok (.bool true) w := fun w => by rw [pfx_eql]; simp
  have hg := pfx_eqGuard
  have HM := Lib.hid (fun w => make_any x i w)
  have HN := Lib.hid (fun w => rmake_any x i w x0 x1)
  have HC := Lib.hid (fun w => show Calls Tryd.prog 14 #[.agg #[.int .u32 a, .int .i64 n]] w fun e w' => e = .returned (.int .i64 20) ∧ Below w.heap.size w w' from by have := check_any a n w; unfold errP at this; rw [hk] at this; exact this)
  have HD := Lib.hid (fun w => show Calls Tryd.prog 10 #[.agg #[.int .u32 a, .int .i64 n]] w fun e w' => e = .returned (.bool false) ∧ Below w.heap.size w w' from by have := rcheck_any a n w a0 a1; rwa [hk] at this)
  have HB := Lib.hid (fun w => bit_any x i w x0 x1)
  have HE := Lib.hid (fun w => Rbit_any x i w x0 x1)
  have HH := Lib.hid (fun w => holds_any a n x w)
  have HI := Lib.hid (fun w => rholds_any a n x w a0 a1 x0 x1)
  obtain ⟨P, hP⟩ : ∃ P, mk x i = P := ⟨_, rfl⟩
  obtain ⟨L, hL⟩ : ∃ L, cl i = L := ⟨_, rfl⟩
  obtain ⟨b, hb⟩ : ∃ b, bitP x i = b := ⟨_, rfl⟩
  obtain ⟨v, hv⟩ : ∃ v, holdsP a n x = v := ⟨_, rfl⟩
  rw [hP, hL] at HM HN hq
  rw [hb] at HB HE
  rw [hv] at HH HI
  have HW := Lib.hid hW
  have HO := Lib.hid hO
  have c0 := hO.2.1.c0
  have c1 := hO.2.1.c1
  clear hP hL hb hv hW hk hO ht
  go_enter Tryd.func3, Tryd.ntmps3
  go_wp2_with fail
  rw [HW.out]
  go_wp2_with fail
  refine (HD.out _).mono ?_; rintro e w1 ⟨rfl, hb1⟩
  have hS := to_next ⟨c0, c1, HO.out⟩ (hb1.trans (Below.refl _ w1).drew)
  have HL := Lib.hid (lives_any w1.drew hS.2.2.1)
  clear c0 c1 HO HW hb1
  go_wp2_with fail
  go_region_held (fun w' => w'.cell? ⟨w.heap.size, 0, none⟩ = some (.int .u32 a) ∧ w'.cell? ⟨w.heap.size, 1, none⟩ = some (.int .i64 n) ∧ TO w w' a n) (assumption) (first
    | (go_at_call 11; refine HL.out.mono ?_; rintro e w2 ⟨rfl, hb2⟩; have hk := to_next (by assumption) hb2; clear hb2)
    | (go_at_call 12; refine (HM.out _).mono ?_; rintro e w2 ⟨rfl, hb2⟩; have hk := to_next (by assumption) hb2; clear hb2)
    | (go_at_call 13; refine (HN.out _).mono ?_; rintro e w2 ⟨rfl, hb2⟩; have hk := to_next (by assumption) hb2; clear hb2)
    | (go_at_call 14; refine (HC.out _).mono ?_; rintro e w2 ⟨rfl, hb2⟩; have hk := to_next (by assumption) hb2; clear hb2)
    | (go_at_call 15; refine (HB.out _).mono ?_; rintro e w2 ⟨rfl, rfl⟩)
    | (go_at_call 16; refine (HE.out _).mono ?_; rintro e w2 ⟨rfl, rfl⟩)
    | (go_at_call 17; refine (HH.out _).mono ?_; rintro e w2 ⟨rfl, hb2⟩; have hk := to_next (by assumption) hb2; clear hb2)
    | (go_at_call 18; refine (HI.out _).mono ?_; rintro e w2 ⟨rfl, hb2⟩; have hkz := to_next (by assumption) hb2; clear hb2))
  go_wp2_with fail
  go_ret
  exact ⟨rfl, hkz.2.2.2.2⟩

set_option maxHeartbeats 2000000 in
theorem makes_yes (x i a n : Int) (w : World) (ht : Tab w) (x0 : 0 ≤ x) (x1 : x < 4294967296) (a0 : 0 ≤ a) (a1 : a < 4294967296) (hk : okP a n = true) :
    Calls Tryd.prog 3 #[.int .u32 x, .int .i64 i, .agg #[.int .u32 a, .int .i64 n]] w fun e w' => e = .returned (.bool true) ∧ Below w.heap.size w w' := by
  obtain ⟨W, hW⟩ : ∃ W, w.alloc (.cells #[.int .u32 a, .int .i64 n] 24) = W := ⟨_, rfl⟩
  have hO : TO w W a n := by
    rw [← hW]
    have hb := (Below.refl w.heap.size w).alloc (Nat.le_refl _) (.cells #[.int .u32 a, .int .i64 n] 24)
    exact ⟨ht.below hb, Box.new w _ _, hb⟩
  have hq : ∀ w, (binOp .eql 24 (.agg #[.int .u32 (mk x i), .int .i64 (cl i)]) (.agg #[.int .u32 (mk x i), .int .i64 (cl i)])).run Tryd.prog w = .ok (.bool true) w := fun w => by rw [pfx_eql]; simp
  have hg := pfx_eqGuard
  have HM := Lib.hid (fun w => make_any x i w)
  have HN := Lib.hid (fun w => rmake_any x i w x0 x1)
  have HC := Lib.hid (fun w => show Calls Tryd.prog 14 #[.agg #[.int .u32 a, .int .i64 n]] w fun e w' => e = .returned (.int .i64 0) ∧ Below w.heap.size w w' from by have := check_any a n w; unfold errP at this; rw [hk] at this; exact this)
  have HD := Lib.hid (fun w => show Calls Tryd.prog 10 #[.agg #[.int .u32 a, .int .i64 n]] w fun e w' => e = .returned (.bool true) ∧ Below w.heap.size w w' from by have := rcheck_any a n w a0 a1; rwa [hk] at this)
  have HB := Lib.hid (fun w => bit_any x i w x0 x1)
  have HE := Lib.hid (fun w => Rbit_any x i w x0 x1)
  have HH := Lib.hid (fun w => holds_any a n x w)
  have HI := Lib.hid (fun w => rholds_any a n x w a0 a1 x0 x1)
  obtain ⟨P, hP⟩ : ∃ P, mk x i = P := ⟨_, rfl⟩
  obtain ⟨L, hL⟩ : ∃ L, cl i = L := ⟨_, rfl⟩
  obtain ⟨b, hb⟩ : ∃ b, bitP x i = b := ⟨_, rfl⟩
  obtain ⟨v, hv⟩ : ∃ v, holdsP a n x = v := ⟨_, rfl⟩
  rw [hP, hL] at HM HN hq
  rw [hb] at HB HE
  rw [hv] at HH HI
  have HW := Lib.hid hW
  have HO := Lib.hid hO
  have c0 := hO.2.1.c0
  have c1 := hO.2.1.c1
  clear hP hL hb hv hW hk hO ht
  go_enter Tryd.func3, Tryd.ntmps3
  go_wp2_with fail
  rw [HW.out]
  go_wp2_with fail
  refine (HD.out _).mono ?_; rintro e w1 ⟨rfl, hb1⟩
  have hS := to_next ⟨c0, c1, HO.out⟩ (hb1.trans (Below.refl _ w1).drew)
  have HL := Lib.hid (lives_any w1.drew hS.2.2.1)
  clear c0 c1 HO HW hb1
  go_wp2_with fail
  go_region_held (fun w' => w'.cell? ⟨w.heap.size, 0, none⟩ = some (.int .u32 a) ∧ w'.cell? ⟨w.heap.size, 1, none⟩ = some (.int .i64 n) ∧ TO w w' a n) (assumption) (first
    | (go_at_call 11; refine HL.out.mono ?_; rintro e w2 ⟨rfl, hb2⟩; have hk := to_next (by assumption) hb2; clear hb2)
    | (go_at_call 12; refine (HM.out _).mono ?_; rintro e w2 ⟨rfl, hb2⟩; have hk := to_next (by assumption) hb2; clear hb2)
    | (go_at_call 13; refine (HN.out _).mono ?_; rintro e w2 ⟨rfl, hb2⟩; have hk := to_next (by assumption) hb2; clear hb2)
    | (go_at_call 14; refine (HC.out _).mono ?_; rintro e w2 ⟨rfl, hb2⟩; have hk := to_next (by assumption) hb2; clear hb2)
    | (go_at_call 15; refine (HB.out _).mono ?_; rintro e w2 ⟨rfl, rfl⟩)
    | (go_at_call 16; refine (HE.out _).mono ?_; rintro e w2 ⟨rfl, rfl⟩)
    | (go_at_call 17; refine (HH.out _).mono ?_; rintro e w2 ⟨rfl, hb2⟩; have hk := to_next (by assumption) hb2; clear hb2)
    | (go_at_call 18; refine (HI.out _).mono ?_; rintro e w2 ⟨rfl, hb2⟩; have hkz := to_next (by assumption) hb2; clear hb2))
  go_wp2_with fail
  go_ret
  exact ⟨rfl, hkz.2.2.2.2⟩

theorem makes_law (x : Int) (x0 : 0 ≤ x) (x1 : x < 4294967296) (i a n : Int) (a0 : 0 ≤ a) (a1 : a < 4294967296) (w : World) (ht : Tab w) :
    Calls Tryd.prog 3 #[.int .u32 x, .int .i64 i, .agg #[.int .u32 a, .int .i64 n]] w fun e w' => e = .returned (.bool true) ∧ Below w.heap.size w w' := by
  rcases hk : okP a n with _ | _
  · exact makes_no x i a n w ht x0 x1 a0 a1 hk
  · exact makes_yes x i a n w ht x0 x1 a0 a1 hk
end Go.Proofs.YtoflpkpgbbnngaaDoor
