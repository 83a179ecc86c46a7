/- 'AddrTexts': any prefix, and any address, as a text: there and back. -/
import Derived.Test.YtoflpkpgbbnngaaDoorShow02
namespace Go.Proofs.YtoflpkpgbbnngaaDoor
open Go.RowKit

def SS (w W : World) (a n : Int) (g : Nat) (v m : Int) : Prop := Tab W ∧ Box W w.heap.size (.int .u32 a) (.int .i64 n) ∧ Box W g (.int .u32 v) (.int .i64 m) ∧ Below w.heap.size w W
theorem SS.below {w W W' : World} {a n : Int} {g : Nat} {v m : Int} (h : SS w W a n g v m) (hb : Below W.heap.size W W') : SS w W' a n g v m :=
  ⟨h.1.below hb, h.2.1.below hb, h.2.2.1.below hb, h.2.2.2.trans (hb.mono h.2.2.2.size)⟩
theorem ss_next {w W W' : World} {a n : Int} {g : Nat} {v m : Int} (h : W.cell? ⟨w.heap.size, 0, none⟩ = some (.int .u32 a) ∧ W.cell? ⟨w.heap.size, 1, none⟩ = some (.int .i64 n) ∧ SS w W a n g v m) (hb : Below W.heap.size W W') :
    W'.cell? ⟨w.heap.size, 0, none⟩ = some (.int .u32 a) ∧ W'.cell? ⟨w.heap.size, 1, none⟩ = some (.int .i64 n) ∧ SS w W' a n g v m :=
  have h' := h.2.2.below hb
  ⟨h'.2.1.c0, h'.2.1.c1, h'⟩

set_option maxHeartbeats 2000000 in
theorem texts_no (a n x : Int) (w : World) (ht : Tab w) (x0 : 0 ≤ x) (x1 : x < 4294967296) (a0 : 0 ≤ a) (a1 : a < 4294967296) (hk : okP a n = false) :
    Calls Tryd.prog 5 #[.agg #[.int .u32 a, .int .i64 n], .int .u32 x] w fun e w' => e = .returned (.bool true) ∧ Below w.heap.size w w' := by
  have HSh := Lib.hid (fun W (h : Tab W) => show_str a n W a0 a1 h)
  have HRS := Lib.hid (fun W => rshow_str a n W a0 a1)
  have HDo := Lib.hid (fun W (h : Tab W) => dot_str x W x0 x1 h)
  have HRD := Lib.hid (fun W => rdot_str x W x0 x1)
  have HAd := Lib.hid (fun W => addr_back x W x0 x1)
  have HPa := Lib.hid (fun W => show Calls Tryd.prog 23 #[.string ⟨(showP a n).toArray⟩] W fun e w' => e = .returned (.tuple #[.agg #[.int .u32 0, .int .i64 0], .int .i64 20]) ∧ Below W.heap.size W w' from by have := parse_back a n W a0 a1; rw [hk] at this; exact this)
  have HD := Lib.hid (fun w => show Calls Tryd.prog 10 #[.agg #[.int .u32 a, .int .i64 n]] w fun e w' => e = .returned (.bool false) ∧ Below w.heap.size w w' from by have := rcheck_any a n w a0 a1; rwa [hk] at this)
  have hq : ∀ w, (binOp .eql 24 (.agg #[.int .u32 a, .int .i64 n]) (.agg #[.int .u32 a, .int .i64 n])).run Tryd.prog w = .ok (.bool true) w := fun w => by rw [pfx_eql]; simp
  have hg := pfx_eqGuard
  obtain ⟨T, hT⟩ : ∃ T : ByteArray, T = ⟨(showP a n).toArray⟩ := ⟨_, rfl⟩
  obtain ⟨D, hD⟩ : ∃ D : ByteArray, D = ⟨(dotL (putL x 4) 3).toArray⟩ := ⟨_, rfl⟩
  rw [← hT] at HSh HRS HPa
  rw [← hD] at HDo HRD HAd
  clear hT hD hk
  have S0 := Lib.hid (show Tab _ ∧ Box _ w.heap.size (.int .u32 a) (.int .i64 n) ∧ Below w.heap.size w (w.alloc (.cells #[.int .u32 a, .int .i64 n] 24)) from
    have hb := (Below.refl w.heap.size w).alloc (Nat.le_refl _) (.cells #[.int .u32 a, .int .i64 n] 24)
    ⟨ht.below hb, Box.new w _ _, hb⟩)
  clear ht
  go_enter Tryd.func5, Tryd.ntmps5
  go_wp2_with fail
  refine (HSh.out _ S0.out.1).mono ?_; rintro e w1 ⟨rfl, hb⟩
  have S1 := Lib.hid (show Tab w1 ∧ Box w1 w.heap.size (.int .u32 a) (.int .i64 n) ∧ Below w.heap.size w w1 from ⟨S0.out.1.below hb, S0.out.2.1.below hb, S0.out.2.2.trans (hb.mono S0.out.2.2.size)⟩)
  clear hb S0
  go_wp2_with fail
  refine (HPa.out _).mono ?_; rintro e w2 ⟨rfl, hb⟩
  have S2 := Lib.hid (show SS w (w2.alloc (.cells #[.int .u32 0, .int .i64 0] 24)) a n w2.heap.size 0 0 from
    have h2 : Tab w2 ∧ Box w2 w.heap.size (.int .u32 a) (.int .i64 n) ∧ Below w.heap.size w w2 := ⟨S1.out.1.below hb, S1.out.2.1.below hb, S1.out.2.2.trans (hb.mono S1.out.2.2.size)⟩
    ⟨h2.1.below ((Below.refl _ _).alloc (Nat.le_refl _) _), h2.2.1.alloc _, Box.new w2 _ _, h2.2.2.alloc h2.2.2.size _⟩)
  obtain ⟨g, hgz⟩ : ∃ g, w2.heap.size = g := ⟨_, rfl⟩
  rw [hgz] at S2
  have hgz2 := hgz
  clear hb S1
  go_wp2_with fail
  refine (HDo.out _ S2.out.1).mono ?_; rintro e w3 ⟨rfl, hb⟩
  have S3 := Lib.hid (S2.out.below hb)
  clear hb S2 hgz hgz2
  go_wp2_with fail
  refine (HAd.out _).mono ?_; rintro e w4 ⟨rfl, hb⟩
  have S4 := S3.out.below (hb.trans ((Below.refl _ w4).drew.mono hb.size))
  have hS := And.intro S4.2.1.c0 (And.intro S4.2.1.c1 S4)
  have HL := Lib.hid (lives_any w4.drew S4.1)
  clear hb S3 S4
  go_wp2_with fail
  go_region_held (fun w' => w'.cell? ⟨w.heap.size, 0, none⟩ = some (.int .u32 a) ∧ w'.cell? ⟨w.heap.size, 1, none⟩ = some (.int .i64 n) ∧ SS w w' a n g 0 0) (assumption) (first
    | (go_at_call 11; refine HL.out.mono ?_; rintro e w5 ⟨rfl, hb2⟩; have hk := ss_next (by assumption) hb2; have ht := hk.2.2.1; clear hb2)
    | (go_at_call 24; refine (HSh.out _ (by assumption)).mono ?_; rintro e w5 ⟨rfl, hb2⟩; have hk := ss_next (by assumption) hb2; have ht := hk.2.2.1; clear hb2)
    | (go_at_call 27; refine (HRS.out _).mono ?_; rintro e w5 ⟨rfl, hb2⟩; have hk := ss_next (by assumption) hb2; have ht := hk.2.2.1; clear hb2)
    | (go_at_call 26; refine (HDo.out _ (by assumption)).mono ?_; rintro e w5 ⟨rfl, hb2⟩; have hk := ss_next (by assumption) hb2; have ht := hk.2.2.1; clear hb2)
    | (go_at_call 28; refine (HRD.out _).mono ?_; rintro e w5 ⟨rfl, hb2⟩; have hkz := ss_next (by assumption) hb2; clear hb2))
  have S5 := Lib.hid hkz.2.2
  have c0 := hkz.1
  have c1 := hkz.2.1
  clear hkz
  go_wp2_with fail
  refine (HD.out _).mono ?_; rintro e w6 ⟨rfl, hb⟩
  have S6 := Lib.hid (S5.out.below hb)
  have c0 := S6.out.2.1.c0
  have c1 := S6.out.2.1.c1
  have d0 := S6.out.2.2.1.c0
  have d1 := S6.out.2.2.1.c1
  clear hb
  go_wp2_with fail
  refine (HD.out _).mono ?_; rintro e w7 ⟨rfl, hb⟩
  have S7 := Lib.hid (S6.out.below hb)
  clear hb c0 c1 d0 d1
  go_wp2_with fail
  go_ret
  exact ⟨rfl, S7.out.2.2.2⟩

set_option maxHeartbeats 2000000 in
theorem texts_yes (a n x : Int) (w : World) (ht : Tab w) (x0 : 0 ≤ x) (x1 : x < 4294967296) (a0 : 0 ≤ a) (a1 : a < 4294967296) (hk : okP a n = true) :
    Calls Tryd.prog 5 #[.agg #[.int .u32 a, .int .i64 n], .int .u32 x] w fun e w' => e = .returned (.bool true) ∧ Below w.heap.size w w' := by
  have HSh := Lib.hid (fun W (h : Tab W) => show_str a n W a0 a1 h)
  have HRS := Lib.hid (fun W => rshow_str a n W a0 a1)
  have HDo := Lib.hid (fun W (h : Tab W) => dot_str x W x0 x1 h)
  have HRD := Lib.hid (fun W => rdot_str x W x0 x1)
  have HAd := Lib.hid (fun W => addr_back x W x0 x1)
  have HPa := Lib.hid (fun W => show Calls Tryd.prog 23 #[.string ⟨(showP a n).toArray⟩] W fun e w' => e = .returned (.tuple #[.agg #[.int .u32 a, .int .i64 n], .int .i64 0]) ∧ Below W.heap.size W w' from by have := parse_back a n W a0 a1; rw [hk] at this; exact this)
  have HD := Lib.hid (fun w => show Calls Tryd.prog 10 #[.agg #[.int .u32 a, .int .i64 n]] w fun e w' => e = .returned (.bool true) ∧ Below w.heap.size w w' from by have := rcheck_any a n w a0 a1; rwa [hk] at this)
  have hq : ∀ w, (binOp .eql 24 (.agg #[.int .u32 a, .int .i64 n]) (.agg #[.int .u32 a, .int .i64 n])).run Tryd.prog w = .ok (.bool true) w := fun w => by rw [pfx_eql]; simp
  have hg := pfx_eqGuard
  obtain ⟨T, hT⟩ : ∃ T : ByteArray, T = ⟨(showP a n).toArray⟩ := ⟨_, rfl⟩
  obtain ⟨D, hD⟩ : ∃ D : ByteArray, D = ⟨(dotL (putL x 4) 3).toArray⟩ := ⟨_, rfl⟩
  rw [← hT] at HSh HRS HPa
  rw [← hD] at HDo HRD HAd
  clear hT hD hk
  have S0 := Lib.hid (show Tab _ ∧ Box _ w.heap.size (.int .u32 a) (.int .i64 n) ∧ Below w.heap.size w (w.alloc (.cells #[.int .u32 a, .int .i64 n] 24)) from
    have hb := (Below.refl w.heap.size w).alloc (Nat.le_refl _) (.cells #[.int .u32 a, .int .i64 n] 24)
    ⟨ht.below hb, Box.new w _ _, hb⟩)
  clear ht
  go_enter Tryd.func5, Tryd.ntmps5
  go_wp2_with fail
  refine (HSh.out _ S0.out.1).mono ?_; rintro e w1 ⟨rfl, hb⟩
  have S1 := Lib.hid (show Tab w1 ∧ Box w1 w.heap.size (.int .u32 a) (.int .i64 n) ∧ Below w.heap.size w w1 from ⟨S0.out.1.below hb, S0.out.2.1.below hb, S0.out.2.2.trans (hb.mono S0.out.2.2.size)⟩)
  clear hb S0
  go_wp2_with fail
  refine (HPa.out _).mono ?_; rintro e w2 ⟨rfl, hb⟩
  have S2 := Lib.hid (show SS w (w2.alloc (.cells #[.int .u32 a, .int .i64 n] 24)) a n w2.heap.size a n from
    have h2 : Tab w2 ∧ Box w2 w.heap.size (.int .u32 a) (.int .i64 n) ∧ Below w.heap.size w w2 := ⟨S1.out.1.below hb, S1.out.2.1.below hb, S1.out.2.2.trans (hb.mono S1.out.2.2.size)⟩
    ⟨h2.1.below ((Below.refl _ _).alloc (Nat.le_refl _) _), h2.2.1.alloc _, Box.new w2 _ _, h2.2.2.alloc h2.2.2.size _⟩)
  obtain ⟨g, hgz⟩ : ∃ g, w2.heap.size = g := ⟨_, rfl⟩
  rw [hgz] at S2
  have hgz2 := hgz
  clear hb S1
  go_wp2_with fail
  refine (HDo.out _ S2.out.1).mono ?_; rintro e w3 ⟨rfl, hb⟩
  have S3 := Lib.hid (S2.out.below hb)
  clear hb S2 hgz hgz2
  go_wp2_with fail
  refine (HAd.out _).mono ?_; rintro e w4 ⟨rfl, hb⟩
  have S4 := S3.out.below (hb.trans ((Below.refl _ w4).drew.mono hb.size))
  have hS := And.intro S4.2.1.c0 (And.intro S4.2.1.c1 S4)
  have HL := Lib.hid (lives_any w4.drew S4.1)
  clear hb S3 S4
  go_wp2_with fail
  go_region_held (fun w' => w'.cell? ⟨w.heap.size, 0, none⟩ = some (.int .u32 a) ∧ w'.cell? ⟨w.heap.size, 1, none⟩ = some (.int .i64 n) ∧ SS w w' a n g a n) (assumption) (first
    | (go_at_call 11; refine HL.out.mono ?_; rintro e w5 ⟨rfl, hb2⟩; have hk := ss_next (by assumption) hb2; have ht := hk.2.2.1; clear hb2)
    | (go_at_call 24; refine (HSh.out _ (by assumption)).mono ?_; rintro e w5 ⟨rfl, hb2⟩; have hk := ss_next (by assumption) hb2; have ht := hk.2.2.1; clear hb2)
    | (go_at_call 27; refine (HRS.out _).mono ?_; rintro e w5 ⟨rfl, hb2⟩; have hk := ss_next (by assumption) hb2; have ht := hk.2.2.1; clear hb2)
    | (go_at_call 26; refine (HDo.out _ (by assumption)).mono ?_; rintro e w5 ⟨rfl, hb2⟩; have hk := ss_next (by assumption) hb2; have ht := hk.2.2.1; clear hb2)
    | (go_at_call 28; refine (HRD.out _).mono ?_; rintro e w5 ⟨rfl, hb2⟩; have hkz := ss_next (by assumption) hb2; clear hb2))
  have S5 := Lib.hid hkz.2.2
  have c0 := hkz.1
  have c1 := hkz.2.1
  clear hkz
  go_wp2_with fail
  refine (HD.out _).mono ?_; rintro e w6 ⟨rfl, hb⟩
  have S6 := Lib.hid (S5.out.below hb)
  have c0 := S6.out.2.1.c0
  have c1 := S6.out.2.1.c1
  have d0 := S6.out.2.2.1.c0
  have d1 := S6.out.2.2.1.c1
  clear hb
  go_wp2_with fail
  go_ret
  exact ⟨rfl, S6.out.2.2.2⟩

theorem texts_law (a n : Int) (a0 : 0 ≤ a) (a1 : a < 4294967296) (x : Int) (x0 : 0 ≤ x) (x1 : x < 4294967296) (w : World) (ht : Tab w) :
    Calls Tryd.prog 5 #[.agg #[.int .u32 a, .int .i64 n], .int .u32 x] w fun e w' => e = .returned (.bool true) ∧ Below w.heap.size w w' := by
  rcases hk : okP a n with _ | _
  · exact texts_no a n x w ht x0 x1 a0 a1 hk
  · exact texts_yes a n x w ht x0 x1 a0 a1 hk
end Go.Proofs.YtoflpkpgbbnngaaDoor
