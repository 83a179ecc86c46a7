/- 'AddrOrders': how any two prefixes stand. -/
import Derived.Test.YtoflpkpgbbnngaaDoorRefD02
namespace Go.Proofs.YtoflpkpgbbnngaaDoor
open Go.RowKit

theorem cmp_neg (a n b m : Int) : cmpP b m a n = -cmpP a n b m := by
  unfold cmpP
  by_cases h : a = b ∧ n = m
  · rw [if_pos h, if_pos ⟨h.1.symm, h.2.symm⟩]; rfl
  · rw [if_neg h, if_neg (fun k => h ⟨k.1.symm, k.2.symm⟩)]
    by_cases h1 : a < b ∨ a = b ∧ n < m
    · rw [if_pos h1, if_neg (by omega)]; rfl
    · rw [if_neg h1, if_pos (by omega)]
theorem cmp_bd (a n b m : Int) : -1 ≤ cmpP a n b m ∧ cmpP a n b m ≤ 1 := by
  unfold cmpP; split <;> (try split) <;> omega

def TT (w W : World) (a n b m : Int) : Prop := Tab W ∧ Two w W a n b m
theorem tt_next {w W W' : World} {a n b m : Int} (h : W.cell? ⟨w.heap.size, 0, none⟩ = some (.int .u32 a) ∧ W.cell? ⟨w.heap.size, 1, none⟩ = some (.int .i64 n) ∧ W.cell? ⟨w.heap.size + 1, 0, none⟩ = some (.int .u32 b) ∧ W.cell? ⟨w.heap.size + 1, 1, none⟩ = some (.int .i64 m) ∧ TT w W a n b m) (hb : Below W.heap.size W W') :
    W'.cell? ⟨w.heap.size, 0, none⟩ = some (.int .u32 a) ∧ W'.cell? ⟨w.heap.size, 1, none⟩ = some (.int .i64 n) ∧ W'.cell? ⟨w.heap.size + 1, 0, none⟩ = some (.int .u32 b) ∧ W'.cell? ⟨w.heap.size + 1, 1, none⟩ = some (.int .i64 m) ∧ TT w W' a n b m :=
  have h' : TT w W' a n b m := ⟨h.2.2.2.2.1.below hb, h.2.2.2.2.2.below hb⟩
  ⟨h'.2.1.c0, h'.2.1.c1, h'.2.2.1.c0, h'.2.2.1.c1, h'⟩

set_option maxHeartbeats 2000000 in
theorem orders_law (a n : Int) (a0 : 0 ≤ a) (a1 : a < 4294967296) (b m : Int) (b0 : 0 ≤ b) (b1 : b < 4294967296) (w : World) (ht : Tab w) :
    Calls Tryd.prog 4 #[.agg #[.int .u32 a, .int .i64 n], .agg #[.int .u32 b, .int .i64 m]] w fun e w' => e = .returned (.bool true) ∧ Below w.heap.size w w' := by
  obtain ⟨W, hW⟩ : ∃ W, (w.alloc (.cells #[.int .u32 a, .int .i64 n] 24)).alloc (.cells #[.int .u32 b, .int .i64 m] 24) = W := ⟨_, rfl⟩
  have hT : TT w W.drew a n b m := by
    have h2 := two_new w a n b m
    rw [hW] at h2
    exact ⟨ht.below (h2.2.2.trans (Below.refl _ _).drew), h2.below (Below.refl _ _).drew⟩
  have hS := And.intro hT.2.1.c0 (And.intro hT.2.1.c1 (And.intro hT.2.2.1.c0 (And.intro hT.2.2.1.c1 hT)))
  have HL := Lib.hid (lives_any W.drew hT.1)
  have HC1 := Lib.hid (fun w => compare_any a n b m w)
  have HC2 := Lib.hid (fun w => compare_any b m a n w)
  have HR := Lib.hid (fun w => rcompare_any a n b m w)
  have HI := Lib.hid (fun w => within_any a n b m w)
  have HJ := Lib.hid (fun w => rwithin_any a n b m w a0 a1 b0 b1)
  have hng := cmp_neg a n b m
  have ⟨l0, l1⟩ := cmp_bd a n b m
  obtain ⟨c, hc⟩ : ∃ c, cmpP a n b m = c := ⟨_, rfl⟩
  obtain ⟨v, hv⟩ : ∃ v, withinP a n b m = v := ⟨_, rfl⟩
  rw [hc] at hng HC1 HR l0 l1
  rw [hng] at HC2
  rw [hv] at HI HJ
  have hwr : IntKind.i64.wrap (-c) = -c := by rw [IntKind.wrap_i64]; omega
  have HW := Lib.hid hW
  clear hT hng hc hv hW ht
  go_enter Tryd.func4, Tryd.ntmps4
  go_wp2_with fail
  rw [HW.out]
  go_region_held (fun w' => w'.cell? ⟨w.heap.size, 0, none⟩ = some (.int .u32 a) ∧ w'.cell? ⟨w.heap.size, 1, none⟩ = some (.int .i64 n) ∧ w'.cell? ⟨w.heap.size + 1, 0, none⟩ = some (.int .u32 b) ∧ w'.cell? ⟨w.heap.size + 1, 1, none⟩ = some (.int .i64 m) ∧ TT w w' a n b m) (assumption) (first
    | (go_at_call 11; refine HL.out.mono ?_; rintro e w2 ⟨rfl, hb2⟩; have hk := tt_next (by assumption) hb2; clear hb2)
    | (go_at_call 19; with_reducible refine (HC1.out _).mono ?_; rintro e w2 ⟨rfl, hb2⟩; have hk := tt_next (by assumption) hb2; clear hb2)
    | (go_at_call 19; with_reducible refine (HC2.out _).mono ?_; rintro e w2 ⟨rfl, hb2⟩; have hk := tt_next (by assumption) hb2; clear hb2)
    | (go_at_call 20; refine (HR.out _).mono ?_; rintro e w2 ⟨rfl, hb2⟩; have hk := tt_next (by assumption) hb2; clear hb2)
    | (go_at_call 21; refine (HI.out _).mono ?_; rintro e w2 ⟨rfl, hb2⟩; have hk := tt_next (by assumption) hb2; clear hb2)
    | (go_at_call 22; refine (HJ.out _).mono ?_; rintro e w2 ⟨rfl, hb2⟩; have hkz := tt_next (by assumption) hb2; clear hb2))
  go_wp2_with fail
  go_ret
  exact ⟨rfl, hkz.2.2.2.2.2.2.2⟩
end Go.Proofs.YtoflpkpgbbnngaaDoor
