/- The contract of addr's Show: a prefix's text. -/
import Derived.Test.YtpmdmkemlbpnjaaDoorDotted
namespace Go.Proofs.YtpmdmkemlbpnjaaDoor
open Go.RowKit

theorem okP_len {a n : Int} (h : okP a n = true) : 0 ≤ n ∧ n ≤ 32 := by
  unfold okP at h
  rw [Bool.and_eq_true, decide_eq_true_eq, decide_eq_true_eq] at h
  have := bitsOf_le n
  have h2 := h.2
  unfold cl at h2
  omega

def showL (a n : Int) : List UInt8 := dotL (putL a 4) 3 ++ (47 :: Lib.itoa n)
def ShowPost (l : List UInt8) (e : Ending) : Prop := ∃ S : ByteArray, e = .returned (.string S) ∧ S.data.toList = l ∧ S.size ≤ 20

theorem show_no (a n : Int) (w : World) (hk : okP a n = false) :
    Calls Tryd.prog 12 #[.agg #[.int .u32 a, .int .i64 n]] w fun e w' => ShowPost [63] e ∧ Below w.heap.size w w' := by
  have HC := Lib.hid (check_false a n (w.alloc (.cells #[.int .u32 a, .int .i64 n] 25)) hk)
  have HB := Lib.hid ((Below.refl w.heap.size w).alloc (Nat.le_refl _) (.cells #[.int .u32 a, .int .i64 n] 25))
  clear hk
  go_enter Tryd.func12, Tryd.ntmps12
  go_wp2_with fail
  refine HC.out.mono ?_; rintro e w1 ⟨rfl, hb1⟩
  have HB1 := Lib.hid (HB.out.trans (hb1.mono HB.out.size))
  clear hb1
  go_wp2_with fail
  go_ret
  exact ⟨⟨_, rfl, rfl, by decide⟩, HB1.out⟩

set_option maxHeartbeats 1000000 in
theorem show_ok (a n : Int) (w : World) (h0 : 0 ≤ a) (h1 : a < 4294967296) (ht : Tab w) (hk : okP a n = true) :
    Calls Tryd.prog 12 #[.agg #[.int .u32 a, .int .i64 n]] w fun e w' => ShowPost (showL a n) e ∧ Below w.heap.size w w' := by
  have ⟨n0, n1⟩ := okP_len hk
  have HC := Lib.hid (check_true a n (w.alloc (.cells #[.int .u32 a, .int .i64 n] 25)) hk)
  have HB := Lib.hid ((Below.refl w.heap.size w).alloc (Nat.le_refl _) (.cells #[.int .u32 a, .int .i64 n] 25))
  have HX := Lib.hid (Box.new w (.int .u32 a) (.int .i64 n))
  have HT := Lib.hid (ht.below HB.out)
  have hI : ∀ W, Tab W → Calls Tryd.prog 28 #[.int .i64 n] W fun e w' => e = .returned (.string ⟨(Lib.itoa n).toArray⟩) ∧ Below W.heap.size W w' := fun W h => itoa_any n W n0 (by omega) h
  have sv := itoa_size n n0 (by omega)
  obtain ⟨V, hV⟩ : ∃ V : ByteArray, V = ⟨(Lib.itoa n).toArray⟩ := ⟨_, rfl⟩
  rw [← hV] at sv hI
  have HVV := Lib.hid hV
  have HI := Lib.hid hI
  clear hk ht hV hI
  go_enter Tryd.func12, Tryd.ntmps12
  go_wp2_with fail
  refine HC.out.mono ?_; rintro e w1 ⟨rfl, hb1⟩
  have HB1 := Lib.hid (HB.out.trans (hb1.mono HB.out.size))
  have HX1 := Lib.hid (HX.out.below hb1)
  have ht1 : Tab w1.drew := (HT.out.below hb1).below ((Below.refl _ _).drew)
  have C0 : w1.drew.cell? ⟨w.heap.size, 0, none⟩ = some (.int .u32 a) := HX1.out.c0
  have C1 : w1.drew.cell? ⟨w.heap.size, 1, none⟩ = some (.int .i64 n) := HX1.out.c1
  have BB : Hid (Below w.heap.size w w1.drew) := HB1.out.drew
  clear hb1
  go_wp2_with fail
  go_region_held (fun w' => w'.cell? ⟨w.heap.size, 0, none⟩ = some (.int .u32 a) ∧ w'.cell? ⟨w.heap.size, 1, none⟩ = some (.int .i64 n)) (refine ⟨?_, ?_⟩ <;> assumption) (first | (go_at_call 13; refine (dotted_any a _ h0 h1 (by assumption)).mono ?_; rintro e w2 ⟨⟨S1, rfl, hS, hz⟩, hb2⟩; have k0 : w2.cell? ⟨w.heap.size, 0, none⟩ = some (.int .u32 a) := keep hb2 (by assumption); have k1 : w2.cell? ⟨w.heap.size, 1, none⟩ = some (.int .i64 n) := keep hb2 (by assumption); have kt : Tab w2 := Tab.below (by assumption) hb2; have HS := Lib.hid hS; have BB := Lib.hid (BB.out.trans (hb2.mono BB.out.size)); clear hS hb2) | (go_at_call 28; refine (HI.out _ (by assumption)).mono ?_; rintro e w2 ⟨rfl, hb2⟩; have k0 : w2.cell? ⟨w.heap.size, 0, none⟩ = some (.int .u32 a) := keep hb2 (by assumption); have k1 : w2.cell? ⟨w.heap.size, 1, none⟩ = some (.int .i64 n) := keep hb2 (by assumption); have kt : Tab w2 := Tab.below (by assumption) hb2; have BB := Lib.hid (BB.out.trans (hb2.mono BB.out.size)); clear hb2))
  all_goals
    go_wp2_with fail
    go_ret
    refine ⟨⟨_, rfl, ?_, ?_⟩, BB.out⟩
    · rw [append_data, append_data, HS.out, HVV.out]
      simp [showL]
    · rw [append_size, append_size]
      have : (ByteArray.mk #[47]).size = 1 := rfl
      omega
end Go.Proofs.YtpmdmkemlbpnjaaDoor
