/- The document's own Put of a prefix. -/
import Derived.Test.YtgmcjejgginpjaaApp02
namespace Go.Proofs.Ytgmcjejgginpjaa
open Go.RowKit

/-- Bytes of one's own that a call hands back. -/
def RPut (w w' : World) (xs : List Int) (e : Ending) : Prop := ∃ g cap, e = .returned (.slice (some ⟨g, 0, none⟩) xs.length cap) ∧ OwnB w' w.heap.size (.slice (some ⟨g, 0, none⟩) xs.length cap) xs ∧ Below w.heap.size w w'

theorem own_new (w : World) (B : Nat) (x : Int) (hB : B ≤ w.heap.size) : OwnB (w.alloc (.cells #[.int .u8 x] 5)) B (.slice (some ⟨w.heap.size, 0, none⟩) 1 1) [x] :=
  ⟨rfl, .inr ⟨_, 1, _, rfl, hB, heap_alloc_new w _, Nat.le_refl _, by decide, rfl, rfl⟩⟩

theorem rputp_any (a : Int) (N : Nat) (w : World) (h0 : 0 ≤ a) (h1 : a < 4294967296) (hN : N ≤ 32) :
    Calls Try.prog 33 #[.agg #[.int .u32 a, .int .i64 N]] w fun e w' => RPut w w' (pfxL a N) e := by
  have HX := Lib.hid (Box.new w (.int .u32 a) (.int .i64 N))
  have HB := Lib.hid ((Below.refl w.heap.size w).alloc (Nat.le_refl _) (.cells #[.int .u32 a, .int .i64 N] 39))
  have HP := Lib.hid (rput_fits a 4 (w.alloc (.cells #[.int .u32 a, .int .i64 N] 39)) (by omega) (by omega) (fits4 h0 h1))
  rw [size_alloc1] at HP
  obtain ⟨k, hkk⟩ : ∃ k, (N + 7) / 8 = k := ⟨_, rfl⟩
  have hk4 : k ≤ 4 := by omega
  have hki : ((N : Int) + 7) / 8 = (k : Int) := by omega
  have hkt : Int.tdiv ((N : Int) + 7) 8 = (k : Int) := by rw [Int.tdiv_eq_ediv_of_nonneg (by omega)]; exact hki
  have hw1 : IntKind.u8.wrap (N : Int) = N := by rw [show IntKind.u8.wrap (N : Int) = (N : Int) % 256 from by first | rfl | exact IntKind.wrap_u8 _ | exact IntKind.wrap_u8' _]; omega
  have hpl := putL_len a 4
  unfold pfxL
  rw [show ((N : Int).toNat + 7) / 8 = k from by rw [Int.toNat_natCast]; exact hkk]
  obtain ⟨l, hl⟩ : ∃ l, putL a 4 = l := ⟨_, rfl⟩
  have HPL := Lib.hid hl
  rw [hl] at hpl ⊢
  have HTL := Lib.hid (show (l.take k).length = k by simp; omega)
  have hwA : IntKind.i64.wrap ((N : Int) + 7) = (N : Int) + 7 := by rw [IntKind.wrap_i64]; omega
  have hwB : IntKind.i64.wrap (k : Int) = (k : Int) := by rw [IntKind.wrap_i64]; omega
  have hc4 : (0 : Int) ≤ (k : Int) ∧ (k : Int) ≤ 4 := by omega
  have hc5 : (k : Int) ≤ 4 := by omega
  have hc6 : (0 : Int) ≤ (k : Int) := by omega
  go_enter Try.func33, Try.ntmps33
  go_wp2_with fail
  refine HP.out.mono ?_; rintro e w1 ⟨rfl, hr, hb⟩
  have HX1 := Lib.hid (show Box w1 w.heap.size (.int .u32 a) (.int .i64 N) from World.rowIs.of_block HX.out (hb.block _ (by omega)))
  have HR1 := Lib.hid (show BRow w1 (w.heap.size + 1) l by rw [← HPL.out]; exact hr.list)
  have HB1 := Lib.hid (HB.out.trans (hb.mono (by omega)))
  have hz1 : w.heap.size + 1 < w1.heap.size := World.rowIs.lt HR1.out
  have c1 : w1.drew.cell? ⟨w.heap.size, 1, none⟩ = some (.int .i64 N) := HX1.out.c1
  have hal := (Below.refl w1.drew.heap.size w1.drew).alloc (Nat.le_refl _) (.cells #[.int .u8 N] 5)
  have c2 := keep hal c1
  have OWN := Lib.hid (own_new w1.drew w.heap.size N (by show w.heap.size ≤ w1.heap.size; omega))
  have NEWS := Lib.hid (show ∀ j, j < (l.take k).length → (w1.drew.alloc (.cells #[.int .u8 N] 5)).cell? ((⟨w.heap.size + 1, 0, none⟩ : Addr).add j) = some (.int .u8 ((l.take k).getD j 0)) by
    intro j hj
    rw [HTL.out] at hj
    have hc : w1.drew.cell? ⟨w.heap.size + 1, j, none⟩ = some (.int .u8 (l.getD j 0)) := World.rowIs.cell HR1.out (i := j) (by omega)
    rw [show (⟨w.heap.size + 1, 0, none⟩ : Addr).add j = ⟨w.heap.size + 1, j, none⟩ from by unfold Addr.add; split <;> simp_all, keep hal hc]
    simp [List.getD, List.getElem?_take_of_lt hj])
  have HAL := Lib.hid hal
  clear hb hr hl hal
  go_wp2_with fail
  go_region_held_law (fun w' => w'.cell? ⟨w.heap.size, 1, none⟩ = some (.int .i64 N)) (assumption) (first
    | (refine step_app rfl (.tmp 11) (.tmp 17) rfl w.heap.size (.slice (some ⟨w1.heap.size, 0, none⟩) 1 1) [(N : Int)] (by intro h; cases h) rfl OWN.out ⟨w.heap.size + 1, 0, none⟩ 4 (l.take k) (by simp [Act.eval, HTL.out]) NEWS.out (by rw [HTL.out]; simp; omega) (by simp; omega) ?_; intro g cap w2 HO HG HBg; have kk : w2.cell? ⟨w.heap.size, 1, none⟩ = some (.int .i64 N) := (HG.out.cell_far _ (by simp; omega) (by simp [Value.ownBlock]; omega)).trans c2))
  go_wp2_with fail
  have hln : 1 + k = ((N : Int) :: l.take k).length := by rw [List.length_cons, HTL.out, Nat.add_comm]
  have hown := HO.out
  rw [show [(N : Int)].length + (l.take k).length = ((N : Int) :: l.take k).length from by rw [List.length_cons, List.length_cons, List.length_nil]; omega] at hown
  refine bodyPost_ret (v := .slice (some ⟨g, 0, none⟩) (1 + k) cap) (by simp [results, Try.results33, go_sem]) rfl ⟨g, cap, by rw [hln], hown, ?_⟩
  exact ((HB1.out.drew).trans (HAL.out.mono (by show w.heap.size ≤ w1.heap.size; omega))).grown HG.out (by simp; omega) (fun q hq => by
    have : w1.heap.size = q := by simpa [Value.ownBlock] using hq
    omega)
end Go.Proofs.Ytgmcjejgginpjaa
