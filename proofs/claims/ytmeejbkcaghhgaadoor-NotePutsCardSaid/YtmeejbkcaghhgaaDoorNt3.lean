/- note: Put, Get; the document's own Body, Get. -/
import Derived.Test.YtmeejbkcaghhgaaDoorNt2
namespace Go.Proofs.YtmeejbkcaghhgaaDoor
open Go.RowKit

def noteV (k s : Int) (q : Option Addr) (n c : Nat) : Value := .agg #[.int .i64 k, .int .i64 s, .slice q n c]
def PutNPost (k s : Int) (xs : List Int) (w w' : World) (e : Ending) : Prop :=
  ∃ p cap, e = .returned (.tuple #[.agg #[.int .i64 3, .slice p (xs.length + 2) cap], .int .i64 0]) ∧ Own w' w.heap.size p cap (k :: s :: xs) ∧ Below w.heap.size w w'

set_option maxHeartbeats 1000000 in
theorem putN_ok (k s : Int) (q : Option Addr) (xs : List Int) (n c : Nat) (w : World) (hb : BytesAt w q xs) (hn : xs.length = n) (hk : okN k s n = true) :
    Calls Tryd.prog 7 #[.agg #[.int .i64 k, .int .i64 s, .slice q n c]] w fun e w' => PutNPost k s xs w w' e := by
  obtain ⟨k1, k6, s0, s255, n4⟩ := okN_yes hk
  have h0 := two_below w (.cells #[.int .i64 k, .int .i64 s, .slice q n c] 24) (.cells #[.int .i64 0, .slice none 0 0] 27)
  obtain ⟨W, hW⟩ : ∃ W, (w.alloc (.cells #[.int .i64 k, .int .i64 s, .slice q n c] 24)).alloc (.cells #[.int .i64 0, .slice none 0 0] 27) = W := ⟨_, rfl⟩
  have K0 := (Blk.new w 24 [.int .i64 k, .int .i64 s, .slice q n c]).alloc (.cells #[.int .i64 0, .slice none 0 0] 27)
  have M0 := Blk.new (w.alloc (.cells #[.int .i64 k, .int .i64 s, .slice q n c] 24)) 27 [.int .i64 0, .slice none 0 0]
  rw [sz_alloc] at M0
  rw [show ([.int .i64 k, .int .i64 s, .slice q n c] : List Value).toArray = #[.int .i64 k, .int .i64 s, .slice q n c] from rfl] at K0 M0
  rw [show ([.int .i64 0, .slice none 0 0] : List Value).toArray = #[.int .i64 0, .slice none 0 0] from rfl] at M0
  rw [hW] at h0 K0 M0
  have HK0 := Lib.hid K0
  have HM0 := Lib.hid M0
  have HB := Lib.hid h0
  have HC := Lib.hid (checkN_any k s q n c W)
  rw [errN_yes hk] at HC
  have HQ := Lib.hid (hb.below h0)
  have HN := Lib.hid hn
  have HW := Lib.hid hW
  clear h0 hb hn hk K0 M0 hW
  go_enter Tryd.func7, Tryd.ntmps7
  go_wp2_with fail
  rw [HW.out]
  refine HC.out.mono ?_; rintro e w1 ⟨rfl, hb1⟩
  have HB1 := Lib.hid (HB.out.trans (hb1.mono HB.out.size))
  have K1 := Lib.hid (HK0.out.next hb1)
  have M1 := Lib.hid (HM0.out.next hb1)
  have HQ1 := Lib.hid ((HQ.out.below hb1).alloc (.cells #[.int .u8 k, .int .u8 s] 5))
  have c0 := K1.out.cell 0 (by simp)
  have c1 := K1.out.cell 1 (by simp)
  have c2 : (w1.alloc (.cells #[.int .u8 k, .int .u8 s] 5)).cell? ⟨w.heap.size, 2, none⟩ = some (.slice q n c) := (K1.out.alloc _).cell 2 (by simp)
  have wk : IntKind.u8.wrap k = k := by rw [show IntKind.u8.wrap k = k % 256 from by first | rfl | exact IntKind.wrap_u8 _ | exact IntKind.wrap_u8' _]; omega
  have ws : IntKind.u8.wrap s = s := by rw [show IntKind.u8.wrap s = s % 256 from by first | rfl | exact IntKind.wrap_u8 _ | exact IntKind.wrap_u8' _]; omega
  have HO := Lib.hid (Own.lit w1 w1.heap.size [k, s] (inByte_all (fun x hx => by simp at hx; omega)) (by simp) (Nat.le_refl _))
  clear hb1 HK0 HQ HB HM0
  go_wp2_with (refine wpList_appo (o := ⟨some 21, _, _, _, _, _⟩) (by rfl) (.tmp 18) (.tmp 20) (by rfl) w1.heap.size (some ⟨w1.heap.size, 0, none⟩) 2 [k, s] HO.out 2 (by rfl) (by rfl) q n c xs HQ1.out HN.out (by rfl) (2 + n) (by rfl) (by omega) (by simp) ?_; intro p3 cap3 w3 hO3 hB3 hG3; have HB3 := Lib.hid (((Below.refl w1.heap.size w1).alloc (Nat.le_refl _) (.cells #[.int .u8 k, .int .u8 s] 5)).trans hB3.out); have M3 := Lib.hid (M1.out.below HB3.out M1.out.lt); have f0 := M3.out.f 0; have f1 := M3.out.f 1; have d0 := M3.out.cell 0 (by simp); have d1 := M3.out.cell 1 (by simp))
  have HO3 := Lib.hid hO3.out
  have HLT := Lib.hid (show w.heap.size + 1 < w1.heap.size from M1.out.lt)
  have e0 : (2 + n : Nat) = xs.length + 2 := by have := HN.out; omega
  clear c0 c1 c2 hB3 hG3 hO3
  go_wp2_with fail
  refine bodyPost_ret (v := .tuple #[.agg #[.int .i64 3, .slice p3 (2 + n) cap3], .int .i64 0]) (by simp [results, Tryd.results7, go_sem, d0, d1]) rfl ⟨p3, cap3, by rw [e0], ?_, ?_⟩
  · exact ((HO3.out.setBelow (by exact HLT.out) _).setBelow (by exact HLT.out) _).mono (Nat.le_of_lt (by have := HLT.out; omega))
  · exact (((HB1.out.trans (HB3.out.mono HB1.out.size))).setCell (by simp) _).setCell (by simp) _
end Go.Proofs.YtmeejbkcaghhgaaDoor
