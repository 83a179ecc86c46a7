/- The contract of addr's Put: a prefix's bytes. -/
import Derived.Test.YtgmcjejgginpjaaPreN
import Derived.Deep.RegionLaw
namespace Go.Proofs.Ytgmcjejgginpjaa
open Go.RowKit

theorem bytesOf_any (n : Int) (w : World) (h0 : 0 ≤ n) (h1 : n ≤ 1000) :
    Calls Try.prog 42 #[.int .i64 n] w fun e w' => e = .returned (.int .i64 ((n + 7) / 8)) ∧ w = w' := by
  go_enter Try.func42, Try.ntmps42
  go_wp2_with fail
  go_ret
  exact ⟨rfl, rfl⟩

/-- A prefix's bytes: its length, and as many of its address's as hold that many bits. -/
def pfxL (a n : Int) : List Int := n :: (putL a 4).take ((n.toNat + 7) / 8)

theorem putp_no (a n : Int) (w : World) (hk : okP a n = false) :
    Calls Try.prog 24 #[.agg #[.int .u32 a, .int .i64 n]] w fun e w' => e = .returned (.tuple #[.slice none 0 0, .int .i64 20]) ∧ Below w.heap.size w w' := by
  have HC := Lib.hid (check_false a n (w.alloc (.cells #[.int .u32 a, .int .i64 n] 39)) hk)
  have HB := Lib.hid ((Below.refl w.heap.size w).alloc (Nat.le_refl _) (.cells #[.int .u32 a, .int .i64 n] 39))
  clear hk
  go_enter Try.func24, Try.ntmps24
  go_wp2_with fail
  refine HC.out.mono ?_; rintro e w1 ⟨rfl, hb1⟩
  have HB1 := Lib.hid (HB.out.trans (hb1.mono HB.out.size))
  clear hb1
  go_wp2_with fail
  go_ret2
  exact ⟨rfl, HB1.out⟩

/-- The bytes of a slice that is new: its block holds just them. -/
def NewBytes (w w' : World) (xs : List Int) (e : Ending) : Prop := ∃ g, e = .returned (.tuple #[.slice (some ⟨g, 0, none⟩) xs.length xs.length, .int .i64 0]) ∧ BRow w' g xs ∧ InByte xs ∧ w.heap.size ≤ g ∧ Below w.heap.size w w'

theorem size_alloc1 (w : World) (o : Obj) : (w.alloc o).heap.size = w.heap.size + 1 := by simp

theorem splice_one (N : Int) (k : Nat) (cs : List Value) (hc : cs.length = k) :
    splice ((madeCells #[Value.int .u8 0] (1 + k)).setIfInBounds 0 (Value.int .u8 N)).toList 1 cs = .int .u8 N :: cs := by
  have hl : ((madeCells #[Value.int .u8 0] (1 + k)).setIfInBounds 0 (Value.int .u8 N)).toList.length = 1 + k := by simp [size_madeCells]
  have h0 : ((madeCells #[Value.int .u8 0] (1 + k)).setIfInBounds 0 (Value.int .u8 N)).toList[0]? = some (.int .u8 N) := by
    rw [Array.getElem?_toList, Array.getElem?_setIfInBounds, if_pos rfl, if_pos (by rw [size_madeCells]; omega)]
  generalize ((madeCells #[Value.int .u8 0] (1 + k)).setIfInBounds 0 (Value.int .u8 N)).toList = L at hl h0
  rcases L with _ | ⟨v, r⟩
  · simp at h0
  · simp at h0
    subst h0
    unfold splice
    rw [hc, List.drop_eq_nil_of_le (by omega)]
    simp

theorem take_bytes {l : List Int} {k : Nat} (h : InByte l) (N : Int) (h0 : 0 ≤ N) (h1 : N ≤ 255) : InByte (N :: l.take k) := by
  intro i hi
  rcases i with _ | i
  · exact ⟨h0, h1⟩
  · simp only [List.length_cons, List.length_take] at hi
    have e : (N :: l.take k).getD (i + 1) 0 = l.getD i 0 := by
      simp [List.getD, List.getElem?_take_of_lt (show i < k by omega)]
    rw [e]; exact h i (by omega)

theorem putp_ok (a n : Int) (w : World) (h0 : 0 ≤ a) (h1 : a < 4294967296) (hk : okP a n = true) :
    Calls Try.prog 24 #[.agg #[.int .u32 a, .int .i64 n]] w fun e w' => NewBytes w w' (pfxL a n) e := by
  have ⟨n0, n1⟩ := okP_len hk
  obtain ⟨N, rfl⟩ := Int.eq_ofNat_of_zero_le n0
  have HC := Lib.hid (check_true a N (w.alloc (.cells #[.int .u32 a, .int .i64 N] 39)) hk)
  have HB := Lib.hid ((Below.refl w.heap.size w).alloc (Nat.le_refl _) (.cells #[.int .u32 a, .int .i64 N] 39))
  have HX := Lib.hid (Box.new w (.int .u32 a) (.int .i64 N))
  have hby := putL_byte a 4
  have hpl := putL_len a 4
  have hAP := fun W => apart_any a W h0 h1
  unfold pfxL
  obtain ⟨l, hl⟩ : ∃ l, putL a 4 = l := ⟨_, rfl⟩
  rw [hl] at hby hpl hAP ⊢
  obtain ⟨x0, x1, x2, x3, rfl⟩ := list_four hpl
  have HAP := Lib.hid (show ∀ W, Calls Try.prog 41 #[.int .u32 a] W fun e w' => e = .returned (.agg #[.int .u8 x0, .int .u8 x1, .int .u8 x2, .int .u8 x3]) ∧ Below W.heap.size W w' from hAP)
  have HBY := Lib.hid hby
  obtain ⟨k, hkk⟩ : ∃ k, (N + 7) / 8 = k := ⟨_, rfl⟩
  have hk4 : k ≤ 4 := by omega
  have hki : ((N : Int) + 7) / 8 = (k : Int) := by omega
  have hmk := run_make_row' (P := Try.prog) 24 5 (.int .u8 0) 1 Try.underlying24 info5 rfl .i64 .i64 (1 + k) (by omega) (by omega)
  have ec : ((1 + k : Nat) : Int) = 1 + (k : Int) := by omega
  rw [ec] at hmk
  have HKI := Lib.hid hki
  have HK := Lib.hid hkk
  clear hk hl hpl hAP hby hki hkk ec
  go_enter Try.func24, Try.ntmps24
  go_wp2_with fail
  refine HC.out.mono ?_; rintro e w1 ⟨rfl, hb1⟩
  have HB1 := Lib.hid (HB.out.trans (hb1.mono HB.out.size))
  have HX1 := Lib.hid (HX.out.below hb1)
  have c0 := HX1.out.c0
  clear hb1
  go_wp2_with fail
  refine (HAP.out _).mono ?_; rintro e w2 ⟨rfl, hb2⟩
  have HB2 := Lib.hid (HB1.out.trans (hb2.mono HB1.out.size))
  have HX2 := Lib.hid (HX1.out.below hb2)
  have HB3 := Lib.hid (HB2.out.alloc HB2.out.size (.cells #[.int .u8 x0, .int .u8 x1, .int .u8 x2, .int .u8 x3] 74))
  have HX3 := HX2.out.alloc (.cells #[.int .u8 x0, .int .u8 x1, .int .u8 x2, .int .u8 x3] 74)
  have HR3 := Lib.hid (row_four w2 (.int .u8 x0) (.int .u8 x1) (.int .u8 x2) (.int .u8 x3) 74)
  have hz : w.heap.size < w2.heap.size := World.rowIs.lt HX2.out
  have d1 := HX2.out.c1
  clear hb2 c0
  go_wp2_with fail
  refine (bytesOf_any N _ n0 (by omega)).mono ?_; rintro e w3 ⟨rfl, rfl⟩
  rw [HKI.out]
  have hm0 : (madeCells #[Value.int IntKind.u8 0] (1 + k))[0]? = some (.int .u8 0) := by
    have h : 0 < 1 + k := by omega
    simp [madeCells, h, Nat.mod_one]
  obtain ⟨arr, hA⟩ : ∃ arr, (madeCells #[Value.int IntKind.u8 0] (1 + k)).setIfInBounds 0 (Value.int .u8 N) = arr := ⟨_, rfl⟩
  have HA := Lib.hid hA
  clear hA
  go_wp2_with fail
  rw [HA.out]
  obtain ⟨W, hW⟩ : ∃ W, (w2.alloc (.cells #[.int .u8 x0, .int .u8 x1, .int .u8 x2, .int .u8 x3] 74)).alloc (.cells arr 5) = W := ⟨_, rfl⟩
  have HG := Lib.hid (show W.drew.heap[w2.heap.size + 1]? = some (.cells arr.toList.toArray 5 (0, 0)) by
    rw [← hW, Array.toArray_toList, ← size_alloc1 w2 (.cells #[.int .u8 x0, .int .u8 x1, .int .u8 x2, .int .u8 x3] 74)]
    exact Go.Deep.blk_alloc_new _ _)
  have HR := Lib.hid (show W.drew.rowIs w2.heap.size 74 4 (fun j => #[Value.int .u8 x0, .int .u8 x1, .int .u8 x2, .int .u8 x3].getD j undef) by rw [← hW]; exact HR3.out.alloc _)
  have HB4 := Lib.hid (show Below w.heap.size w W.drew by rw [← hW]; exact (HB3.out.alloc HB3.out.size _).drew)
  rw [hW]
  clear hW HR3 HB3
  obtain ⟨cs, hcs⟩ : ∃ cs, ([x0, x1, x2, x3].take k).map (Value.int .u8) = cs := ⟨_, rfl⟩
  have hcl : cs.length = k := by rw [← hcs]; simp; omega
  have HCL := Lib.hid hcl
  have HSRC := Lib.hid (show ∀ j v, cs[j]? = some v → W.drew.cell? ((⟨w2.heap.size, 0, none⟩ : Addr).add j) = some v by
    intro j v hj
    have hjk : j < k := by
      rcases Nat.lt_or_ge j k with h | h
      · exact h
      · rw [List.getElem?_eq_none (by omega)] at hj; cases hj
    rw [show (⟨w2.heap.size, 0, none⟩ : Addr).add j = ⟨w2.heap.size, j, none⟩ from by unfold Addr.add; split <;> simp_all, HR.out.cell (i := j) (by omega), ← hj, ← hcs]
    have h4 : j = 0 ∨ j = 1 ∨ j = 2 ∨ j = 3 := by omega
    rcases h4 with rfl | rfl | rfl | rfl <;> simp [hjk])
  have H1 := Lib.hid (show ∀ v ∈ cs, v.oneCell' = true by
    intro v hv
    rw [← hcs] at hv
    obtain ⟨x, _, rfl⟩ := List.mem_map.1 hv
    rfl)
  have HFIT := Lib.hid (show 1 + cs.length ≤ arr.toList.length by rw [hcl, ← HA.out]; simp [size_madeCells])
  have HCS := Lib.hid hcs
  clear hcs hcl
  have HL := Lib.hid (show (([x0, x1, x2, x3] : List Int).take ((N + 7) / 8)).length = k by rw [HK.out]; simp; omega)
  have HEND := Lib.hid (show ∀ w4 : World, w4.heap[w2.heap.size + 1]? = some (.cells (splice arr.toList 1 cs).toArray 5 (0, 0)) → BRow w4 (w2.heap.size + 1) ((N : Int) :: ([x0, x1, x2, x3] : List Int).take ((N + 7) / 8)) by
    intro w4 hg
    rw [← HA.out, splice_one N k cs HCL.out, ← HCS.out] at hg
    have := rowIs_of_list (f := fun j => .int .u8 (((N : Int) :: ([x0, x1, x2, x3] : List Int).take k).getD j 0)) hg (fun i hi => by
      have := bytes_list ((N : Int) :: ([x0, x1, x2, x3] : List Int).take k) i (by simpa using hi)
      simpa using this)
    unfold BRow
    rw [HK.out]
    simpa using this)
  by_cases hk0 : k = 0
  · subst hk0
    go_region_law (refine step_copy_splice rfl (.tmp 26) (.tmp 27) 24 24 rfl 5 Try.underlying24 size5 (some ⟨w2.heap.size + 1, 0, none⟩) (some ⟨w2.heap.size, 0, none⟩) 0 0 4 4 (by simp [Act.eval, Act.put]) (by simp [Act.eval, Act.put]) (w2.heap.size + 1) 1 arr.toList 5 HG.out cs (by rw [HCL.out]; rfl) (fun h => absurd h (by rw [HCL.out]; omega)) HFIT.out H1.out (w2.heap.size + 1) W.drew (Below.refl _ _) (Nat.le_refl _) ?_; intro w4 hg4 hb4)
    go_wp2_with fail
    go_ret2
    exact ⟨w2.heap.size + 1, by rw [List.length_cons, Int.toNat_natCast, HL.out]; rfl, HEND.out _ hg4.out, take_bytes HBY.out N n0 (by omega), by omega, HB4.out.trans (hb4.mono (by omega))⟩
  · have h1k : (1 : Int) ≤ 1 + (k : Int) := by omega
    go_region_law (refine step_copy_splice rfl (.tmp 26) (.tmp 27) 24 24 rfl 5 Try.underlying24 size5 (some ⟨w2.heap.size + 1, 1, none⟩) (some ⟨w2.heap.size, 0, none⟩) k k 4 4 (by simp [Act.eval, Act.put]) (by simp [Act.eval, Act.put]) (w2.heap.size + 1) 1 arr.toList 5 HG.out cs (by rw [HCL.out]; exact (Nat.min_eq_right hk4).symm) (fun _ => ⟨rfl, _, rfl, HSRC.out⟩) HFIT.out H1.out (w2.heap.size + 1) W.drew (Below.refl _ _) (Nat.le_refl _) ?_; intro w4 hg4 hb4)
    go_wp2_with fail
    go_ret2
    exact ⟨w2.heap.size + 1, by rw [List.length_cons, Int.toNat_natCast, HL.out, Nat.add_comm k 1]; rfl, HEND.out _ hg4.out, take_bytes HBY.out N n0 (by omega), by omega, HB4.out.trans (hb4.mono (by omega))⟩
end Go.Proofs.Ytgmcjejgginpjaa
