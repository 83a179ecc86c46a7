/- The contract of addr's Get: the prefix that bytes begin with. -/
import Derived.Test.YtgmcjejgginpjaaPutP
namespace Go.Proofs.Ytgmcjejgginpjaa
open Go.RowKit

/-- The prefix that bytes begin with, and how many of them it has, if any: its address is taken as it stands there. -/
def gotP : List Int → Option (Int × Int × Nat)
  | [] => none
  | n :: r => if 32 < n then none else if r.length < (n.toNat + 7) / 8 then none else some (getV (r.take ((n.toNat + 7) / 8) ++ List.replicate (4 - (n.toNat + 7) / 8) 0), n, (n.toNat + 7) / 8 + 1)

def GotOut (o : Option (Int × Int × Nat)) (e : Ending) : Prop := match o with
  | none => e = .returned (.tuple #[.agg #[.int .u32 0, .int .i64 0], .int .i64 0, .int .i64 20])
  | some (v, n, c) => e = .returned (.tuple #[.agg #[.int .u32 (mk v n), .int .i64 (cl n)], .int .i64 c, .int .i64 0])

theorem inByte_pad {xs : List Int} (h : InByte xs) (k m : Nat) : InByte (xs.take k ++ List.replicate m 0) := by
  intro i hi
  rcases Nat.lt_or_ge i (xs.take k).length with hl | hl
  · have e : (xs.take k ++ List.replicate m 0).getD i 0 = xs.getD i 0 := by
      simp only [List.length_take] at hl
      simp [List.getD, List.getElem?_append_left (show i < (xs.take k).length by simp; omega), List.getElem?_take_of_lt (show i < k by omega)]
    rw [e]; exact h i (by simp only [List.length_take] at hl; omega)
  · have e : (xs.take k ++ List.replicate m 0).getD i 0 = 0 := by
      simp only [List.length_append, List.length_replicate] at hi
      simp [List.getD, List.getElem?_append_right hl, List.getElem?_replicate]
      split <;> rfl
    rw [e]; omega

theorem splice_four (r : List Int) (k : Nat) (hk : k ≤ r.length) (h4 : k ≤ 4) :
    splice [Value.int .u8 0, Value.int .u8 0, Value.int .u8 0, Value.int .u8 0] 0 ((r.take k).map (Value.int .u8)) = (r.take k ++ List.replicate (4 - k) 0).map (Value.int .u8) := by
  unfold splice
  have hl : ((r.take k).map (Value.int .u8)).length = k := by simp; omega
  rw [hl, List.map_append]
  have : k = 0 ∨ k = 1 ∨ k = 2 ∨ k = 3 ∨ k = 4 := by omega
  rcases this with rfl | rfl | rfl | rfl | rfl <;> simp

theorem getp_any (p : Option Addr) (xs : List Int) (cap : Nat) (w : World) (hb : BytesAt w p xs) (hl : xs.length ≤ cap) (hcap : cap ≤ 9223372036854775807) :
    Calls Try.prog 46 #[.slice p xs.length cap] w fun e w' => GotOut (gotP xs) e ∧ Below w.heap.size w w' := by
  obtain ⟨hx, hb⟩ := hb
  have HB0 := Lib.hid ((Below.refl w.heap.size w).alloc (Nat.le_refl _) (.cells #[.int .u32 0, .int .i64 0] 39))
  have HX0 := Lib.hid (Box.new w (.int .u32 0) (.int .i64 0))
  rcases xs with _ | ⟨n, r⟩
  · clear hb hx hl
    go_enter Try.func46, Try.ntmps46
    go_wp2_with fail
    exact bodyPost_ret (v := .tuple #[.agg #[.int .u32 0, .int .i64 0], .int .i64 0, .int .i64 20]) (by simp [results, Try.results46, go_sem]) rfl ⟨rfl, HB0.out⟩
  · obtain ⟨b, off, rfl, hc⟩ := hb.resolve_left (by simp)
    have hn0 : 0 ≤ n ∧ n ≤ 255 := hx 0 (by simp)
    obtain ⟨n0, n255⟩ := hn0
    have hx' : InByte r := fun i hi => hx (i + 1) (by simpa using hi)
    have c0 : w.cell? ⟨b, off, none⟩ = some (.int .u8 n) := hc 0 (by simp)
    have hcr : ∀ i, i < r.length → w.cell? ⟨b, off + 1 + i, none⟩ = some (.int .u8 (r.getD i 0)) := fun i hi => by
      have := hc (i + 1) (by simpa using hi)
      rw [show off + 1 + i = off + (i + 1) by omega]; simpa using this
    have d0 := keep HB0.out c0
    have e0 := HX0.out.c0
    have e1 := HX0.out.c1
    have f0 := HX0.out.f 0
    have f1 := HX0.out.f 1
    clear hx hc hb
    rw [List.length_cons] at hl ⊢
    obtain ⟨N, rfl⟩ := Int.eq_ofNat_of_zero_le n0
    by_cases hn : 32 < N
    · have HP := Lib.hid (show gotP ((N : Int) :: r) = none by simp only [gotP]; rw [if_pos (by omega)])
      clear hcr hx'
      generalize r.length = L at *
      have t1 : ((L : Int) + 1 == 0) = false := by simp; omega
      have t2 : decide ((32 : Int) < (N : Int)) = true := by simp; omega
      go_enter Try.func46, Try.ntmps46
      go_wp2_with fail
      exact bodyPost_ret (v := .tuple #[.agg #[.int .u32 0, .int .i64 0], .int .i64 0, .int .i64 20]) (by simp [results, Try.results46, go_sem, e0, e1]) rfl ⟨by rw [HP.out]; rfl, HB0.out⟩
    · obtain ⟨k, hkk⟩ : ∃ k, (N + 7) / 8 = k := ⟨_, rfl⟩
      have hk4 : k ≤ 4 := by omega
      have hki : ((N : Int) + 7) / 8 = (k : Int) := by omega
      by_cases hs : r.length < k
      · have HP := Lib.hid (show gotP ((N : Int) :: r) = none by simp only [gotP]; rw [if_neg (by omega), if_pos (by simpa [hkk] using hs)])
        have HKI := Lib.hid hki
        clear hcr hx' hki hkk
        generalize r.length = L at *
        have t1 : ((L : Int) + 1 == 0) = false := by simp; omega
        have t2 : decide ((32 : Int) < (N : Int)) = false := by simp; omega
        go_enter Try.func46, Try.ntmps46
        go_wp2_with fail
        refine (bytesOf_any N _ n0 (by omega)).mono ?_; rintro e w3 ⟨rfl, rfl⟩
        rw [HKI.out]
        go_wp2_with fail
        exact bodyPost_ret (v := .tuple #[.agg #[.int .u32 0, .int .i64 0], .int .i64 0, .int .i64 20]) (by simp [results, Try.results46, go_sem, e0, e1]) rfl ⟨by rw [HP.out]; rfl, HB0.out⟩
      · have hs' : k ≤ r.length := by omega
        have HP := Lib.hid (show gotP ((N : Int) :: r) = some (getV (r.take k ++ List.replicate (4 - k) 0), (N : Int), k + 1) by simp only [gotP]; rw [if_neg (by omega), if_neg (by simp [hkk]; omega)]; simp [hkk])
        have HKI := Lib.hid hki
        have HF := Lib.hid (inByte_pad hx' k (4 - k))
        have HFL := Lib.hid (show (r.take k ++ List.replicate (4 - k) 0).length = 4 by simp; omega)
        have HSP := Lib.hid (splice_four r k hs' hk4)
        obtain ⟨W, hW⟩ : ∃ W, (w.alloc (.cells #[.int .u32 0, .int .i64 0] 39)).alloc (.cells #[.int .u8 0, .int .u8 0, .int .u8 0, .int .u8 0] 74) = W := ⟨_, rfl⟩
        have HBW := Lib.hid (show Below w.heap.size w W.drew by rw [← hW]; exact (HB0.out.alloc HB0.out.size _).drew)
        have HXW := Lib.hid (show Box W.drew w.heap.size (.int .u32 0) (.int .i64 0) by rw [← hW]; exact HX0.out.alloc _)
        have HG := Lib.hid (show W.drew.heap[w.heap.size + 1]? = some (.cells [Value.int .u8 0, .int .u8 0, .int .u8 0, .int .u8 0].toArray 74 (0, 0)) by
          rw [← hW, ← size_alloc1 w (.cells #[.int .u32 0, .int .i64 0] 39)]
          exact Go.Deep.blk_alloc_new _ _)
        obtain ⟨cs, hcs⟩ : ∃ cs, (r.take k).map (Value.int .u8) = cs := ⟨_, rfl⟩
        have HCL := Lib.hid (show cs.length = k by rw [← hcs]; simp; omega)
        have HSRC := Lib.hid (show ∀ j v, cs[j]? = some v → W.drew.cell? ((⟨b, off + 1, none⟩ : Addr).add j) = some v by
          intro j v hj
          have hjk : j < k := by
            rcases Nat.lt_or_ge j k with h | h
            · exact h
            · rw [List.getElem?_eq_none (by rw [HCL.out]; omega)] at hj; cases hj
          rw [show (⟨b, off + 1, none⟩ : Addr).add j = ⟨b, off + 1 + j, none⟩ from by unfold Addr.add; split <;> simp_all, keep HBW.out (hcr j (by omega)), ← hj, ← hcs]
          have hjr : j < r.length := by omega
          simp [hjk, List.getD, List.getElem?_eq_getElem hjr])
        have H1 := Lib.hid (show ∀ v ∈ cs, v.oneCell' = true by
          intro v hv
          rw [← hcs] at hv
          obtain ⟨x, _, rfl⟩ := List.mem_map.1 hv
          rfl)
        have HCS := Lib.hid hcs
        have HL := Lib.hid (show r.length = r.length from rfl)
        obtain ⟨four, hfour⟩ : ∃ four, r.take k ++ List.replicate (4 - k) 0 = four := ⟨_, rfl⟩
        rw [hfour] at HP HF HFL HSP
        obtain ⟨x0, x1, x2, x3, rfl⟩ := list_four HFL.out
        have HTG := Lib.hid (show ∀ w, Calls Try.prog 53 #[.agg #[.int .u8 x0, .int .u8 x1, .int .u8 x2, .int .u8 x3]] w fun e w' => e = .returned (.int .u32 (getV [x0, x1, x2, x3])) ∧ Below w.heap.size w w' from fun w => together_any [x0, x1, x2, x3] w rfl HF.out)
        obtain ⟨V, hV⟩ : ∃ V, getV [x0, x1, x2, x3] = V := ⟨_, rfl⟩
        rw [hV] at HP HTG
        have HROW := Lib.hid (show ∀ w4 : World, w4.heap[w.heap.size + 1]? = some (.cells (splice [Value.int .u8 0, .int .u8 0, .int .u8 0, .int .u8 0] 0 cs).toArray 74 (0, 0)) → w4.rowIs (w.heap.size + 1) 74 4 (fun j => #[Value.int .u8 x0, .int .u8 x1, .int .u8 x2, .int .u8 x3].getD j undef) by
          intro w4 hg
          rw [← hcs, HSP.out] at hg
          exact ⟨_, hg, rfl, fun i hi => by
            have h4 : i = 0 ∨ i = 1 ∨ i = 2 ∨ i = 3 := by omega
            rcases h4 with rfl | rfl | rfl | rfl <;> rfl⟩)
        have HW := Lib.hid hW
        clear hcs hW hcr hx' hki hkk hfour HL HFL HF HSP hV
        generalize r.length = L at *
        have t1 : ((L : Int) + 1 == 0) = false := by simp; omega
        have t2 : decide ((32 : Int) < (N : Int)) = false := by simp; omega
        go_enter Try.func46, Try.ntmps46
        go_wp2_with fail
        refine (bytesOf_any N _ n0 (by omega)).mono ?_; rintro e w3 ⟨rfl, rfl⟩
        rw [HKI.out]
        go_wp2_with fail
        rw [HW.out]
        clear e0 e1 f0 f1 d0
        by_cases hc1 : cap = 1
        · obtain rfl : k = 0 := by omega
          subst hc1
          go_region_law (refine step_copy_splice rfl (.tmp 30) (.tmp 33) 24 24 rfl 5 Try.underlying24 size5 (some ⟨w.heap.size + 1, 0, none⟩) (some ⟨b, off, none⟩) 4 4 0 0 (by simp [Act.eval, Act.put]) (by simp [Act.eval, Act.put]) (w.heap.size + 1) 0 [.int .u8 0, .int .u8 0, .int .u8 0, .int .u8 0] 74 HG.out cs (HCL.out.trans (Nat.min_eq_left (by omega)).symm) (fun h => absurd h (by rw [HCL.out]; omega)) (by rw [HCL.out]; simp) H1.out (w.heap.size + 1) W.drew (Below.refl _ _) (Nat.le_refl _) ?_; intro w4 hg4 hb4)
          have hrow := HROW.out _ hg4.out
          obtain ⟨⟨d0, d1, d2, d3⟩, _⟩ := four_cells hrow
          have HB4 := Lib.hid (HBW.out.trans (hb4.mono (by omega)))
          have HX4 := Lib.hid (World.rowIs.of_block HXW.out (hb4.block _ (by omega)))
          clear hrow hg4 hb4
          go_wp2_with fail
          refine (HTG.out _).mono ?_; rintro e w5 ⟨rfl, hb5⟩
          have HB5 := Lib.hid (HB4.out.trans (hb5.mono HB4.out.size))
          have HX5 := Lib.hid (Box.below HX4.out hb5)
          clear d0 d1 d2 d3 hb5
          go_wp2_with fail
          refine (make_any V N _).mono ?_; rintro e w6 ⟨rfl, hb6⟩
          have HB6 := Lib.hid (HB5.out.trans (hb6.mono HB5.out.size))
          have HX6 := HX5.out.below hb6
          have e0 := HX6.c0
          have e1 := HX6.c1
          have f0 := HX6.f 0
          have f1 := HX6.f 1
          clear hb6 HX6
          go_wp2_with fail
          exact bodyPost_ret (v := .tuple #[.agg #[.int .u32 (mk V N), .int .i64 (cl N)], .int .i64 1, .int .i64 0]) (by simp [results, Try.results46, go_sem, e0, e1]) rfl ⟨by rw [HP.out]; rfl, (HB6.out.setCell (Nat.le_refl _) _).setCell (Nat.le_refl _) _⟩
        · have g1 : 0 ≤ 1 + (k : Int) ∧ 1 + (k : Int) ≤ (cap : Int) := by omega
          have g2 : (1 : Int) ≤ max (1 + (k : Int)) 0 := by omega
          have g3 : (1 + (k : Int)).toNat - 1 = k := by omega
          go_region_law (refine step_copy_splice rfl (.tmp 30) (.tmp 33) 24 24 rfl 5 Try.underlying24 size5 (some ⟨w.heap.size + 1, 0, none⟩) (some ⟨b, off + 1, none⟩) 4 4 k (cap - 1) (by simp [Act.eval, Act.put]) (by simp [Act.eval, Act.put]) (w.heap.size + 1) 0 [.int .u8 0, .int .u8 0, .int .u8 0, .int .u8 0] 74 HG.out cs (HCL.out.trans (Nat.min_eq_left (by omega)).symm) (fun _ => ⟨rfl, _, rfl, HSRC.out⟩) (by rw [HCL.out]; simp; omega) H1.out (w.heap.size + 1) W.drew (Below.refl _ _) (Nat.le_refl _) ?_; intro w4 hg4 hb4)
          have hrow := HROW.out _ hg4.out
          obtain ⟨⟨d0, d1, d2, d3⟩, _⟩ := four_cells hrow
          have HB4 := Lib.hid (HBW.out.trans (hb4.mono (by omega)))
          have HX4 := Lib.hid (World.rowIs.of_block HXW.out (hb4.block _ (by omega)))
          clear hrow hg4 hb4
          go_wp2_with fail
          refine (HTG.out _).mono ?_; rintro e w5 ⟨rfl, hb5⟩
          have HB5 := Lib.hid (HB4.out.trans (hb5.mono HB4.out.size))
          have HX5 := Lib.hid (Box.below HX4.out hb5)
          clear d0 d1 d2 d3 hb5
          go_wp2_with fail
          refine (make_any V N _).mono ?_; rintro e w6 ⟨rfl, hb6⟩
          have HB6 := Lib.hid (HB5.out.trans (hb6.mono HB5.out.size))
          have HX6 := HX5.out.below hb6
          have e0 := HX6.c0
          have e1 := HX6.c1
          have f0 := HX6.f 0
          have f1 := HX6.f 1
          clear hb6 HX6
          go_wp2_with fail
          exact bodyPost_ret (v := .tuple #[.agg #[.int .u32 (mk V N), .int .i64 (cl N)], .int .i64 (1 + (k : Int)), .int .i64 0]) (by simp [results, Try.results46, go_sem, e0, e1]) rfl ⟨by rw [HP.out, Int.add_comm 1 (k : Int)]; rfl, (HB6.out.setCell (Nat.le_refl _) _).setCell (Nat.le_refl _) _⟩
end Go.Proofs.Ytgmcjejgginpjaa
