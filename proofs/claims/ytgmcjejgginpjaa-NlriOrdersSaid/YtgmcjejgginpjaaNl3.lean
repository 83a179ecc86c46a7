/- nlri: first; a list of one's own. -/
import Derived.Test.YtgmcjejgginpjaaNl2
import Derived.Laws.AppendOwn
import Derived.Deep.Onto
import Derived.Deep.LoopGhost
namespace Go.Proofs.Ytgmcjejgginpjaa
open Go.RowKit

/-- What bytes begin with: one, and how many bytes it has. -/
def firstL (paths : Bool) (xs : List Int) : Option (Nl × Nat) :=
  if paths then (if xs.length < 4 then none else (gotP (xs.drop 4)).map (fun r => (⟨getV (xs.take 4), mk r.1 r.2.1, cl r.2.1⟩, 4 + r.2.2)))
  else (gotP xs).map (fun r => (⟨0, mk r.1 r.2.1, cl r.2.1⟩, r.2.2))
def FirstTo (r : Option (Nl × Nat)) (e : Ending) : Prop :=
  match r with
  | some (x, s) => e = .returned (.tuple #[.agg #[.int .i64 x.id, .int .u32 x.addr, .int .i64 x.len], .int .i64 s, .bool true])
  | none => ∃ i s : Int, e = .returned (.tuple #[.agg #[.int .i64 i, .int .u32 0, .int .i64 0], .int .i64 s, .bool false])
theorem first_short (p : Option Addr) (n c : Nat) (w : World) (h : n < 4) :
    Calls Try.prog 28 #[.slice p n c, .bool true] w fun e w' => FirstTo none e ∧ Below w.heap.size w w' := by
  have t1 : decide ((n : Int) < 4) = true := by simp; omega
  have hb := newB w (.cells #[.int .i64 0, .int .u32 0, .int .i64 0] 41)
  have K := Blk.new w 41 [.int .i64 0, .int .u32 0, .int .i64 0]
  rw [show ([.int .i64 0, .int .u32 0, .int .i64 0] : List Value).toArray = #[.int .i64 0, .int .u32 0, .int .i64 0] from rfl] at K
  have f0 := K.f 0
  have f1 := K.f 1
  have f2 := K.f 2
  have d0 := K.cell 0 (by simp)
  have d1 := K.cell 1 (by simp)
  have d2 := K.cell 2 (by simp)
  have HB := Lib.hid hb
  clear hb K h
  go_enter Try.func28, Try.ntmps28
  go_wp2_with fail
  refine bodyPost_ret (v := .tuple #[.agg #[.int .i64 0, .int .u32 0, .int .i64 0], .int .i64 0, .bool false]) (by simp [results, Try.results28, go_sem, d0, d1, d2]) rfl ⟨⟨0, 0, rfl⟩, ?_⟩
  exact HB.out
/-- What the prefix says behind so many bytes. -/
theorem getp_n (p : Option Addr) (xs : List Int) (n c : Nat) (w : World) (hb : BytesAt w p xs) (hn : xs.length = n) (hc : n ≤ c) (hm : c ≤ maxLen) :
    Calls Try.prog 46 #[.slice p n c] w fun e w' => GotOut (gotP xs) e ∧ Below w.heap.size w w' := by
  subst hn
  exact getp_any p xs c w hb hc (by unfold maxLen at hm; omega)
theorem get_4 (p : Option Addr) (xs : List Int) (c : Nat) (w : World) (hl : xs.length = 4) (hb : BytesAt w p xs) :
    Calls Try.prog 45 #[.slice p 4 c] w fun e w' => e = .returned (.tuple #[.int .i64 (getV xs), .int .i64 0]) ∧ w = w' := by
  have h := get_some p xs c w (by omega) (by omega) hb
  rw [hl] at h; exact h
theorem gotP_len {xs : List Int} {v n : Int} {s : Nat} (h : gotP xs = some (v, n, s)) : 1 ≤ s ∧ s ≤ xs.length ∧ s ≤ 5 := by
  match xs, h with
  | n0 :: r, h =>
    have h : (if 32 < n0 then none else if r.length < (n0.toNat + 7) / 8 then none else some (getV (r.take ((n0.toNat + 7) / 8) ++ List.replicate (4 - (n0.toNat + 7) / 8) 0), n0, (n0.toNat + 7) / 8 + 1)) = some (v, n, s) := h
    by_cases h1 : 32 < n0
    · rw [if_pos h1] at h; cases h
    · rw [if_neg h1] at h
      by_cases h2 : r.length < (n0.toNat + 7) / 8
      · rw [if_pos h2] at h; cases h
      · rw [if_neg h2] at h
        simp only [Option.some.injEq, Prod.mk.injEq] at h
        obtain ⟨_, _, rfl⟩ := h
        have : (n0 :: r).length = r.length + 1 := rfl
        omega
set_option maxHeartbeats 2000000 in
theorem first_plain (p : Option Addr) (xs : List Int) (n c : Nat) (w : World) (hb : BytesAt w p xs) (hn : xs.length = n) (hc : n ≤ c) (hm : c ≤ maxLen) :
    Calls Try.prog 28 #[.slice p n c, .bool false] w fun e w' => FirstTo (firstL false xs) e ∧ Below w.heap.size w w' := by
  obtain ⟨W, hW⟩ : ∃ W, w.alloc (.cells #[.int .i64 0, .int .u32 0, .int .i64 0] 41) = W := ⟨_, rfl⟩
  have hbW : Below w.heap.size w W := by rw [← hW]; exact newB _ _
  have hK : Blk W w.heap.size 41 [.int .i64 0, .int .u32 0, .int .i64 0] := by rw [← hW]; exact Blk.new w 41 [.int .i64 0, .int .u32 0, .int .i64 0]
  have E1 := fun u => run_cut_l u p n c 0 0 rfl (by omega)
  obtain ⟨q, hq⟩ : ∃ q, cutP p c 0 = q := ⟨_, rfl⟩
  rw [hq, Nat.sub_zero, Nat.sub_zero] at E1
  have hY : BytesAt W q xs := by have := (hb.below hbW).cutl c 0 (by omega) (by omega); rw [hq, List.drop_zero] at this; exact this
  have HG := Lib.hid (getp_n q xs n c W hY hn hc hm)
  have HK := Lib.hid hK
  have HB := Lib.hid hbW
  have HW := Lib.hid hW
  have HR := Lib.hid (show firstL false xs = (gotP xs).map (fun r => (⟨0, mk r.1 r.2.1, cl r.2.1⟩, r.2.2)) from rfl)
  rcases hg : gotP xs with _ | ⟨v, m, s⟩
  · rw [hg] at HG HR
    unfold GotOut at HG
    clear hb hn hc hm hbW hK hY hq hg hW
    go_enter Try.func28, Try.ntmps28
    go_wp2_with fail
    rw [HW.out]
    refine HG.out.mono ?_; rintro e w1 ⟨rfl, hb1⟩
    have HB1 := Lib.hid (HB.out.trans (hb1.mono HB.out.size))
    have hK1 := (HK.out.next hb1).alloc (.cells #[.int .u32 0, .int .i64 0] 39)
    have HK1 := Lib.hid hK1
    have f0 := hK1.f 0
    have f1 := hK1.f 1
    have f2 := hK1.f 2
    have d0 := hK1.cell 0 (by simp)
    have d1 := hK1.cell 1 (by simp)
    have d2 := hK1.cell 2 (by simp)
    clear hb1 HG E1 hK1
    go_wp2_with fail
    refine bodyPost_ret (v := .tuple #[.agg #[.int .i64 0, .int .u32 0, .int .i64 0], .int .i64 0, .bool false]) (by simp [results, Try.results28, go_sem, d0, d1, d2]) rfl ⟨by rw [HR.out]; exact ⟨0, 0, rfl⟩, ?_⟩
    exact (((HB1.out.alloc HB1.out.size _).setCell (Nat.le_refl _) _).setCell (Nat.le_refl _) _).setCell (Nat.le_refl _) _
  · have hs := gotP_len hg
    rw [hg] at HG HR
    unfold GotOut at HG
    simp only at HG
    obtain ⟨a, ha⟩ : ∃ a, mk v m = a := ⟨_, rfl⟩
    obtain ⟨b, hb'⟩ : ∃ b, cl m = b := ⟨_, rfl⟩
    rw [ha, hb'] at HG
    have HA := Lib.hid (And.intro ha hb')
    clear hb hn hm hbW hK hY hq hg hW ha hb'
    go_enter Try.func28, Try.ntmps28
    go_wp2_with fail
    rw [HW.out]
    refine HG.out.mono ?_; rintro e w1 ⟨rfl, hb1⟩
    have HB1 := Lib.hid (HB.out.trans (hb1.mono HB.out.size))
    have hK1 := (HK.out.next hb1).alloc (.cells #[.int .u32 a, .int .i64 b] 39)
    have f0 := hK1.f 0
    have f1 := hK1.f 1
    have f2 := hK1.f 2
    have d0 := hK1.cell 0 (by simp)
    have d1 := hK1.cell 1 (by simp)
    have d2 := hK1.cell 2 (by simp)
    clear hb1 HG E1 hK1
    go_wp2_with fail
    refine bodyPost_ret (v := .tuple #[.agg #[.int .i64 0, .int .u32 a, .int .i64 b], .int .i64 s, .bool true]) (by simp [results, Try.results28, go_sem, d0, d1, d2]) rfl ⟨by rw [HR.out, Option.map_some]; simp only [HA.out.1, HA.out.2]; rfl, ?_⟩
    exact (((HB1.out.alloc HB1.out.size _).setCell (Nat.le_refl _) _).setCell (Nat.le_refl _) _).setCell (Nat.le_refl _) _
set_option maxHeartbeats 2000000 in
theorem first_ids (p : Option Addr) (xs : List Int) (n c : Nat) (w : World) (hb : BytesAt w p xs) (hn : xs.length = n) (hc : n ≤ c) (hm : c ≤ maxLen) (h4 : 4 ≤ n) :
    Calls Try.prog 28 #[.slice p n c, .bool true] w fun e w' => FirstTo (firstL true xs) e ∧ Below w.heap.size w w' := by
  have t0 : decide ((n : Int) < 4) = false := by simp; omega
  obtain ⟨W, hW⟩ : ∃ W, w.alloc (.cells #[.int .i64 0, .int .u32 0, .int .i64 0] 41) = W := ⟨_, rfl⟩
  have hbW : Below w.heap.size w W := by rw [← hW]; exact newB _ _
  have hK : Blk W w.heap.size 41 [.int .i64 0, .int .u32 0, .int .i64 0] := by rw [← hW]; exact Blk.new w 41 [.int .i64 0, .int .u32 0, .int .i64 0]
  have E0 := fun u => run_cut_h u p n c 4 4 rfl (by omega)
  have E1 := fun u => run_cut_l u p n c 4 4 rfl (by omega)
  obtain ⟨q0, hq0⟩ : ∃ q, cutP p c 0 = q := ⟨_, rfl⟩
  obtain ⟨q, hq⟩ : ∃ q, cutP p c 4 = q := ⟨_, rfl⟩
  rw [hq0] at E0
  rw [hq] at E1
  have hY0 : BytesAt W q0 (xs.take 4) := by have := (hb.below hbW).cut c 0 4 (by omega) (by omega) (by omega); rw [hq0, List.drop_zero] at this; exact this
  have hY : BytesAt W q (xs.drop 4) := by have := (hb.below hbW).cutl c 4 (by omega) (by omega); rw [hq] at this; exact this
  have HI := Lib.hid (get_4 q0 (xs.take 4) c W (by rw [List.length_take]; omega) hY0)
  have HG := Lib.hid (getp_n q (xs.drop 4) (n - 4) (c - 4) W hY (by rw [List.length_drop]; omega) (by omega) (by omega))
  have HK := Lib.hid hK
  have HB := Lib.hid hbW
  have HW := Lib.hid hW
  have HR := Lib.hid (show firstL true xs = (gotP (xs.drop 4)).map (fun r => (⟨getV (xs.take 4), mk r.1 r.2.1, cl r.2.1⟩, 4 + r.2.2)) from by unfold firstL; rw [if_pos rfl, if_neg (by omega)])
  obtain ⟨i, hi⟩ : ∃ i, getV (xs.take 4) = i := ⟨_, rfl⟩
  rw [hi] at HI HR
  rcases hg : gotP (xs.drop 4) with _ | ⟨v, m, s⟩
  · rw [hg] at HG HR
    unfold GotOut at HG
    clear hb hn hc hm hbW hK hY hY0 hq hq0 hg hW hi
    go_enter Try.func28, Try.ntmps28
    go_wp2_with fail
    rw [HW.out]
    refine HI.out.mono ?_; rintro e w' ⟨rfl, rfl⟩
    go_wp2_with fail
    refine HG.out.mono ?_; rintro e w1 ⟨rfl, hb1⟩
    have HB1 := Lib.hid (HB.out.trans (hb1.mono HB.out.size))
    have hK1 := (HK.out.next hb1).alloc (.cells #[.int .u32 0, .int .i64 0] 39)
    have f0 := hK1.f 0
    have f1 := hK1.f 1
    have f2 := hK1.f 2
    have d0 := hK1.cell 0 (by simp)
    have d1 := hK1.cell 1 (by simp)
    have d2 := hK1.cell 2 (by simp)
    clear hb1 HG E1 E0 hK1
    go_wp2_with fail
    refine bodyPost_ret (v := .tuple #[.agg #[.int .i64 i, .int .u32 0, .int .i64 0], .int .i64 4, .bool false]) (by simp [results, Try.results28, go_sem, d0, d1, d2]) rfl ⟨by rw [HR.out]; exact ⟨i, 4, rfl⟩, ?_⟩
    exact (((HB1.out.alloc HB1.out.size _).setCell (Nat.le_refl _) _).setCell (Nat.le_refl _) _).setCell (Nat.le_refl _) _
  · have hs := gotP_len hg
    rw [hg] at HG HR
    unfold GotOut at HG
    simp only at HG
    obtain ⟨a, ha⟩ : ∃ a, mk v m = a := ⟨_, rfl⟩
    obtain ⟨b, hb'⟩ : ∃ b, cl m = b := ⟨_, rfl⟩
    rw [ha, hb'] at HG
    have HA := Lib.hid (And.intro ha hb')
    clear hb hn hm hbW hK hY hY0 hq hq0 hg hW ha hb' hi
    go_enter Try.func28, Try.ntmps28
    go_wp2_with fail
    rw [HW.out]
    refine HI.out.mono ?_; rintro e w' ⟨rfl, rfl⟩
    go_wp2_with fail
    refine HG.out.mono ?_; rintro e w1 ⟨rfl, hb1⟩
    have HB1 := Lib.hid (HB.out.trans (hb1.mono HB.out.size))
    have hK1 := (HK.out.next hb1).alloc (.cells #[.int .u32 a, .int .i64 b] 39)
    have f0 := hK1.f 0
    have f1 := hK1.f 1
    have f2 := hK1.f 2
    have d0 := hK1.cell 0 (by simp)
    have d1 := hK1.cell 1 (by simp)
    have d2 := hK1.cell 2 (by simp)
    clear hb1 HG E1 E0 hK1
    go_wp2_with fail
    refine bodyPost_ret (v := .tuple #[.agg #[.int .i64 i, .int .u32 a, .int .i64 b], .int .i64 ((4 + s : Nat) : Int), .bool true]) (by simp [results, Try.results28, go_sem, d0, d1, d2]) rfl ⟨by rw [HR.out, Option.map_some]; simp only [HA.out.1, HA.out.2]; rfl, ?_⟩
    exact (((HB1.out.alloc HB1.out.size _).setCell (Nat.le_refl _) _).setCell (Nat.le_refl _) _).setCell (Nat.le_refl _) _
theorem first_any (p : Option Addr) (xs : List Int) (n c : Nat) (paths : Bool) (w : World) (hb : BytesAt w p xs) (hn : xs.length = n) (hc : n ≤ c) (hm : c ≤ maxLen) :
    Calls Try.prog 28 #[.slice p n c, .bool paths] w fun e w' => FirstTo (firstL paths xs) e ∧ Below w.heap.size w w' := by
  cases paths
  · exact first_plain p xs n c w hb hn hc hm
  · by_cases h : n < 4
    · rw [show firstL true xs = none from by unfold firstL; rw [if_pos rfl, if_pos (by omega)]]
      exact first_short p n c w h
    · exact first_ids p xs n c w hb hn hc hm (by omega)
theorem firstL_len {paths : Bool} {xs : List Int} {x : Nl} {s : Nat} (h : firstL paths xs = some (x, s)) : 1 ≤ s ∧ s ≤ xs.length ∧ s ≤ 9 := by
  unfold firstL at h
  cases paths
  · simp only [Bool.false_eq_true, if_false, Option.map_eq_some_iff, Prod.mk.injEq] at h
    obtain ⟨⟨v, n, t⟩, hg, _, rfl⟩ := h
    have := gotP_len hg
    simp only; omega
  · rw [if_pos rfl] at h
    split at h
    · cases h
    · simp only [Option.map_eq_some_iff, Prod.mk.injEq] at h
      obtain ⟨⟨v, n, t⟩, hg, _, rfl⟩ := h
      have := gotP_len hg
      simp only [List.length_drop] at this ⊢; omega
end Go.Proofs.Ytgmcjejgginpjaa
