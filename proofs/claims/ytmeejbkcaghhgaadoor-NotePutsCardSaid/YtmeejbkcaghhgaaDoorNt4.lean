/- note: Put of one that may not be, Get. -/
import Derived.Test.YtmeejbkcaghhgaaDoorNt3
namespace Go.Proofs.YtmeejbkcaghhgaaDoor
open Go.RowKit

set_option maxHeartbeats 1000000 in
theorem putN_no (k s : Int) (q : Option Addr) (n c : Nat) (w : World) (hk : okN k s n = false) :
    Calls Tryd.prog 7 #[.agg #[.int .i64 k, .int .i64 s, .slice q n c]] w fun e w' => e = .returned (.tuple #[.agg #[.int .i64 0, .slice none 0 0], .int .i64 80]) ∧ Below w.heap.size w w' := by
  have h0 := two_below w (.cells #[.int .i64 k, .int .i64 s, .slice q n c] 24) (.cells #[.int .i64 0, .slice none 0 0] 27)
  obtain ⟨W, hW⟩ : ∃ W, (w.alloc (.cells #[.int .i64 k, .int .i64 s, .slice q n c] 24)).alloc (.cells #[.int .i64 0, .slice none 0 0] 27) = W := ⟨_, rfl⟩
  have M0 := Blk.new (w.alloc (.cells #[.int .i64 k, .int .i64 s, .slice q n c] 24)) 27 [.int .i64 0, .slice none 0 0]
  rw [sz_alloc] at M0
  rw [show ([.int .i64 0, .slice none 0 0] : List Value).toArray = #[.int .i64 0, .slice none 0 0] from rfl] at M0
  rw [hW] at h0 M0
  have HM0 := Lib.hid M0
  have HB := Lib.hid h0
  have HC := Lib.hid (checkN_any k s q n c W)
  rw [errN_no hk] at HC
  have HW := Lib.hid hW
  clear h0 hk M0 hW
  go_enter Tryd.func7, Tryd.ntmps7
  go_wp2_with fail
  rw [HW.out]
  refine HC.out.mono ?_; rintro e w1 ⟨rfl, hb1⟩
  have HB1 := Lib.hid (HB.out.trans (hb1.mono HB.out.size))
  have M1 := Lib.hid (HM0.out.next hb1)
  have f0 := M1.out.f 0
  have f1 := M1.out.f 1
  have d0 := M1.out.cell 0 (by simp)
  have d1 := M1.out.cell 1 (by simp)
  clear hb1 HM0 HB
  go_wp2_with fail
  refine bodyPost_ret (v := .tuple #[.agg #[.int .i64 0, .slice none 0 0], .int .i64 80]) (by simp [results, Tryd.results7, go_sem, d0, d1]) rfl ⟨rfl, ?_⟩
  exact (HB1.out.setCell (by simp) _).setCell (by simp) _

/-- What a body tells: a note, or nothing. -/
def getN : List Int → Option (Int × Int × List Int)
  | x0 :: x1 :: t => if okN x0 x1 t.length then some (x0, x1, t) else none
  | _ => none
def GetNPost (r : Option (Int × Int × List Int)) (w w' : World) (e : Ending) : Prop :=
  match r with
  | some (k, s, t) => ∃ p cap, e = .returned (.tuple #[.agg #[.int .i64 k, .int .i64 s, .slice p t.length cap], .int .i64 0]) ∧ Own w' w.heap.size p cap t ∧ Below w.heap.size w w'
  | none => e = .returned (.tuple #[.agg #[.int .i64 0, .int .i64 0, .slice none 0 0], .int .i64 80]) ∧ Below w.heap.size w w'
theorem getN_short (q : Option Addr) (n c : Nat) (w : World) (hn : n < 2) :
    Calls Tryd.prog 11 #[.slice q n c] w fun e w' => e = .returned (.tuple #[.agg #[.int .i64 0, .int .i64 0, .slice none 0 0], .int .i64 80]) ∧ Below w.heap.size w w' := by
  have M0 := Blk.new w 24 [.int .i64 0, .int .i64 0, .slice none 0 0]
  have HB := Lib.hid ((Below.refl w.heap.size w).alloc (Nat.le_refl _) (.cells #[.int .i64 0, .int .i64 0, .slice none 0 0] 24))
  have f0 := M0.f 0
  have f1 := M0.f 1
  have f2 := M0.f 2
  have d0 := M0.cell 0 (by simp)
  have d1 := M0.cell 1 (by simp)
  have d2 := M0.cell 2 (by simp)
  rw [show ([.int .i64 0, .int .i64 0, .slice none 0 0] : List Value).toArray = #[.int .i64 0, .int .i64 0, .slice none 0 0] from rfl] at f0 f1 f2 d0 d1 d2
  have t1 : (n : Int) < 2 := by omega
  clear M0
  go_enter Tryd.func11, Tryd.ntmps11
  go_wp2_with fail
  refine bodyPost_ret (v := .tuple #[.agg #[.int .i64 0, .int .i64 0, .slice none 0 0], .int .i64 80]) (by simp [results, Tryd.results11, go_sem, d0, d1, d2]) rfl ⟨rfl, ?_⟩
  exact HB.out
set_option maxHeartbeats 1000000 in
theorem getN_no (x0 x1 : Int) (t : List Int) (b off n c : Nat) (w : World) (hb : BytesAt w (some ⟨b, off, none⟩) (x0 :: x1 :: t)) (hn : t.length + 2 = n) (hc : n ≤ c) (hk : okN x0 x1 t.length = false) :
    Calls Tryd.prog 11 #[.slice (some ⟨b, off, none⟩) n c] w fun e w' => e = .returned (.tuple #[.agg #[.int .i64 0, .int .i64 0, .slice none 0 0], .int .i64 80]) ∧ Below w.heap.size w w' := by
  obtain ⟨W, hW⟩ : ∃ W, w.alloc (.cells #[.int .i64 0, .int .i64 0, .slice none 0 0] 24) = W := ⟨_, rfl⟩
  have hB : Below w.heap.size w W := by rw [← hW]; exact (Below.refl _ _).alloc (Nat.le_refl _) _
  have hs : W.heap.size = w.heap.size + 1 := by rw [← hW]; simp
  have hM : Blk W w.heap.size 24 [.int .i64 0, .int .i64 0, .slice none 0 0] := by rw [← hW]; exact Blk.new w 24 [.int .i64 0, .int .i64 0, .slice none 0 0]
  obtain ⟨hx, hcl⟩ := hb.below hB
  have y0 := hx 0 (by simp)
  have y1 := hx 1 (by simp)
  obtain ⟨b', off', e', hcell⟩ := hcl.resolve_left (by simp)
  obtain ⟨rfl, rfl⟩ : b = b' ∧ off = off' := by simpa using e'
  have hA := (Below.refl W.heap.size W).alloc (Nat.le_refl _) (.cells #[.int .i64 0, .int .i64 0, .slice none 0 0] 24)
  have c0 : (W.alloc (.cells #[.int .i64 0, .int .i64 0, .slice none 0 0] 24)).drew.cell? ⟨b, off, none⟩ = some (.int .u8 x0) := kept hA.drew (hcell 0 (by simp))
  have c1 : (W.alloc (.cells #[.int .i64 0, .int .i64 0, .slice none 0 0] 24)).drew.cell? ⟨b, off + 1, none⟩ = some (.int .u8 x1) := kept hA.drew (hcell 1 (by simp))
  have c0d : W.drew.cell? ⟨b, off, none⟩ = some (.int .u8 x0) := hcell 0 (by simp)
  have c1d : W.drew.cell? ⟨b, off + 1, none⟩ = some (.int .u8 x1) := hcell 1 (by simp)
  have n0 : 0 < n := by omega
  have n1 : 1 < n := by omega
  have N0 := Blk.new W 24 [.int .i64 0, .int .i64 0, .slice none 0 0]
  have g0 : (W.alloc (.cells #[.int .i64 0, .int .i64 0, .slice none 0 0] 24)).drew.frozen? ⟨W.heap.size, 0, none⟩ = false := N0.f 0
  have g1 : (W.alloc (.cells #[.int .i64 0, .int .i64 0, .slice none 0 0] 24)).drew.frozen? ⟨W.heap.size, 1, none⟩ = false := N0.f 1
  have g2 : (W.alloc (.cells #[.int .i64 0, .int .i64 0, .slice none 0 0] 24)).drew.frozen? ⟨W.heap.size, 2, none⟩ = false := N0.f 2
  have r0 : (W.alloc (.cells #[.int .i64 0, .int .i64 0, .slice none 0 0] 24)).drew.cell? ⟨W.heap.size, 0, none⟩ = some (.int .i64 0) := N0.cell 0 (by simp)
  have r1 : (W.alloc (.cells #[.int .i64 0, .int .i64 0, .slice none 0 0] 24)).drew.cell? ⟨W.heap.size, 1, none⟩ = some (.int .i64 0) := N0.cell 1 (by simp)
  have r2 : (W.alloc (.cells #[.int .i64 0, .int .i64 0, .slice none 0 0] 24)).drew.cell? ⟨W.heap.size, 2, none⟩ = some (.slice none 0 0) := N0.cell 2 (by simp)
  have E1 := fun w => run_cut_l w (some ⟨b, off, none⟩) n c 2 2 rfl (by omega)
  obtain ⟨q2, hq2⟩ : ∃ q2, cutP (some ⟨b, off, none⟩) c 2 = q2 := ⟨_, rfl⟩
  rw [hq2] at E1
  have HM := Lib.hid hM
  have HB := Lib.hid hB
  have HW := Lib.hid hW
  have HL := Lib.hid (show errN x0 x1 (n - 2) = 80 from by rw [← hn]; exact errN_no hk)
  simp only [List.getD_cons_zero, List.getD_cons_succ] at y0 y1
  have t1 : decide ((n : Int) < 2) = false := by simp; omega
  have u0 : IntKind.i64.wrap x0 = x0 := by rw [IntKind.wrap_i64]; omega
  have u1 : IntKind.i64.wrap x1 = x1 := by rw [IntKind.wrap_i64]; omega
  clear hM hB hW hk hx hcl hcell hq2 e' hb hA N0
  go_enter Tryd.func11, Tryd.ntmps11
  go_wp2_with fail
  rw [HW.out]
  go_region
  all_goals
    have hN := (Blk.new W 24 [.int .i64 x0, .int .i64 x1, .slice q2 (n - 2) (c - 2)]).drew
    have hMV := ((HM.out.alloc (.cells #[.int .i64 x0, .int .i64 x1, .slice q2 (n - 2) (c - 2)] 24))).drew
    have hBV := (HB.out.alloc HB.out.size (.cells #[.int .i64 x0, .int .i64 x1, .slice q2 (n - 2) (c - 2)] 24)).drew
    rw [show ([.int .i64 x0, .int .i64 x1, .slice q2 (n - 2) (c - 2)] : List Value).toArray = #[.int .i64 x0, .int .i64 x1, .slice q2 (n - 2) (c - 2)] from rfl] at hN
    have HSV := Lib.hid (show W.heap.size + 1 = ((W.alloc (.cells #[.int .i64 x0, .int .i64 x1, .slice q2 (n - 2) (c - 2)] 24)).drew).heap.size from by simp [World.drew])
    have HNV := Lib.hid hN
    have HMV := Lib.hid hMV
    have HBV := Lib.hid hBV
    clear hN hMV hBV r0 r1 r2 g0 g1 g2 c0 c1 c0d c1d
    go_wp2_with fail
    (with_reducible refine (checkN_any x0 x1 q2 (n - 2) (c - 2) _).mono ?_); rintro e w1 ⟨rfl, hb1⟩
    have HB1 := Lib.hid (HBV.out.trans (hb1.mono HBV.out.size))
    have HN1 := Lib.hid (HNV.out.next hb1)
    have HM1 := Lib.hid (HMV.out.next hb1)
    rw [HL.out]
    clear HNV HMV
    have f0 := HM1.out.f 0
    have f1 := HM1.out.f 1
    have f2 := HM1.out.f 2
    have d0 := HM1.out.cell 0 (by simp)
    have d1 := HM1.out.cell 1 (by simp)
    have d2 := HM1.out.cell 2 (by simp)
    clear hb1
    go_wp2_with fail
    refine bodyPost_ret (v := .tuple #[.agg #[.int .i64 0, .int .i64 0, .slice none 0 0], .int .i64 80]) (by simp [results, Tryd.results11, go_sem, d0, d1, d2]) rfl ⟨rfl, ?_⟩
    exact ((HB1.out.setCell (by simp) _).setCell (by simp) _).setCell (by simp) _

set_option maxHeartbeats 2000000 in
theorem getN_ok (x0 x1 : Int) (t : List Int) (b off n c : Nat) (w : World) (hb : BytesAt w (some ⟨b, off, none⟩) (x0 :: x1 :: t)) (hn : t.length + 2 = n) (hc : n ≤ c) (hk : okN x0 x1 t.length = true) :
    Calls Tryd.prog 11 #[.slice (some ⟨b, off, none⟩) n c] w fun e w' => ∃ p cap, e = .returned (.tuple #[.agg #[.int .i64 x0, .int .i64 x1, .slice p (n - 2) cap], .int .i64 0]) ∧ Own w' w.heap.size p cap t ∧ Below w.heap.size w w' := by
  obtain ⟨W, hW⟩ : ∃ W, w.alloc (.cells #[.int .i64 0, .int .i64 0, .slice none 0 0] 24) = W := ⟨_, rfl⟩
  have hB : Below w.heap.size w W := by rw [← hW]; exact (Below.refl _ _).alloc (Nat.le_refl _) _
  have hs : W.heap.size = w.heap.size + 1 := by rw [← hW]; simp
  have hM : Blk W w.heap.size 24 [.int .i64 0, .int .i64 0, .slice none 0 0] := by rw [← hW]; exact Blk.new w 24 [.int .i64 0, .int .i64 0, .slice none 0 0]
  obtain ⟨hx, hcl⟩ := hb.below hB
  have y0 := hx 0 (by simp)
  have y1 := hx 1 (by simp)
  obtain ⟨b', off', e', hcell⟩ := hcl.resolve_left (by simp)
  obtain ⟨rfl, rfl⟩ : b = b' ∧ off = off' := by simpa using e'
  have hA := (Below.refl W.heap.size W).alloc (Nat.le_refl _) (.cells #[.int .i64 0, .int .i64 0, .slice none 0 0] 24)
  have c0 : (W.alloc (.cells #[.int .i64 0, .int .i64 0, .slice none 0 0] 24)).drew.cell? ⟨b, off, none⟩ = some (.int .u8 x0) := kept hA.drew (hcell 0 (by simp))
  have c1 : (W.alloc (.cells #[.int .i64 0, .int .i64 0, .slice none 0 0] 24)).drew.cell? ⟨b, off + 1, none⟩ = some (.int .u8 x1) := kept hA.drew (hcell 1 (by simp))
  have c0d : W.drew.cell? ⟨b, off, none⟩ = some (.int .u8 x0) := hcell 0 (by simp)
  have c1d : W.drew.cell? ⟨b, off + 1, none⟩ = some (.int .u8 x1) := hcell 1 (by simp)
  have n0 : 0 < n := by omega
  have n1 : 1 < n := by omega
  have N0 := Blk.new W 24 [.int .i64 0, .int .i64 0, .slice none 0 0]
  have g0 : (W.alloc (.cells #[.int .i64 0, .int .i64 0, .slice none 0 0] 24)).drew.frozen? ⟨W.heap.size, 0, none⟩ = false := N0.f 0
  have g1 : (W.alloc (.cells #[.int .i64 0, .int .i64 0, .slice none 0 0] 24)).drew.frozen? ⟨W.heap.size, 1, none⟩ = false := N0.f 1
  have g2 : (W.alloc (.cells #[.int .i64 0, .int .i64 0, .slice none 0 0] 24)).drew.frozen? ⟨W.heap.size, 2, none⟩ = false := N0.f 2
  have r0 : (W.alloc (.cells #[.int .i64 0, .int .i64 0, .slice none 0 0] 24)).drew.cell? ⟨W.heap.size, 0, none⟩ = some (.int .i64 0) := N0.cell 0 (by simp)
  have r1 : (W.alloc (.cells #[.int .i64 0, .int .i64 0, .slice none 0 0] 24)).drew.cell? ⟨W.heap.size, 1, none⟩ = some (.int .i64 0) := N0.cell 1 (by simp)
  have r2 : (W.alloc (.cells #[.int .i64 0, .int .i64 0, .slice none 0 0] 24)).drew.cell? ⟨W.heap.size, 2, none⟩ = some (.slice none 0 0) := N0.cell 2 (by simp)
  have E1 := fun w => run_cut_l w (some ⟨b, off, none⟩) n c 2 2 rfl (by omega)
  obtain ⟨q2, hq2⟩ : ∃ q2, cutP (some ⟨b, off, none⟩) c 2 = q2 := ⟨_, rfl⟩
  rw [hq2] at E1
  have HY := Lib.hid (show BytesAt W q2 t from by have := (hb.below hB).cutl c 2 (by simp) (by simp; omega); rw [hq2] at this; exact this)
  have HM := Lib.hid hM
  have HB := Lib.hid hB
  have HW := Lib.hid hW
  have HL := Lib.hid (show errN x0 x1 (n - 2) = 0 from by rw [← hn]; exact errN_yes hk)
  have HS := Lib.hid hs
  have HNL := Lib.hid (show t.length = n - 2 from by omega)
  have n4 := (okN_yes hk).2.2.2.2
  simp only [List.getD_cons_zero, List.getD_cons_succ] at y0 y1
  have t1 : decide ((n : Int) < 2) = false := by simp; omega
  have u0 : IntKind.i64.wrap x0 = x0 := by rw [IntKind.wrap_i64]; omega
  have u1 : IntKind.i64.wrap x1 = x1 := by rw [IntKind.wrap_i64]; omega
  clear hM hB hW hk hx hcl hcell hq2 e' hb hA N0
  go_enter Tryd.func11, Tryd.ntmps11
  go_wp2_with fail
  rw [HW.out]
  go_region
  all_goals
    have hN := (Blk.new W 24 [.int .i64 x0, .int .i64 x1, .slice q2 (n - 2) (c - 2)]).drew
    have hMV := ((HM.out.alloc (.cells #[.int .i64 x0, .int .i64 x1, .slice q2 (n - 2) (c - 2)] 24))).drew
    have hBV := (HB.out.alloc HB.out.size (.cells #[.int .i64 x0, .int .i64 x1, .slice q2 (n - 2) (c - 2)] 24)).drew
    rw [show ([.int .i64 x0, .int .i64 x1, .slice q2 (n - 2) (c - 2)] : List Value).toArray = #[.int .i64 x0, .int .i64 x1, .slice q2 (n - 2) (c - 2)] from rfl] at hN
    have HSV := Lib.hid (show W.heap.size + 1 = ((W.alloc (.cells #[.int .i64 x0, .int .i64 x1, .slice q2 (n - 2) (c - 2)] 24)).drew).heap.size from by simp [World.drew])
    have HNV := Lib.hid hN
    have HMV := Lib.hid hMV
    have HBV := Lib.hid hBV
    clear hN hMV hBV r0 r1 r2 g0 g1 g2 c0 c1 c0d c1d
    go_wp2_with fail
    (with_reducible refine (checkN_any x0 x1 q2 (n - 2) (c - 2) _).mono ?_); rintro e w1 ⟨rfl, hb1⟩
    have HB1 := Lib.hid (HBV.out.trans (hb1.mono HBV.out.size))
    have HN1 := Lib.hid (HNV.out.next hb1)
    have HM1 := Lib.hid (HMV.out.next hb1)
    rw [HL.out]
    clear HNV HMV
    have HY1 := Lib.hid ((HY.out.below ((Below.refl W.heap.size W).alloc (Nat.le_refl _) (.cells #[.int .i64 x0, .int .i64 x1, .slice q2 (n - 2) (c - 2)] 24)).drew).below hb1)
    have e2 : w1.cell? ⟨w.heap.size + 1, 2, none⟩ = some (.slice q2 (n - 2) (c - 2)) := by rw [← HS.out]; exact HN1.out.cell 2 (by simp)
    clear hb1
    go_wp2_with fail
    (with_reducible refine (clone_any q2 t (n - 2) (c - 2) w1 HY1.out HNL.out (by omega)).mono ?_); rintro e w2 ⟨p, cap, rfl, hO, hb2⟩
    rw [HNL.out]
    have HB2 := Lib.hid (HB1.out.trans (hb2.mono HB1.out.size))
    have HM2 := Lib.hid (HM1.out.next hb2)
    have hN2 := HN1.out.next hb2
    rw [HS.out] at hN2
    have HN2 := Lib.hid hN2
    have HO2 := Lib.hid hO
    have HZ := Lib.hid (show w.heap.size + 1 < w1.heap.size from by have := HN1.out.lt; rw [HS.out] at this; exact this)
    have f0 := HM2.out.f 0
    have f1 := HM2.out.f 1
    have f2 := HM2.out.f 2
    have d0 := HM2.out.cell 0 (by simp)
    have d1 := HM2.out.cell 1 (by simp)
    have d2 := HM2.out.cell 2 (by simp)
    have h0 := HN2.out.cell 0 (by simp)
    have h1 := HN2.out.cell 1 (by simp)
    have h2 := HN2.out.cell 2 (by simp)
    have i2 := HN2.out.f 2
    clear hb2 hO hN2 e2
    go_wp2_with fail
    refine bodyPost_ret (v := .tuple #[.agg #[.int .i64 x0, .int .i64 x1, .slice p (n - 2) cap], .int .i64 0]) (by simp [results, Tryd.results11, go_sem, d0, d1, d2]) rfl ⟨p, cap, rfl, ?_, ?_⟩
    · exact ((((HO2.out.setBelow (by exact HZ.out) _).setBelow (by have := HZ.out; simp; omega) _).setBelow (by have := HZ.out; simp; omega) _).setBelow (by have := HZ.out; simp; omega) _).mono (by have := HZ.out; omega)
    · exact (((HB2.out.setCell (by simp) _).setCell (by simp) _).setCell (by simp) _).setCell (by simp) _

theorem getN_any (q : Option Addr) (xs : List Int) (n c : Nat) (w : World) (hb : BytesAt w q xs) (hn : xs.length = n) (hc : n ≤ c) :
    Calls Tryd.prog 11 #[.slice q n c] w fun e w' => GetNPost (getN xs) w w' e := by
  match xs, hb, hn with
  | [], _, hn => exact getN_short q n c w (by simp at hn; omega)
  | [x], _, hn => exact getN_short q n c w (by simp at hn; omega)
  | x0 :: x1 :: t, hb, hn =>
    obtain ⟨b, off, rfl, _⟩ := hb.2.resolve_left (by simp)
    have hn' : t.length + 2 = n := by simpa using hn
    rcases hk : okN x0 x1 t.length with _ | _
    · rw [show getN (x0 :: x1 :: t) = none from by simp [getN, hk]]
      exact getN_no x0 x1 t b off n c w hb hn' hc hk
    · rw [show getN (x0 :: x1 :: t) = some (x0, x1, t) from by simp [getN, hk]]
      refine (getN_ok x0 x1 t b off n c w hb hn' hc hk).mono ?_
      rintro e w' ⟨p, cap, rfl, hO, hB⟩
      exact ⟨p, cap, by rw [show t.length = n - 2 by omega], hO, hB⟩
end Go.Proofs.YtmeejbkcaghhgaaDoor
