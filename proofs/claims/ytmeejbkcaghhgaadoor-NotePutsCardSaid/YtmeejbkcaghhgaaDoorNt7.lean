/- note: the document's own Get. -/
import Derived.Test.YtmeejbkcaghhgaaDoorNt6
namespace Go.Proofs.YtmeejbkcaghhgaaDoor
open Go.RowKit

def RGetNPost (r : Option (Int × Int × List Int)) (w w' : World) (e : Ending) : Prop :=
  match r with
  | some (k, s, t) => ∃ p cap, e = .returned (.tuple #[.agg #[.int .i64 k, .int .i64 s, .slice p t.length cap], .bool true]) ∧ Own w' w.heap.size p cap t ∧ Below w.heap.size w w'
  | none => e = .returned (.tuple #[.agg #[.int .i64 0, .int .i64 0, .slice none 0 0], .bool false]) ∧ Below w.heap.size w w'
theorem rgetN_short (q : Option Addr) (n c : Nat) (w : World) (hn : n < 2) :
    Calls Tryd.prog 16 #[.slice q n c] w fun e w' => e = .returned (.tuple #[.agg #[.int .i64 0, .int .i64 0, .slice none 0 0], .bool false]) ∧ Below w.heap.size w w' := by
  have M0 := Blk.new w 24 [.int .i64 0, .int .i64 0, .slice none 0 0]
  have HB := Lib.hid ((Below.refl w.heap.size w).alloc (Nat.le_refl _) (.cells #[.int .i64 0, .int .i64 0, .slice none 0 0] 24))
  have d0 := M0.cell 0 (by simp)
  have d1 := M0.cell 1 (by simp)
  have d2 := M0.cell 2 (by simp)
  rw [show ([.int .i64 0, .int .i64 0, .slice none 0 0] : List Value).toArray = #[.int .i64 0, .int .i64 0, .slice none 0 0] from rfl] at d0 d1 d2
  have t1 : (n : Int) < 2 := by omega
  clear M0
  go_enter Tryd.func16, Tryd.ntmps16
  go_wp2_with fail
  refine bodyPost_ret (v := .tuple #[.agg #[.int .i64 0, .int .i64 0, .slice none 0 0], .bool false]) (by simp [results, Tryd.results16, go_sem, d0, d1, d2]) rfl ⟨rfl, ?_⟩
  exact HB.out
set_option maxHeartbeats 1000000 in
theorem rgetN_no (x0 x1 : Int) (t : List Int) (b off n c : Nat) (w : World) (hb : BytesAt w (some ⟨b, off, none⟩) (x0 :: x1 :: t)) (hn : t.length + 2 = n) (hk : okN x0 x1 t.length = false) :
    Calls Tryd.prog 16 #[.slice (some ⟨b, off, none⟩) n c] w fun e w' => e = .returned (.tuple #[.agg #[.int .i64 0, .int .i64 0, .slice none 0 0], .bool false]) ∧ Below w.heap.size w w' := by
  have hB := (Below.refl w.heap.size w).alloc (Nat.le_refl _) (.cells #[.int .i64 0, .int .i64 0, .slice none 0 0] 24)
  have M0 := Blk.new w 24 [.int .i64 0, .int .i64 0, .slice none 0 0]
  have d0 := M0.cell 0 (by simp)
  have d1 := M0.cell 1 (by simp)
  have d2 := M0.cell 2 (by simp)
  rw [show ([.int .i64 0, .int .i64 0, .slice none 0 0] : List Value).toArray = #[.int .i64 0, .int .i64 0, .slice none 0 0] from rfl] at d0 d1 d2
  obtain ⟨hx, hcl⟩ := hb.below hB
  have y0 := hx 0 (by simp)
  have y1 := hx 1 (by simp)
  simp only [List.getD_cons_zero, List.getD_cons_succ] at y0 y1
  obtain ⟨b', off', e', hcell⟩ := hcl.resolve_left (by simp)
  obtain ⟨rfl, rfl⟩ : b = b' ∧ off = off' := by simpa using e'
  have c0 : (w.alloc (.cells #[.int .i64 0, .int .i64 0, .slice none 0 0] 24)).cell? ⟨b, off, none⟩ = some (.int .u8 x0) := hcell 0 (by simp)
  have hno : ¬ (1 ≤ x0 ∧ x0 ≤ 6 ∧ n ≤ 4077) := fun h => by
    have := okN_of (k := x0) (s := x1) (n := t.length) (by omega)
    rw [hk] at this; cases this
  have t1 : decide ((n : Int) < 2) = false := by simp; omega
  have n0 : 0 < n := by omega
  have HB := Lib.hid hB
  clear M0 hx hcl hcell e' hb hB hk hn y1
  by_cases h1 : 4077 < n
  · have t2 : decide ((4077 : Int) < (n : Int)) = true := by simp; omega
    clear h1 hno
    go_enter Tryd.func16, Tryd.ntmps16
    go_wp2_with fail
    refine bodyPost_ret (v := .tuple #[.agg #[.int .i64 0, .int .i64 0, .slice none 0 0], .bool false]) (by simp [results, Tryd.results16, go_sem, d0, d1, d2]) rfl ⟨rfl, ?_⟩
    exact HB.out
  · have t2 : decide ((4077 : Int) < (n : Int)) = false := by simp; omega
    by_cases h2 : x0 < 1
    · clear h1 hno
      go_enter Tryd.func16, Tryd.ntmps16
      go_wp2_with fail
      refine bodyPost_ret (v := .tuple #[.agg #[.int .i64 0, .int .i64 0, .slice none 0 0], .bool false]) (by simp [results, Tryd.results16, go_sem, d0, d1, d2]) rfl ⟨rfl, ?_⟩
      exact HB.out
    · have t3 : decide (x0 < 1) = false := decide_eq_false h2
      have t4 : decide (6 < x0) = true := by simp; omega
      clear h1 h2 hno
      go_enter Tryd.func16, Tryd.ntmps16
      go_wp2_with fail
      refine bodyPost_ret (v := .tuple #[.agg #[.int .i64 0, .int .i64 0, .slice none 0 0], .bool false]) (by simp [results, Tryd.results16, go_sem, d0, d1, d2]) rfl ⟨rfl, ?_⟩
      exact HB.out
set_option maxHeartbeats 2000000 in
theorem rgetN_ok (x0 x1 : Int) (t : List Int) (b off n c : Nat) (w : World) (hb : BytesAt w (some ⟨b, off, none⟩) (x0 :: x1 :: t)) (hn : t.length + 2 = n) (hc : n ≤ c) (hk : okN x0 x1 t.length = true) :
    Calls Tryd.prog 16 #[.slice (some ⟨b, off, none⟩) n c] w fun e w' => ∃ p cap, e = .returned (.tuple #[.agg #[.int .i64 x0, .int .i64 x1, .slice p (n - 2) cap], .bool true]) ∧ Own w' w.heap.size p cap t ∧ Below w.heap.size w w' := by
  obtain ⟨k1, k6, s0, s255, n4⟩ := okN_yes hk
  obtain ⟨W, hW⟩ : ∃ W, w.alloc (.cells #[.int .i64 0, .int .i64 0, .slice none 0 0] 24) = W := ⟨_, rfl⟩
  have hB : Below w.heap.size w W := by rw [← hW]; exact (Below.refl _ _).alloc (Nat.le_refl _) _
  have hM : Blk W w.heap.size 24 [.int .i64 0, .int .i64 0, .slice none 0 0] := by rw [← hW]; exact Blk.new w 24 [.int .i64 0, .int .i64 0, .slice none 0 0]
  have hbW := hb.below hB
  obtain ⟨hx, hcl⟩ := hb.below hB
  obtain ⟨b', off', e', hcell⟩ := hcl.resolve_left (by simp)
  obtain ⟨rfl, rfl⟩ : b = b' ∧ off = off' := by simpa using e'
  have hA := (Below.refl W.heap.size W).alloc (Nat.le_refl _) (.cells #[] 5)
  have c0d : W.drew.cell? ⟨b, off, none⟩ = some (.int .u8 x0) := hcell 0 (by simp)
  have c1d : W.drew.cell? ⟨b, off + 1, none⟩ = some (.int .u8 x1) := hcell 1 (by simp)
  obtain ⟨_, hcw⟩ := hb
  obtain ⟨b2, off2, e2, hcellw⟩ := hcw.resolve_left (by simp)
  obtain ⟨rfl, rfl⟩ : b = b2 ∧ off = off2 := by simpa using e2
  have HCC := Lib.hid (fun V (h : Below w.heap.size w V) => (And.intro (kept h (hcellw 0 (by simp))) (kept h (hcellw 1 (by simp))) : V.cell? ⟨b, off, none⟩ = some (.int .u8 x0) ∧ V.cell? ⟨b, off + 1, none⟩ = some (.int .u8 x1)))
  have HAD := Lib.hid (hB.trans (hA.drew.mono hB.size))
  have HAE := Lib.hid hA.drew
  have c0 : (w.alloc (.cells #[.int .i64 0, .int .i64 0, .slice none 0 0] 24)).cell? ⟨b, off, none⟩ = some (.int .u8 x0) := by rw [hW]; exact c0d
  have E1 := fun w => run_cut_l w (some ⟨b, off, none⟩) n c 2 2 rfl (by omega)
  obtain ⟨q2, hq2⟩ : ∃ q2, cutP (some ⟨b, off, none⟩) c 2 = q2 := ⟨_, rfl⟩
  rw [hq2] at E1
  have hY : BytesAt W q2 t := by have := hbW.cutl c 2 (by simp) (by simp; omega); rw [hq2] at this; exact this
  have HYA := Lib.hid (show BytesAt ((W.alloc (.cells #[] 5)).drew) q2 t from hY.below hA.drew)
  have HOA := Lib.hid (show Own ((W.alloc (.cells #[] 5)).drew) W.heap.size (some ⟨W.heap.size, 0, none⟩) 0 [] from (Own.lit W W.heap.size [] (fun i hi => by simp at hi) (by simp) (Nat.le_refl _)).below ((Below.refl _ _).drew))
  have HM := Lib.hid hM
  have HB := Lib.hid hB
  have HW := Lib.hid hW
  have HNL := Lib.hid (show t.length = n - 2 from by omega)
  have t1 : decide ((n : Int) < 2) = false := by simp; omega
  have t2 : decide ((4077 : Int) < (n : Int)) = false := by simp; omega
  have t3 : decide (x0 < 1) = false := by simp; omega
  have t4 : decide (6 < x0) = false := by simp; omega
  have n0 : 0 < n := by omega
  have n1 : 1 < n := by omega
  have u0 : IntKind.i64.wrap x0 = x0 := by rw [IntKind.wrap_i64]; omega
  have u1 : IntKind.i64.wrap x1 = x1 := by rw [IntKind.wrap_i64]; omega
  clear hM hB hW hk hx hcl hcell hq2 e' hbW hA hY hcw e2 hcellw
  go_enter Tryd.func16, Tryd.ntmps16
  go_wp2_with fail
  rw [HW.out] at c0 ⊢
  go_region_held_law (fun w' => w'.cell? ⟨b, off, none⟩ = some (.int .u8 x0) ∧ w'.cell? ⟨b, off + 1, none⟩ = some (.int .u8 x1)) (first | with_reducible assumption | (refine ⟨?_, ?_⟩ <;> with_reducible assumption) | exact HCC.out _ HAD.out | exact HCC.out _ (((HB5.out.setCell (Nat.le_refl _) _).setCell (Nat.le_refl _) _).setCell (Nat.le_refl _) _)) (first
    | (refine step_appo rfl (.tmp 33) (.tmp 35) rfl W.heap.size (some ⟨W.heap.size, 0, none⟩) 0 [] HOA.out 0 rfl rfl q2 (n - 2) (c - 2) t HYA.out HNL.out rfl (n - 2) ?b2 ?b3 ?b4 ?_; (case b2 => omega); (case b3 => omega); (case b4 => simp [World.drew]); intro p5 cap5 w5 hO5 hB5 hG5; have HB5 := Lib.hid (HAD.out.trans (hB5.out.mono HB.out.size)); have k5 := HCC.out w5 HB5.out; have M5 := Lib.hid (HM.out.next (HAE.out.trans hB5.out)); have f0 := M5.out.f 0; have f1 := M5.out.f 1; have f2 := M5.out.f 2; have d0 := M5.out.cell 0 (by simp); have d1 := M5.out.cell 1 (by simp); have d2 := M5.out.cell 2 (by simp)))
  all_goals
    go_wp2_with fail
    have HBF := HB5.out
    have hgl := M5.out.lt
    refine bodyPost_ret (v := .tuple #[.agg #[.int .i64 x0, .int .i64 x1, .slice p5 (n - 2) cap5], .bool true]) (by simp [results, Tryd.results16, go_sem, d0, d1, d2]) rfl ⟨p5, cap5, rfl, ?_, ?_⟩
    · exact ((((hO5.out.setBelow (by exact HM.out.lt) _).setBelow (by exact HM.out.lt) _).setBelow (by exact HM.out.lt) _)).mono HB.out.size
    · exact ((HBF.setCell (by simp) _).setCell (by simp) _).setCell (by simp) _

theorem rgetN_any (q : Option Addr) (xs : List Int) (n c : Nat) (w : World) (hb : BytesAt w q xs) (hn : xs.length = n) (hc : n ≤ c) :
    Calls Tryd.prog 16 #[.slice q n c] w fun e w' => RGetNPost (getN xs) w w' e := by
  match xs, hb, hn with
  | [], _, hn => exact rgetN_short q n c w (by simp at hn; omega)
  | [x], _, hn => exact rgetN_short q n c w (by simp at hn; omega)
  | x0 :: x1 :: t, hb, hn =>
    obtain ⟨b, off, rfl, _⟩ := hb.2.resolve_left (by simp)
    have hn' : t.length + 2 = n := by simpa using hn
    rcases hk : okN x0 x1 t.length with _ | _
    · rw [show getN (x0 :: x1 :: t) = none from by simp [getN, hk]]
      exact rgetN_no x0 x1 t b off n c w hb hn' hk
    · rw [show getN (x0 :: x1 :: t) = some (x0, x1, t) from by simp [getN, hk]]
      refine (rgetN_ok x0 x1 t b off n c w hb hn' hc hk).mono ?_
      rintro e w' ⟨p, cap, rfl, hO, hB⟩
      exact ⟨p, cap, by rw [show t.length = n - 2 by omega], hO, hB⟩
end Go.Proofs.YtmeejbkcaghhgaaDoor
