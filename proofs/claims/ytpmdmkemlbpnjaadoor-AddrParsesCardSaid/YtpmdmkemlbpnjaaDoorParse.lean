/- The contract of addr's Parse. -/
import Derived.Test.YtpmdmkemlbpnjaaDoorShow
namespace Go.Proofs.YtpmdmkemlbpnjaaDoor
open Go.RowKit

/-- The prefix that a text tells, if any. -/
def parseL (l : List UInt8) : Option (Int × Int) :=
  match addrL (cutL 47 l).1 with
  | none => none
  | some b => match numOf 32 (cutL 47 l).2.1 with
    | none => none
    | some n => if okP (getV b) n then some (getV b, n) else none

def ParsePost (o : Option (Int × Int)) (e : Ending) : Prop :=
  e = .returned (.tuple #[.agg #[.int .u32 (o.getD (0, 0)).1, .int .i64 (o.getD (0, 0)).2], .int .i64 (if o.isSome then 0 else 20)])

theorem Box.f {w : World} {g : Nat} {v0 v1 : Value} (h : Box w g v0 v1) (j : Nat) : w.frozen? ⟨g, j, none⟩ = false := World.rowIs.frozen h j
theorem Box.drewN {w : World} {g : Nat} {v0 v1 : Value} (h : Box w g v0 v1) (n : Nat) : Box (w.drewN n) g v0 v1 := h

theorem Box.stored {w : World} {g : Nat} {v0 v1 : Value} (h : Box w g v0 v1) (u0 u1 : Value) : Box ((w.setCell ⟨g, 0, none⟩ u0).setCell ⟨g, 1, none⟩ u1) g u0 u1 :=
  ((World.rowIs.set h 0 u0).set 1 u1).congr fun i hi => by
    have : i = 0 ∨ i = 1 := by omega
    rcases this with rfl | rfl <;> rfl

theorem parse_any (s : ByteArray) (w : World) (hs : s.size ≤ 9223372036854775807) :
    Calls Tryd.prog 5 #[.string s] w fun e w' => ParsePost (parseL s.data.toList) e ∧ Below w.heap.size w w' := by
  have hl := cutL_len 47 s.data.toList
  have HB0 := Lib.hid ((Below.refl w.heap.size w).alloc (Nat.le_refl _) (.cells #[.int .u32 0, .int .i64 0] 25))
  have HX0 := Lib.hid (Box.new w (.int .u32 0) (.int .i64 0))
  go_enter Tryd.func5, Tryd.ntmps5
  go_wp2_with fail
  refine (cut_any s 47 _ hs).mono ?_; rintro e w1 ⟨⟨s1, s2, rfl, e1, e2⟩, n1, rfl⟩
  have z1 : s1.size ≤ 9223372036854775807 := by rw [← data_len, e1]; have := data_len s; omega
  have z2 : s2.size ≤ 9223372036854775807 := by rw [← data_len, e2]; have := data_len s; omega
  have HB1 := Lib.hid (below_drewN HB0.out n1)
  have HX1 := Lib.hid (HX0.out.drewN n1)
  have E1 := Lib.hid e1
  have E2 := Lib.hid e2
  clear e1 e2 hl
  go_wp2_with fail
  refine (address_any s1 _ z1).mono ?_; rintro e w2 ⟨ha, hb2⟩
  have HB2 := Lib.hid (HB1.out.trans (hb2.mono HB1.out.size))
  have HX2 := Lib.hid (HX1.out.below hb2)
  have c0 := HX2.out.c0
  have c1 := HX2.out.c1
  have f0 := HX2.out.f 0
  have f1 := HX2.out.f 1
  rw [E1.out] at ha
  clear hb2
  rcases ho : addrL (cutL 47 s.data.toList).1 with _ | b
  · rw [ho] at ha
    unfold AddrOut at ha
    rw [ha]
    have HP := Lib.hid (show parseL s.data.toList = none by unfold parseL; rw [ho])
    clear ha ho
    dsimp only
    go_wp2_with fail
    exact bodyPost_ret (v := .tuple #[.agg #[.int .u32 0, .int .i64 0], .int .i64 20]) (by simp [results, Tryd.results5, go_sem, c0, c1]) rfl ⟨by rw [HP.out]; rfl, (HB2.out.setCell (Nat.le_refl _) _).setCell (Nat.le_refl _) _⟩
  · rw [ho] at ha
    unfold AddrOut at ha
    rw [ha]
    dsimp only
    obtain ⟨A, hA⟩ : ∃ A, getV b = A := ⟨_, rfl⟩
    rw [hA]
    have HA := Lib.hid hA
    clear ha hA
    go_wp2_with fail
    refine (number_any s2 32 _ z2 (by omega) (by omega)).mono ?_; rintro e w3 ⟨hn, rfl⟩
    rw [E2.out] at hn
    rcases hq : numOf 32 (cutL 47 s.data.toList).2.1 with _ | n
    · rw [hq] at hn
      unfold NumberPost at hn
      rw [hn]
      have HP := Lib.hid (show parseL s.data.toList = none by unfold parseL; rw [ho]; dsimp only; rw [hq])
      clear hn hq ho
      simp only [Option.getD_none, Option.isSome_none]
      have hz : w.heap.size < w2.heap.size := World.rowIs.lt HX2.out
      go_wp2_with fail
      have HX3 := (HX2.out.stored (.int .u32 0) (.int .i64 0)).alloc (.cells #[.int .u32 A, .int .i64 0] 25)
      exact bodyPost_ret (v := .tuple #[.agg #[.int .u32 0, .int .i64 0], .int .i64 20]) (by simp [results, Tryd.results5, go_sem, HX3.c0, HX3.c1]) rfl ⟨by rw [HP.out]; rfl, ((HB2.out.setCell (Nat.le_refl _) _).setCell (Nat.le_refl _) _).alloc (by simpa [World.setCell] using HB2.out.size) _⟩
    · rw [hq] at hn
      unfold NumberPost at hn
      rw [hn]
      simp only [Option.getD_some, Option.isSome_some]
      have HY := Lib.hid (Box.new w2 (.int .u32 A) (.int .i64 n))
      have HX3 := Lib.hid (HX2.out.alloc (.cells #[.int .u32 A, .int .i64 n] 25))
      have HB3 := Lib.hid (HB2.out.alloc HB2.out.size (.cells #[.int .u32 A, .int .i64 n] 25))
      rcases hk : okP A n with _ | _
      · have HP := Lib.hid (show parseL s.data.toList = none by unfold parseL; rw [ho]; dsimp only; rw [hq]; dsimp only; rw [HA.out, hk]; rfl)
        clear hn hq ho
        go_wp2_with fail
        refine (check_false A n _ hk).mono ?_; rintro e w4 ⟨rfl, hb4⟩
        have HX4 := HX3.out.below hb4
        have d0 := HX4.c0
        have d1 := HX4.c1
        have g0 := HX4.f 0
        have g1 := HX4.f 1
        have HB4 := Lib.hid (HB3.out.trans (hb4.mono HB3.out.size))
        clear hb4 HX4
        go_wp2_with fail
        exact bodyPost_ret (v := .tuple #[.agg #[.int .u32 0, .int .i64 0], .int .i64 20]) (by simp [results, Tryd.results5, go_sem, d0, d1]) rfl ⟨by rw [HP.out]; rfl, (HB4.out.setCell (Nat.le_refl _) _).setCell (Nat.le_refl _) _⟩
      · have HP := Lib.hid (show parseL s.data.toList = some (A, n) by unfold parseL; rw [ho]; dsimp only; rw [hq]; dsimp only; rw [HA.out, hk]; rfl)
        clear hn hq ho
        go_wp2_with fail
        refine (check_true A n _ hk).mono ?_; rintro e w4 ⟨rfl, hb4⟩
        have HX4 := HX3.out.below hb4
        have HY4 := HY.out.below hb4
        have d0 := HX4.c0
        have d1 := HX4.c1
        have g0 := HX4.f 0
        have g1 := HX4.f 1
        have y0 := HY4.c0
        have y1 := HY4.c1
        have HB4 := Lib.hid (HB3.out.trans (hb4.mono HB3.out.size))
        clear hb4 HX4 HY4
        go_wp2_with fail
        exact bodyPost_ret (v := .tuple #[.agg #[.int .u32 A, .int .i64 n], .int .i64 0]) (by simp [results, Tryd.results5, go_sem, d0, d1]) rfl ⟨by rw [HP.out]; rfl, (HB4.out.setCell (Nat.le_refl _) _).setCell (Nat.le_refl _) _⟩
end Go.Proofs.YtpmdmkemlbpnjaaDoor
