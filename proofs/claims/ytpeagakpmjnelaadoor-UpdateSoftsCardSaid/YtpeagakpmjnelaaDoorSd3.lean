/- Contracts of num's Reader: Num, Bytes. -/
import Derived.Test.YtpeagakpmjnelaaDoorSd2
namespace Go.Proofs.YtpeagakpmjnelaaDoor.Ax
open Go.RowKit
set_option maxRecDepth 100000
def numV (s : Option (List Int)) (wide : Int) : Int := if wideB wide && okTake s wide then getV (outV s wide) else 0
def numNext (s : Option (List Int)) (wide : Int) : Option (List Int) := if wideB wide then nextV s wide else none
def NumPost (w w' : World) (e : Ending) (g : Nat) (s : Option (List Int)) (wide : Int) : Prop :=
  e = .returned (.int .i64 (numV s wide)) ∧ RdAt w' g (numNext s wide) ∧ w.grownBy w' (some g)

theorem outV_len {s : Option (List Int)} {n : Int} (h : okTake s n = true) : ((outV s n).length : Int) = n := by
  unfold outV
  rw [if_pos h]
  cases s with
  | none => simp [okTake] at h
  | some xs => simp [okTake] at h; simp; omega

theorem num_any (w : World) (g : Nat) (s : Option (List Int)) (wide : Int) (h : RdAt w g s) :
    Calls Tryd.prog 33 #[.pointer (some ⟨g, 0, none⟩), .int .i64 wide] w fun e w' => NumPost w w' e g s wide := by
  rcases hw : wideB wide with _ | _
  · have HS := Lib.hid (spoil_any w g s h)
    have hf : numV s wide = 0 ∧ numNext s wide = none := by simp [numV, numNext, hw]
    have HF := Lib.hid hf
    clear h hf
    go_enter Tryd.func33, Tryd.ntmps33
    go_wp2_with fail
    refine (wide_any _ _).mono ?_; rintro e w' ⟨rfl, rfl⟩
    go_wp2_with fail
    refine HS.out.mono ?_; rintro e w1 ⟨rfl, hr, hg⟩
    have HR := Lib.hid hr
    have HG := Lib.hid hg
    clear hr hg
    go_wp2_with fail
    go_ret
    exact ⟨by rw [HF.out.1]; rfl, by rw [HF.out.2]; exact HR.out, HG.out⟩
  · have HT := Lib.hid (take_any w g s wide h)
    have hwd := wideB_yes hw
    rcases ht : okTake s wide with _ | _
    · have hf : numV s wide = 0 ∧ numNext s wide = nextV s wide := by simp [numV, numNext, hw, ht]
      have ho : outV s wide = [] := by simp [outV, ht]
      have HF := Lib.hid hf
      have HO := Lib.hid ho
      clear h hf ho ht
      go_enter Tryd.func33, Tryd.ntmps33
      go_wp2_with fail
      refine (wide_any _ _).mono ?_; rintro e w' ⟨rfl, rfl⟩
      go_wp2_with fail
      refine HT.out.mono ?_; rintro e w1 ⟨p, cap, rfl, hb, hr, hg⟩
      rw [show (outV s wide).length = 0 from by rw [HO.out]; rfl]
      have HR := Lib.hid hr
      have HG := Lib.hid hg
      clear hr hg hb
      go_wp2_with fail
      refine (get_wide p 0 cap _ rfl).mono ?_; rintro e w' ⟨rfl, rfl⟩
      go_wp2_with fail
      go_ret
      exact ⟨by rw [HF.out.1]; rfl, by rw [HF.out.2]; exact HR.out, HG.out⟩
    · have hf : numV s wide = getV (outV s wide) ∧ numNext s wide = nextV s wide := by simp [numV, numNext, hw, ht]
      have hol := outV_len ht
      have HF := Lib.hid hf
      have HO := Lib.hid hol
      clear h hf hol ht
      go_enter Tryd.func33, Tryd.ntmps33
      go_wp2_with fail
      refine (wide_any _ _).mono ?_; rintro e w' ⟨rfl, rfl⟩
      go_wp2_with fail
      refine HT.out.mono ?_; rintro e w1 ⟨p, cap, rfl, hb, hr, hg⟩
      have HR := Lib.hid hr
      have HG := Lib.hid hg
      have hg1 := get_some p (outV s wide) cap w1 (by have := HO.out; omega) (by have := HO.out; omega) hb
      have HB := Lib.hid hg1
      clear hr hg hb hg1
      go_wp2_with fail
      refine HB.out.mono ?_; rintro e w' ⟨rfl, rfl⟩
      go_wp2_with fail
      go_ret
      exact ⟨by rw [HF.out.1]; rfl, by rw [HF.out.2]; exact HR.out, HG.out⟩

theorem num_nil (w : World) (wide : Int) (h : wideB wide = true) : Calls Tryd.prog 33 #[.pointer none, .int .i64 wide] w fun e w' => e = .returned (.int .i64 0) ∧ w = w' := by
  have hwd := wideB_yes h
  go_enter Tryd.func33, Tryd.ntmps33
  go_wp2_with fail
  refine (wide_any _ _).mono ?_; rintro e w' ⟨rfl, rfl⟩
  go_wp2_with fail
  refine (take_nil _ _ (by omega)).mono ?_; rintro e w' ⟨rfl, rfl⟩
  go_wp2_with fail
  refine (get_wide none 0 0 _ rfl).mono ?_; rintro e w' ⟨rfl, rfl⟩
  go_wp2_with fail
  go_ret
  exact ⟨rfl, rfl⟩

/-- The bytes come as a new row of their own. -/
def BytesPost (w w' : World) (e : Ending) (g : Nat) (s : Option (List Int)) (n : Int) : Prop :=
  ∃ q, e = .returned (.slice (some ⟨q, 0, none⟩) (outV s n).length (outV s n).length) ∧ BRow w' q (outV s n) ∧ InByte (outV s n) ∧ q ≠ g ∧ w.heap.size ≤ q ∧ RdAt w' g (nextV s n) ∧ w.grownBy w' (some g)

theorem RdAt.below {w w' : World} {g : Nat} {s : Option (List Int)} (h : RdAt w g s) (hb : Below w.heap.size w w') : RdAt w' g s := by
  have hlt := h.lt
  cases s with
  | none => exact World.rowIs.of_block h (hb.block _ hlt)
  | some xs =>
    obtain ⟨b, off, cap, hr, hbg, hx, h1, h2⟩ := h
    refine ⟨b, off, cap, World.rowIs.of_block hr (hb.block _ hlt), hbg, ?_, h1, h2⟩
    rcases Nat.lt_or_ge b w.heap.size with hl | hl
    · exact hx.of_block (hb.block _ hl)
    · obtain ⟨hx1, hx2⟩ := hx
      refine ⟨hx1, ?_⟩
      rcases hx2 with hx2 | ⟨b', o', hp, hc⟩
      · exact .inl hx2
      · simp only [Option.some.injEq, Addr.mk.injEq] at hp
        obtain ⟨rfl, rfl, _⟩ := hp
        rcases Nat.eq_zero_or_pos xs.length with h0 | h0
        · exact .inl (List.eq_nil_of_length_eq_zero h0)
        · have : b < w.heap.size := World.block_lt_of_cell? w _ (hc 0 h0)
          omega

theorem RdAt.len {w : World} {g : Nat} {xs : List Int} (h : RdAt w g (some xs)) : xs.length ≤ 140737488355328 := by
  obtain ⟨b, off, cap, hr, hbg, hx, h1, h2⟩ := h; omega
theorem outV_le (s : Option (List Int)) (n : Int) (k : Nat) (h : ∀ xs, s = some xs → xs.length ≤ k) : (outV s n).length ≤ k := by
  unfold outV
  split
  · cases s with
    | none => simp
    | some xs => have := h xs rfl; simp; omega
  · simp

theorem bytes_any (w : World) (g : Nat) (s : Option (List Int)) (n : Int) (h : RdAt w g s) :
    Calls Tryd.prog 32 #[.pointer (some ⟨g, 0, none⟩), .int .i64 n] w fun e w' => BytesPost w w' e g s n := by
  have HT := Lib.hid (take_any w g s n h)
  have hl := outV_le s n 140737488355328 (fun xs e => by subst e; exact h.len)
  have hgl := h.lt
  clear h
  go_enter Tryd.func32, Tryd.ntmps32
  go_wp2_with fail
  refine HT.out.mono ?_; rintro e w1 ⟨p, cap, rfl, hb, hr, hg⟩
  have HC := Lib.hid (copied_any p (outV s n) cap w1 hl hb)
  have HX := Lib.hid hb.1
  have HR := Lib.hid hr
  have HG := Lib.hid hg
  clear hr hg hb
  go_wp2_with fail
  refine HC.out.mono ?_; rintro e w2 ⟨rfl, hrow, hbel⟩
  have HW := Lib.hid hrow
  have HB := Lib.hid hbel
  clear hrow hbel
  go_wp2_with fail
  go_ret
  have hs := HG.out.size
  exact ⟨w1.heap.size, rfl, HW.out, HX.out, by omega, hs, HR.out.below HB.out, gb_trans HG.out (gb_below HB.out)⟩

theorem bytes_nil (w : World) (n : Int) (h : 0 ≤ n) : Calls Tryd.prog 32 #[.pointer none, .int .i64 n] w fun e w' => e = .returned (.slice (some ⟨w.heap.size, 0, none⟩) 0 0) ∧ Below w.heap.size w w' := by
  go_enter Tryd.func32, Tryd.ntmps32
  go_wp2_with fail
  refine (take_nil _ _ h).mono ?_; rintro e w' ⟨rfl, rfl⟩
  go_wp2_with fail
  refine (copied_any none [] 0 _ (by simp) ⟨fun i hi => by simp at hi, .inl rfl⟩).mono ?_; rintro e w2 ⟨rfl, hrow, hbel⟩
  have HB := Lib.hid hbel
  clear hrow hbel
  go_wp2_with fail
  go_ret
  exact ⟨rfl, HB.out⟩
end Go.Proofs.YtpeagakpmjnelaaDoor.Ax
