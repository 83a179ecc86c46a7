/- best: slices.IndexFunc, slices.DeleteFunc at lists of numbers, with closures that may make memory. -/
import Derived.Test.YtljbebeaahcjaaaJ4
import Derived.Lib.SliceRun
namespace Go.Proofs.Ytljbebeaahcjaaa
open Go.RowKit Go.Maps
set_option linter.unusedVariables false
set_option linter.unusedSimpArgs false
set_option maxRecDepth 100000

theorem takeI_snoc {l : List Int} {k n : Nat} (hn : l.length = n) (hk : k < n) : l.take (k + 1) = l.take k ++ [l.getD k 0] := by rw [List.take_add_one]; simp [List.getD, show k < l.length by omega]
theorem getI_mem {l : List Int} {k n : Nat} (hn : l.length = n) (hk : k < n) : l.getD k 0 ∈ l := by simp [List.getD, show k < l.length by omega]

def IdxRL (P : Int → Bool) (l : List Int) (n : Nat) (w w' : World) (e : Ending) : Prop := ∃ i : Int, e = .returned (.int .i64 i) ∧ Below w.heap.size w w' ∧ ((i = -1 ∧ ∀ x ∈ l, P x = false) ∨ ∃ k : Nat, i = k ∧ k < n ∧ P (l.getD k 0) = true ∧ ∀ x ∈ l.take k, P x = false)
set_option maxHeartbeats 4000000 in
theorem idxL_any (w : World) (p : Option Addr) (l : List Int) (n c : Nat) (h : LAt inC InI 0 1 w p l) (hn : l.length = n) (hm : n ≤ 9223372036854775807) (P : Int → Bool) (ca cb cd : Nat) (HP : ∀ u, Below w.heap.size w u → ∀ x ∈ l, Calls Try.prog 32 #[.int .i64 x, .pointer (some ⟨ca, 0, none⟩), .pointer (some ⟨cb, 0, none⟩), .pointer (some ⟨cd, 0, none⟩)] u fun e w' => e = .returned (.bool (P x)) ∧ Below u.heap.size u w') :
    Calls Try.prog 48 #[.slice p n c, .func (.func 32) #[] #[.pointer (some ⟨ca, 0, none⟩), .pointer (some ⟨cb, 0, none⟩), .pointer (some ⟨cd, 0, none⟩)]] w fun e w' => IdxRL P l n w w' e := by
  have HAT := Lib.hid h
  have HN := Lib.hid hn
  have HPP := Lib.hid HP
  clear h hn HP
  go_enter Try.func48, Try.ntmps48
  go_wp2_with fail
  go_loopw [8] (fun iv wr => ∃ k : Nat, k ≤ n ∧ iv = .int .i64 k ∧ (∀ x ∈ l.take k, P x = false) ∧ Below w.heap.size w wr) (fun iv _ => n - (intOf iv).toNat)
  case atStart => exact ⟨0, Nat.zero_le _, rfl, fun x hx => by simp at hx, Below.refl _ _⟩
  case round =>
    obtain ⟨k, hk, rfl, hall, hB⟩ := hrel
    have HB := Lib.hid hB
    have HALL := Lib.hid hall
    clear hB hall
    by_cases hlt : k < n
    · have hltI : (k : Int) < (n : Int) := by omega
      obtain ⟨b, off, rfl, c0⟩ := in_cell (HAT.out.below HB.out) HN.out hlt
      have HX := Lib.hid (takeI_snoc HN.out hlt)
      have hxm := getI_mem HN.out hlt
      obtain ⟨x, hx⟩ : ∃ x, l.getD k 0 = x := ⟨_, rfl⟩
      have HXE := Lib.hid hx
      rw [hx] at c0 HX hxm
      have HC := Lib.hid (HPP.out wr HB.out x hxm)
      obtain ⟨o, ho⟩ : ∃ o, P x = o := ⟨_, rfl⟩
      rw [ho] at HC
      have HO := Lib.hid ho
      clear hx hxm ho
      rcases o with _ | _
      · go_wp2_with (go_at_call 32; refine HC.out.mono ?_; rintro e u ⟨rfl, hu⟩)
        go_roundw
        case rel =>
          refine ⟨k + 1, by omega, by go_num, fun y hy => ?_, HB.out.trans (hu.mono HB.out.size)⟩
          rw [HX.out] at hy
          rcases List.mem_append.1 hy with hy | hy
          · exact HALL.out y hy
          · rw [List.mem_singleton] at hy; subst hy; exact HO.out
        case measure => simp [intOf]; omega
      · go_wp2_with (go_at_call 32; refine HC.out.mono ?_; rintro e u ⟨rfl, hu⟩)
        go_ret
        exact ⟨(k : Int), rfl, HB.out.trans (hu.mono HB.out.size), .inr ⟨k, rfl, hlt, by rw [HXE.out]; exact HO.out, HALL.out⟩⟩
    · obtain rfl : k = n := by omega
      have hkI : ¬ (k : Int) < (k : Int) := by omega
      have e : l.take k = l := List.take_of_length_le (by rw [HN.out]; exact Nat.le_refl _)
      have h := HALL.out
      rw [e] at h
      have HA2 := Lib.hid h
      clear h e
      go_wp2_with fail
      go_ret
      exact ⟨-1, rfl, HB.out, .inl ⟨rfl, HA2.out⟩⟩
def IdxRM (P : Int → Bool) (l : List Int) (n : Nat) (w w' : World) (e : Ending) : Prop := ∃ i : Int, e = .returned (.int .i64 i) ∧ Below w.heap.size w w' ∧ ((i = -1 ∧ ∀ x ∈ l, P x = false) ∨ ∃ k : Nat, i = k ∧ k < n ∧ P (l.getD k 0) = true ∧ ∀ x ∈ l.take k, P x = false)
set_option maxHeartbeats 4000000 in
theorem idxM_any (w : World) (p : Option Addr) (l : List Int) (n c : Nat) (h : LAt inC InI 0 1 w p l) (hn : l.length = n) (hm : n ≤ 9223372036854775807) (P : Int → Bool) (ca cb : Nat) (HP : ∀ u, Below w.heap.size w u → ∀ x ∈ l, Calls Try.prog 47 #[.int .i64 x, .pointer (some ⟨ca, 0, none⟩), .pointer (some ⟨cb, 0, none⟩)] u fun e w' => e = .returned (.bool (P x)) ∧ Below u.heap.size u w') :
    Calls Try.prog 48 #[.slice p n c, .func (.func 47) #[] #[.pointer (some ⟨ca, 0, none⟩), .pointer (some ⟨cb, 0, none⟩)]] w fun e w' => IdxRM P l n w w' e := by
  have HAT := Lib.hid h
  have HN := Lib.hid hn
  have HPP := Lib.hid HP
  clear h hn HP
  go_enter Try.func48, Try.ntmps48
  go_wp2_with fail
  go_loopw [8] (fun iv wr => ∃ k : Nat, k ≤ n ∧ iv = .int .i64 k ∧ (∀ x ∈ l.take k, P x = false) ∧ Below w.heap.size w wr) (fun iv _ => n - (intOf iv).toNat)
  case atStart => exact ⟨0, Nat.zero_le _, rfl, fun x hx => by simp at hx, Below.refl _ _⟩
  case round =>
    obtain ⟨k, hk, rfl, hall, hB⟩ := hrel
    have HB := Lib.hid hB
    have HALL := Lib.hid hall
    clear hB hall
    by_cases hlt : k < n
    · have hltI : (k : Int) < (n : Int) := by omega
      obtain ⟨b, off, rfl, c0⟩ := in_cell (HAT.out.below HB.out) HN.out hlt
      have HX := Lib.hid (takeI_snoc HN.out hlt)
      have hxm := getI_mem HN.out hlt
      obtain ⟨x, hx⟩ : ∃ x, l.getD k 0 = x := ⟨_, rfl⟩
      have HXE := Lib.hid hx
      rw [hx] at c0 HX hxm
      have HC := Lib.hid (HPP.out wr HB.out x hxm)
      obtain ⟨o, ho⟩ : ∃ o, P x = o := ⟨_, rfl⟩
      rw [ho] at HC
      have HO := Lib.hid ho
      clear hx hxm ho
      rcases o with _ | _
      · go_wp2_with (go_at_call 47; refine HC.out.mono ?_; rintro e u ⟨rfl, hu⟩)
        go_roundw
        case rel =>
          refine ⟨k + 1, by omega, by go_num, fun y hy => ?_, HB.out.trans (hu.mono HB.out.size)⟩
          rw [HX.out] at hy
          rcases List.mem_append.1 hy with hy | hy
          · exact HALL.out y hy
          · rw [List.mem_singleton] at hy; subst hy; exact HO.out
        case measure => simp [intOf]; omega
      · go_wp2_with (go_at_call 47; refine HC.out.mono ?_; rintro e u ⟨rfl, hu⟩)
        go_ret
        exact ⟨(k : Int), rfl, HB.out.trans (hu.mono HB.out.size), .inr ⟨k, rfl, hlt, by rw [HXE.out]; exact HO.out, HALL.out⟩⟩
    · obtain rfl : k = n := by omega
      have hkI : ¬ (k : Int) < (k : Int) := by omega
      have e : l.take k = l := List.take_of_length_le (by rw [HN.out]; exact Nat.le_refl _)
      have h := HALL.out
      rw [e] at h
      have HA2 := Lib.hid h
      clear h e
      go_wp2_with fail
      go_ret
      exact ⟨-1, rfl, HB.out, .inl ⟨rfl, HA2.out⟩⟩
end Go.Proofs.Ytljbebeaahcjaaa
