/- fsm: is an act of a kind among acts. -/
import Derived.Test.YtbacnjijfffobaaHC
namespace Go.Proofs.Ytbacnjijfffobaa
open Go.RowKit

def hasB (kind : Int) (l : List Ac) : Bool := l.any (fun a => a.kind == kind)
theorem hasB_step {kind : Int} {l : List Ac} {k : Nat} (hk : k < l.length) (h : hasB kind (l.take k) = false) (hx : ((l.getD k Ac.zero).kind == kind) = false) : hasB kind (l.take (k + 1)) = false := by
  unfold hasB at *
  rw [List.take_add_one, List.any_append, h]
  simp [List.getElem?_eq_getElem hk]
  simp [List.getD, List.getElem?_eq_getElem hk] at hx
  exact hx
theorem hasB_hit {kind : Int} {l : List Ac} {k : Nat} (hk : k < l.length) (hx : (l.getD k Ac.zero).kind = kind) : hasB kind l = true := by
  unfold hasB
  rw [List.any_eq_true]
  refine ⟨l[k], List.getElem_mem hk, ?_⟩
  simp [List.getD, List.getElem?_eq_getElem hk] at hx
  simp [hx]
theorem ActsAt.kind {w : World} {g n : Nat} {l : List Ac} (h : ActsAt w g n l) (hn : l.length = n) {k : Nat} (hk : k < n) : w.cell? ⟨g, k * 5, none⟩ = some (.int .i64 (l.getD k Ac.zero).kind) := by
  have := h.2 (k * 5) (by omega)
  rw [this]
  have := acells_get l k (by omega) 0 (by omega)
  rw [Nat.add_zero] at this
  rw [this]; rfl
theorem has_any (kind : Int) (g n cap : Nat) (l : List Ac) (w : World) (h : ActsAt w g n l) (hn : l.length = n) (hm : n ≤ 1000) :
    Calls Try.prog 9 #[.slice (some ⟨g, 0, none⟩) n cap, .int .i64 kind] w fun e w' => e = .returned (.bool (hasB kind l)) ∧ w = w' := by
  have HX := Lib.hid h
  have HN := Lib.hid hn
  clear h hn
  obtain ⟨R, hR⟩ : ∃ R, hasB kind l = R := ⟨_, rfl⟩
  have HR := Lib.hid hR
  rw [hR]
  clear hR
  go_enter Try.func9, Try.ntmps9
  go_wp2
  go_loop [5] (fun i => ∃ k : Nat, k ≤ n ∧ i = .int .i64 k ∧ hasB kind (l.take k) = false) (fun i => n - (intOf i).toNat)
  case atStart => exact ⟨0, Nat.zero_le _, rfl, rfl⟩
  case round =>
    obtain ⟨k, hk, rfl, hf⟩ := hrel
    have HF := Lib.hid hf
    clear hf
    by_cases hlt : k < n
    · have hc := HX.out.kind HN.out hlt
      obtain ⟨x, hx⟩ : ∃ x, (l.getD k Ac.zero).kind = x := ⟨_, rfl⟩
      rw [hx] at hc
      have HXK := Lib.hid hx
      clear hx
      by_cases hb : x = kind
      · subst hb
        go_wp2
        go_ret
        exact ⟨by rw [← HR.out, hasB_hit (by rw [HN.out]; exact hlt) HXK.out]; rfl, rfl⟩
      · have hb' : (x == kind) = false := by simpa using hb
        have HB2 := Lib.hid hb'
        clear hb
        go_wp2
        go_round
        case rel => exact ⟨k + 1, by omega, by go_num, hasB_step (by rw [HN.out]; exact hlt) HF.out (by rw [HXK.out]; exact HB2.out)⟩
        case measure => simp [intOf]; omega
    · obtain rfl : k = n := by omega
      go_wp2
      go_ret
      refine ⟨?_, rfl⟩
      have := HF.out
      rw [List.take_of_length_le (by rw [HN.out]; exact Nat.le_refl _)] at this
      rw [← HR.out, this]; rfl
end Go.Proofs.Ytbacnjijfffobaa
