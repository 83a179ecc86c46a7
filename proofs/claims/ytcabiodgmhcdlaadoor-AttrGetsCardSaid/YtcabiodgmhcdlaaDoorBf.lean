/- AttrGets: what is fine may be; the walk. -/
import Derived.Test.YtcabiodgmhcdlaaDoorBe
import Derived.Test.YtcabiodgmhcdlaaDoorAM
namespace Go.Proofs.YtcabiodgmhcdlaaDoor
open Go.RowKit

structure MayA (four : Bool) (s : At × Int) : Prop where
  origin : oddB 0 2 s.1.origin = false
  path : okPath s.1.path four = true
  next : seenB s.2 3 = true → s.1.next ≠ 0
  med : oddB (-1) 4294967295 s.1.med = false
  pref : oddB (-1) 4294967295 s.1.pref = false
  comms : okComms s.1.comms = true
  th : s.2 ∈ allTh
theorem getV_four {xs : List Int} (hb : InByte xs) (h : xs.length = 4) : 0 ≤ getV xs ∧ getV xs ≤ 4294967295 := by
  have h4 := getV_bd xs hb 4 (by omega)
  rw [List.take_of_length_le (by omega)] at h4
  have : (256 : Int) ^ 4 = 4294967296 := by decide
  omega
theorem may_take {four : Bool} {s s' : At × Int} {fl : Int} {k : Nat} {xs : List Int} (hs : MayA four s) (hb : InByte xs) (hk : k ≤ 255) (h : takeV four s fl k xs = some s') : MayA four s' := by
  have hth := takeV_th hk h hs.th
  by_cases hunk : flagsL.getD k 0 = 0
  · unfold takeV at h
    rw [if_pos hunk] at h
    split at h
    · cases h; exact hs
    · cases h
  · have hk6 := known_six hunk
    have hu : takeV four s fl k xs = if seenB s.2 k then some s else if baseV fl = flagsL.getD k 0 then (readV four s.1 k xs).map (fun a => (a, setT s.2 k)) else none := by unfold takeV; rw [if_neg hunk]
    rw [hu] at h
    rcases hsn : seenB s.2 k with _ | _
    · rw [hsn, if_neg (by decide)] at h
      split at h
      · rcases hr : readV four s.1 k xs with _ | a
        · rw [hr] at h; cases h
        · rw [hr] at h
          cases h
          have hset : seenB (setT s.2 k) 3 = (3 == k || seenB s.2 3) := seen_set s.2 hs.th k (by simpa using hk6) 3 (by decide)
          rcases hk6 with rfl | rfl | rfl | rfl | rfl | rfl
          · rw [readV_1] at hr
            split at hr
            · rename_i hc; cases hr
              exact ⟨hc.2, hs.path, fun h => hs.next (by rw [← show seenB (setT s.2 1) 3 = seenB s.2 3 from hset]; exact h), hs.med, hs.pref, hs.comms, hth⟩
            · cases hr
          · have h2 : readV four s.1 2 xs = (match pathG (wideA four) (xs.length + 1) xs with
              | some l => if okPath l four then some { s.1 with path := l } else none
              | none => none) := rfl
            rw [h2] at hr
            split at hr
            · split at hr
              · rename_i hc; cases hr
                exact ⟨hs.origin, hc, fun h => hs.next (by rw [← show seenB (setT s.2 2) 3 = seenB s.2 3 from hset]; exact h), hs.med, hs.pref, hs.comms, hth⟩
              · cases hr
            · cases hr
          · rw [readV_3] at hr
            split at hr
            · rename_i hc; cases hr
              exact ⟨hs.origin, hs.path, fun _ => hc.2, hs.med, hs.pref, hs.comms, hth⟩
            · cases hr
          · rw [readV_4] at hr
            split at hr
            · rename_i hc; cases hr
              have := getV_four hb hc
              exact ⟨hs.origin, hs.path, fun h => hs.next (by rw [← show seenB (setT s.2 4) 3 = seenB s.2 3 from hset]; exact h), by simp [oddB]; omega, hs.pref, hs.comms, hth⟩
            · cases hr
          · rw [readV_5] at hr
            split at hr
            · rename_i hc; cases hr
              have := getV_four hb hc
              exact ⟨hs.origin, hs.path, fun h => hs.next (by rw [← show seenB (setT s.2 5) 3 = seenB s.2 3 from hset]; exact h), hs.med, by simp [oddB]; omega, hs.comms, hth⟩
            · cases hr
          · rw [readV_8] at hr
            split at hr
            · rename_i hc; cases hr
              exact ⟨hs.origin, hs.path, fun h => hs.next (by rw [← show seenB (setT s.2 8) 3 = seenB s.2 3 from hset]; exact h), hs.med, hs.pref, hc.2.2, hth⟩
            · cases hr
      · cases h
    · rw [hsn, if_pos rfl] at h; cases h; exact hs
theorem may_get {four : Bool} : ∀ (f : Nat) (s s' : At × Int) (xs : List Int), MayA four s → InByte xs → getS four f s xs = some s' → MayA four s'
  | 0, s, s', xs, hs, _, h => by
    have : s = s' := by cases xs <;> exact Option.some.inj h
    exact this ▸ hs
  | f + 1, s, s', [], hs, _, h => (Option.some.inj h : s = s') ▸ hs
  | f + 1, s, s', x :: t, hs, hb, h => by
    have htb := inByte_tail hb
    rw [getS_read four f s x t htb] at h
    rcases h4 : nextV (numNext (numNext (some t) 1) (wideOf x : Nat)) (numV (numNext (some t) 1) (wideOf x : Nat)) with _ | ys
    · rw [h4] at h; cases h
    · rw [h4, Option.bind_some] at h
      have i1 := numNext_in (n := 1) (s := some t) (L := t.length) (fun zs hz => by obtain rfl := Option.some.inj hz; exact ⟨Nat.le_refl _, htb⟩)
      have i2 := numNext_in (n := (wideOf x : Nat)) i1
      have i3 := nextV_in (n := numV (numNext (some t) 1) (wideOf x : Nat)) i2
      have hdb : InByte (outV (numNext (numNext (some t) 1) (wideOf x : Nat)) (numV (numNext (some t) 1) (wideOf x : Nat))) := by
        unfold outV
        split
        · rcases hq : numNext (numNext (some t) 1) (wideOf x : Nat) with _ | zs
          · intro i hi; simp at hi
          · exact inByte_take (i2 zs hq).2 _
        · intro i hi; simp at hi
      have hkb : (numV (some t) 1).toNat ≤ 255 := by
        rcases t with _ | ⟨k, r⟩
        · rw [show numV (some []) 1 = 0 from (numV_no (wide := 1) (xs := []) (by simp)).1]; decide
        · rw [(numV_one k r).1]
          have := inByte_cons htb
          omega
      rcases ht : takeV four s x (numV (some t) 1).toNat (outV (numNext (numNext (some t) 1) (wideOf x : Nat)) (numV (numNext (some t) 1) (wideOf x : Nat))) with _ | s2
      · rw [ht] at h; cases h
      · rw [ht, Option.bind_some] at h
        exact may_get f s2 s' ys (may_take hs hdb hkb ht) (i3 ys h4).2 h
theorem may_start (four : Bool) : MayA four (At.start, 0) := by
  refine ⟨by decide, by cases four <;> decide, fun h => ?_, by decide, by decide, by decide, by decide⟩
  exact absurd h (by decide +kernel)
theorem getA_fine (xs : List Int) (four : Bool) (hb : InByte xs) (h : (getA xs four).2 = 1) : okA (getA xs four).1 four = true := by
  unfold getA at h ⊢
  rcases hg : getS four (xs.length + 1) (At.start, 0) xs with _ | s
  · rw [hg] at h; cases h
  · rw [hg] at h
    have hm := may_get _ _ _ _ (may_start four) hb hg
    unfold finA at h ⊢
    by_cases hw : wholeB s.2 = true
    · simp only [hw, if_true] at h ⊢
      have h3 : seenB s.2 3 = true := by
        have := whole_seen s.2 hm.th
        rw [hw] at this
        simp at this
        exact this.2.2
      have hn := hm.next h3
      unfold okA
      rw [hm.origin, hm.path, hm.med, hm.pref, hm.comms]
      simp [hn]
    · simp only [hw] at h
      simp at h
theorem getA_verdict (xs : List Int) (four : Bool) : (getA xs four).2 = 1 ∨ (getA xs four).2 = 2 ∨ (getA xs four).2 = 3 := by
  unfold getA finA
  split
  · exact .inr (.inr rfl)
  · split
    · exact .inl rfl
    · exact .inr (.inl rfl)
end Go.Proofs.YtcabiodgmhcdlaaDoor
