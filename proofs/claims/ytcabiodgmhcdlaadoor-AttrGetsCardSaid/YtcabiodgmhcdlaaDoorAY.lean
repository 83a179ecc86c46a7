/- The document's communities. -/
import Derived.Test.YtcabiodgmhcdlaaDoorAX
namespace Go.Proofs.YtcabiodgmhcdlaaDoor
open Go.RowKit

theorem listV_nil (f wide : Nat) : listV f wide [] = ([], true) := by cases f <;> rfl
theorem listV_step {f wide : Nat} {xs : List Int} (h0 : 0 < xs.length) (h : wide ≤ xs.length) : listV (f + 1) wide xs = (getV (xs.take wide) :: (listV f wide (xs.drop wide)).1, (listV f wide (xs.drop wide)).2) := by
  rcases xs with _ | ⟨x, t⟩
  · simp at h0
  · rw [listV, if_pos h]
theorem listV_cut {f wide : Nat} {xs : List Int} (h0 : 0 < xs.length) (h : xs.length < wide) : listV (f + 1) wide xs = ([0], false) := by
  rcases xs with _ | ⟨x, t⟩
  · simp at h0
  · rw [listV, if_neg (by omega)]
theorem inByte_drop {xs : List Int} (h : InByte xs) (n : Nat) : InByte (xs.drop n) := fun i hi => by
  have hl : n + i < xs.length := by simp at hi; omega
  have := h (n + i) hl
  simpa [List.getD] using this
theorem listV_even (wide : Nat) (h1 : 1 ≤ wide) : ∀ (m f : Nat) (xs : List Int), xs.length = wide * m → xs.length < f → InByte xs → (listV f wide xs).2 = true ∧ (listV f wide xs).1.length = m ∧ ∀ y ∈ (listV f wide xs).1, 0 ≤ y ∧ y < 256 ^ wide
  | 0, f, xs, hl, _, _ => by
    have : xs = [] := List.eq_nil_of_length_eq_zero (by simpa using hl)
    subst this
    rw [listV_nil]
    exact ⟨rfl, rfl, fun y hy => by cases hy⟩
  | m + 1, 0, xs, hl, hf, _ => by omega
  | m + 1, f + 1, xs, hl, hf, hb => by
    have hw : wide ≤ xs.length := by rw [hl, Nat.mul_succ]; omega
    obtain ⟨i1, i2, i3⟩ := listV_even wide h1 m f (xs.drop wide) (by rw [List.length_drop, hl, Nat.mul_succ]; omega) (by rw [List.length_drop]; omega) (inByte_drop hb wide)
    rw [listV_step (by omega) hw]
    refine ⟨i1, by simp [i2], fun y hy => ?_⟩
    rcases List.mem_cons.1 hy with rfl | hy
    · exact getV_bd xs hb wide hw
    · exact i3 y hy
theorem listV_odd (wide : Nat) (h1 : 1 ≤ wide) : ∀ (f : Nat) (xs : List Int), xs.length % wide ≠ 0 → xs.length < f → (listV f wide xs).2 = false
  | 0, xs, _, hf => by omega
  | f + 1, xs, hl, hf => by
    have h0 : 0 < xs.length := by
      rcases Nat.eq_zero_or_pos xs.length with h | h
      · rw [h] at hl; simp at hl
      · exact h
    by_cases hw : wide ≤ xs.length
    · rw [listV_step h0 hw]
      refine listV_odd wide h1 f (xs.drop wide) ?_ (by rw [List.length_drop]; omega)
      rw [List.length_drop]
      intro h
      apply hl
      rw [Nat.mod_eq_sub_mod hw]
      exact h
    · rw [listV_cut h0 (by omega)]

/-- The document's communities: none, they may not be. -/
def commsG (xs : List Int) : Option (List Int) := if xs.length = 0 ∨ xs.length % 4 ≠ 0 ∨ 128 < xs.length then none else some (listV (xs.length + 1) 4 xs).1
theorem okComms_yes {l : List Int} (h : l.length ≤ 32) (hb : ∀ y ∈ l, 0 ≤ y ∧ y < 256 ^ 4) : okComms l = true := by
  unfold okComms
  have : l.any (oddB 0 4294967295) = false := by
    rw [List.any_eq_false]
    intro y hy
    have := hb y hy
    have h4 : (256 : Int) ^ 4 = 4294967296 := by decide
    simp [oddB]; omega
  rw [this]; simp [h]
theorem okComms_len {l : List Int} (h : 32 < l.length) : okComms l = false := by
  unfold okComms
  rw [decide_eq_false (by omega)]; rfl
theorem readV_comms (four : Bool) (a : At) (xs : List Int) (hb : InByte xs) : readV four a 8 xs = (commsG xs).map (fun l => { a with comms := l }) := by
  rw [readV_8]
  unfold commsG
  by_cases h0 : xs.length = 0
  · have : xs = [] := List.eq_nil_of_length_eq_zero h0
    subst this
    rw [if_neg (by rw [listV_nil]; simp), if_pos (.inl rfl)]; rfl
  · by_cases hm : xs.length % 4 = 0
    · obtain ⟨m, hl⟩ : ∃ m, xs.length = 4 * m := ⟨xs.length / 4, by omega⟩
      obtain ⟨i1, i2, i3⟩ := listV_even 4 (by omega) m (xs.length + 1) xs hl (Nat.lt_succ_self _) hb
      by_cases h8 : 128 < xs.length
      · rw [if_neg (fun h => by rw [okComms_len (by omega)] at h; exact absurd h.2.2 (by decide)), if_pos (.inr (.inr h8))]; rfl
      · rw [if_pos ⟨i1, by omega, okComms_yes (by omega) i3⟩, if_neg (by omega)]; rfl
    · rw [if_neg (fun h => by rw [listV_odd 4 (by omega) _ _ hm (Nat.lt_succ_self _)] at h; exact absurd h.1 (by decide)), if_pos (.inr (.inl hm))]; rfl

def CommsTo (w w' : World) (r : Option (List Int)) (e : Ending) : Prop :=
  match r with
  | some l => ∃ v, e = .returned (.tuple #[v, .bool true]) ∧ w'.ownsRow w.heap.size 3 1 v l.length (l.map (Value.int .i64)) ∧ Below w.heap.size w w'
  | none => e = .returned (.tuple #[.slice none 0 0, .bool false]) ∧ w = w'
def CommRel (w : World) (xs R : List Int) (gk : Nat) (v iv : Value) (wr : World) : Prop :=
  ∃ (acc : List Int) (m : Nat) (q : Option Addr) (cap i f : Nat), v = .slice q m cap ∧ iv = .int .i64 i ∧ acc.length = m ∧ wr.ownsRow w.heap.size 3 1 (.slice q m cap) m (acc.map (Value.int .i64)) ∧ Below w.heap.size w wr ∧
    i ≤ xs.length ∧ i % 4 = 0 ∧ m ≤ i ∧ xs.length - i < f ∧ acc ++ (listV f 4 (xs.drop i)).1 = R ∧ gk = xs.length - i

set_option maxRecDepth 100000 in
set_option maxHeartbeats 2000000 in
theorem rcomms_any (p : Option Addr) (xs : List Int) (n c : Nat) (w : World) (hb : BytesAt w p xs) (hn : xs.length = n) (hc : n ≤ c) (hl : n ≤ 1000000) :
    Calls Tryd.prog 63 #[.slice p n c] w fun e w' => CommsTo w w' (commsG xs) e := by
  by_cases h0 : n = 0
  · rw [show commsG xs = none from if_pos (.inl (by omega))]
    subst h0
    clear hb hn
    go_enter Tryd.func63, Tryd.ntmps63
    go_wp2_with fail
    go_ret2
    exact ⟨rfl, rfl⟩
  · by_cases hm : n % 4 = 0
    · by_cases h8 : 128 < n
      · rw [show commsG xs = none from if_pos (.inr (.inr (by omega)))]
        clear hb hn
        go_enter Tryd.func63, Tryd.ntmps63
        go_wp2_with fail
        go_ret2
        exact ⟨rfl, rfl⟩
      · obtain ⟨R, hR⟩ : ∃ R, (listV (xs.length + 1) 4 xs).1 = R := ⟨_, rfl⟩
        rw [show commsG xs = some R from (if_neg (by omega)).trans (congrArg some hR)]
        have HR := Lib.hid hR
        have HN := Lib.hid hn
        have HB := Lib.hid hb
        have t0 : ((n : Int) == 0) = false := by simp; omega
        have t2 : decide (128 < (n : Int)) = false := by simp; omega
        clear hb hn hR
        go_enter Tryd.func63, Tryd.ntmps63
        go_wp2_with fail
        go_loopg [4, 5] n (fun k v iv wr => CommRel w xs R k v iv wr)
        case atStart => exact ⟨[], 0, none, 0, 0, _, rfl, rfl, rfl, World.ownsRow_nil _ _ _ _, Below.refl _ _, Nat.zero_le _, rfl, Nat.le_refl _, Nat.lt_succ_self _, by simpa using HR.out, by rw [HN.out]; rfl⟩
        case round =>
          obtain ⟨acc, m, q, cap, i, f, rfl, rfl, hm2, hown, hbel, hi, hi4, hmi, hf, hp, hk⟩ := hrel
          have HM := Lib.hid hm2
          have HO := Lib.hid hown
          have HBL := Lib.hid hbel
          have HP := Lib.hid hp
          clear hm2 hown hbel hp HR
          rw [HN.out] at hi hf hk
          by_cases hlt : i < n
          · have hi4n : i + 4 ≤ n := by omega
            obtain ⟨f, rfl⟩ : ∃ f', f = f' + 1 := ⟨f - 1, by omega⟩
            have hdl : (xs.drop i).length = n - i := by rw [List.length_drop, HN.out]
            have HE := Lib.hid (listV_step (f := f) (wide := 4) (xs := xs.drop i) (by omega) (by omega))
            obtain ⟨y, hy⟩ : ∃ y, getV ((xs.drop i).take 4) = y := ⟨_, rfl⟩
            have htd : (xs.take (i + 4)).drop i = (xs.drop i).take 4 := by rw [List.drop_take]; congr 1; omega
            have htl : ((xs.take (i + 4)).drop i).length = 4 := by rw [htd, List.length_take, hdl]; omega
            have hby := (HB.out.below HBL.out).cut c i (i + 4) (by omega) (by rw [HN.out]; exact hi4n) (by rw [HN.out]; exact hc)
            have hg := rget_any (cutP p c i) ((xs.take (i + 4)).drop i) (c - i) wr (by omega) hby
            rw [htl, htd, hy] at hg
            have HG := Lib.hid hg
            have E1 := fun u => run_cut u p n c (i : Int) ((i : Int) + 4) i (i + 4) rfl (by omega) (by omega) (by omega)
            rw [show i + 4 - i = 4 from by omega] at E1
            rw [hy] at HE
            clear hy htd htl hby hg hdl
            go_wp2_with fail
            refine HG.out.mono ?_; rintro e w2 ⟨rfl, rfl⟩
            have HO2 := Lib.hid (HO.out.alloc (.cells #[.int .i64 y] 3))
            have HB2 := Lib.hid (HBL.out.trans ((new_below wr (.cells #[.int .i64 y] 3)).mono HBL.out.size))
            have HC := Lib.hid (show (wr.alloc (.cells #[.int .i64 y] 3)).cell? ⟨wr.heap.size, 0, none⟩ = some (.int .i64 y) from (Blk.new wr 3 [.int .i64 y]).cell 0 (by simp))
            clear HG E1
            go_wp2_with (refine wpList_appi (o := ⟨some 34, _, _, _, _, _⟩) (by rfl) (.tmp 26) (.tmp 33) (by rfl) w.heap.size q cap m acc HO2.out (by rfl) wr.heap.size y (by rfl) HC.out (by omega) HB2.out.size ?_; intro q3 cap3 w3 hO3 hG3)
            have HRB := Lib.hid (fun r hr => (show w.heap.size ≤ r from row_block HO2.out r hr))
            go_roundg (n - (i + 4))
            case rel =>
              refine ⟨acc ++ [y], m + 1, q3, cap3, i + 4, f, rfl, rfl, by rw [List.length_append, HM.out]; rfl, hO3.out, HB2.out.trans ((Below.refl _ _).grown hG3.out HB2.out.size HRB.out), by rw [HN.out]; omega, by omega, by omega, by rw [HN.out]; omega, ?_, by rw [HN.out]⟩
              rw [← HP.out, HE.out, List.drop_drop]
              simp
            case measure => omega
          · have hin : i = n := by omega
            subst hin
            have hdn : xs.drop i = [] := List.drop_eq_nil_of_le (by rw [HN.out]; exact Nat.le_refl _)
            have HDN := Lib.hid hdn
            clear hdn
            go_wp2_with fail
            go_ret2
            refine ⟨_, rfl, ?_, HBL.out⟩
            rw [← HP.out, HDN.out, listV_nil, List.append_nil, HM.out]
            exact HO.out
    · rw [show commsG xs = none from if_pos (.inr (.inl (by omega)))]
      clear hb hn
      go_enter Tryd.func63, Tryd.ntmps63
      go_wp2_with fail
      go_ret2
      exact ⟨rfl, rfl⟩
end Go.Proofs.YtcabiodgmhcdlaaDoor
