/- the document's meter: Over. -/
import Derived.Test.YtgididkpgncdjaaYB
import Derived.Test.YtgididkpgncdjaaZK
namespace Go.Proofs.Ytgididkpgncdjaa
open Go.RowKit Go.Maps
set_option linter.unusedVariables false
set_option linter.unusedSimpArgs false
set_option maxRecDepth 100000

theorem near_plus {a b : Int} (ha : 0 ≤ a) (hb : 0 ≤ b) : near (near a + b) = near (a + b) := by
  unfold near
  repeat' split
  all_goals omega
theorem near_nn (a : Int) : 0 ≤ near a := by
  unfold near
  repeat' split
  all_goals omega
def sumI : List Int → Int
  | [] => 0
  | x :: t => x + sumI t
theorem sumI_nn {α : Type} (f : α → Int) (l : List α) (h : ∀ x ∈ l, 0 ≤ f x) : 0 ≤ sumI (l.map f) := by
  induction l with
  | nil => exact Int.le_refl _
  | cons x t ih =>
    have h1 := h x List.mem_cons_self
    have h2 := ih fun y hy => h y (List.mem_cons_of_mem _ hy)
    simp only [List.map_cons, sumI]; omega
theorem sumI_near {α : Type} (f : α → Int) (l : List α) (h : ∀ x ∈ l, 0 ≤ f x) : near (sumI (l.map fun x => near (f x))) = near (sumI (l.map f)) := by
  induction l with
  | nil => rfl
  | cons x t ih =>
    have h1 := h x List.mem_cons_self
    have ht : ∀ y ∈ t, 0 ≤ f y := fun y hy => h y (List.mem_cons_of_mem _ hy)
    have h2 := sumI_nn f t ht
    have h3 := sumI_nn (fun x => near (f x)) t fun y hy => near_nn _
    simp only [List.map_cons, sumI]
    rw [near_plus h1 h3, Int.add_comm (f x), ← near_plus h3 h1, ih ht, near_plus h2 h1, Int.add_comm]
theorem sumI_add {α : Type} (f g : α → Int) (l : List α) : sumI (l.map fun x => f x + g x) = sumI (l.map f) + sumI (l.map g) := by
  induction l with
  | nil => rfl
  | cons x t ih => simp only [List.map_cons, sumI, ih]; omega
theorem sumI_zero {α : Type} (f : α → Int) (l : List α) (h : ∀ x ∈ l, f x = 0) : sumI (l.map f) = 0 := by
  induction l with
  | nil => rfl
  | cons x t ih =>
    simp only [List.map_cons, sumI]
    rw [h x List.mem_cons_self, ih fun y hy => h y (List.mem_cons_of_mem _ hy)]; rfl
theorem sumI_one (ps : List Pf) (hn : ps.Nodup) (q : Pf) (c : Int) (hq : q ∈ ps) : sumI (ps.map fun p => if q = p then c else 0) = c := by
  induction ps with
  | nil => cases hq
  | cons p t ih =>
    rw [List.nodup_cons] at hn
    simp only [List.map_cons, sumI]
    rcases List.mem_cons.1 hq with rfl | hm
    · rw [if_pos rfl, sumI_zero _ t fun y hy => if_neg (fun e => hn.1 (by rw [e]; exact hy))]; omega
    · rw [if_neg (fun e : q = p => hn.1 (e ▸ hm)), ih hn.2 hm]; omega
theorem tot_sum (ps : List Pf) (hn : ps.Nodup) (X : List Ct) (h : ∀ x ∈ X, x.p ∈ ps) : sumI (ps.map fun p => totP p X) = tot X := by
  induction X with
  | nil => exact sumI_zero _ _ fun _ _ => rfl
  | cons x t ih =>
    have e : (ps.map fun p => totP p (x :: t)) = ps.map fun p => (if x.p = p then x.c else 0) + totP p t := rfl
    rw [e, sumI_add, sumI_one ps hn x.p x.c (h x List.mem_cons_self), ih fun y hy => h y (List.mem_cons_of_mem _ hy)]
    rfl
theorem tot_map (l : List Ct) : tot l = sumI (l.map (·.c)) := by
  induction l with
  | nil => rfl
  | cons x t ih => simp only [tot, List.map_cons, sumI, ih]
theorem dem_tot {V : Nat → Mv} (hv : OkV V) {l : List Ct} (h : Dem V l) : near (tot l) = near (tot (allR V 16)) := by
  have hnn : ∀ x ∈ allR V 16, 0 ≤ x.c := fun x hx => by
    obtain ⟨i, hi, hx⟩ := allR_mem hx
    have := ((hv i hi).inR x hx).2.1
    omega
  rw [← tot_sum (l.map (·.p)) (srt_nodup h.srt) (allR V 16) fun x hx => (h.mem x.p).2 ⟨x, hx, rfl⟩]
  rw [← sumI_near _ _ fun p _ => totP_nn p hnn, tot_map, List.map_map]
  congr 2
  refine List.map_congr_left fun x hx => ?_
  rw [h.val x hx]
  unfold demV
  rw [← demS_tot hv x.p 16 (Nat.le_refl _)]
  rfl
theorem tot_take (l : List Ct) (k : Nat) (hk : k < l.length) : tot (l.take (k + 1)) = tot (l.take k) + (l.getD k Ct.zero).c := by
  rw [take_snoc l Ct.zero hk, tot_snoc]
set_option maxHeartbeats 8000000 in
theorem roverM_any (w : World) (x : Nat) (Z : Nat → Lz) (H : RfM w x Z) (V : Nat → Mv) (hrel : RelV V Z) (hok : OkV V) :
    Calls Try.prog 22 #[.pointer (some ⟨x, 0, none⟩)] w fun e w' => e = .returned (.bool (overV V)) ∧ Below w.heap.size w w' := by
  have HDM := Lib.hid (rdemandsM_any w x Z H V hrel hok)
  have HOK := Lib.hid hok
  obtain ⟨O, hO⟩ : ∃ o, overV V = o := ⟨_, rfl⟩
  have HO := Lib.hid hO
  rw [hO]
  clear H hrel hok hO
  go_enter Try.func22, Try.ntmps22
  go_wp2_with fail
  refine HDM.out.mono ?_
  rintro e W ⟨q, n, cap, l, rfl, hn, h16, hcp, hat, hdem, hb, _⟩
  have HN := Lib.hid hn
  have HAT := Lib.hid hat
  have HD := Lib.hid hdem
  have HB := Lib.hid hb
  clear hn hat hdem hb HDM
  go_wp2_with fail
  go_loopw [4, 5] (fun nv iv wr => ∃ k : Nat, k ≤ n ∧ iv = .int .i64 k ∧ nv = .int .i64 (near (tot (l.take k))) ∧ Below W.heap.size W wr) (fun _ iv _ => n - (intOf iv).toNat)
  case atStart => exact ⟨0, Nat.zero_le _, rfl, rfl, Below.refl _ _⟩
  case round =>
    obtain ⟨k, hk, rfl, rfl, hB⟩ := hrel
    have HB2 := Lib.hid hB
    clear hB
    by_cases hlt : k < n
    · have hlt' : (k : Int) < (n : Int) := by omega
      have k0 : (0 : Int) ≤ (k : Int) := by omega
      obtain ⟨b9, off, rfl, _, _, c2⟩ := ct_cell (HAT.out.below HB2.out) HN.out hlt
      have hkl : k < l.length := by rw [HN.out]; exact hlt
      have hnn : ∀ y ∈ l, 0 ≤ y.c := fun y hy => by rw [HD.out.val y hy]; exact near_nn _
      have HT := Lib.hid (show add (near (tot (l.take k))) ((l.getD k Ct.zero).c) = near (tot (l.take (k + 1))) from by
        rw [tot_take l k hkl]
        refine add_near (tot_nn fun y hy => hnn y (List.mem_of_mem_take hy)) (hnn _ ?_)
        rw [show l.getD k Ct.zero = l[k] by simp [List.getD, hkl]]
        exact List.getElem_mem hkl)
      obtain ⟨c, hc⟩ : ∃ c, (l.getD k Ct.zero).c = c := ⟨_, rfl⟩
      rw [hc] at c2 HT
      obtain ⟨D, hD⟩ : ∃ D, near (tot (l.take k)) = D := ⟨_, rfl⟩
      rw [hD] at HT ⊢
      have HA := Lib.hid (fun u => radd_any D c u)
      rw [HT.out] at HA
      clear hkl hnn hc hD
      go_wp2_with fail
      refine (HA.out _).mono ?_
      rintro e w' ⟨rfl, rfl⟩
      go_wp2_with fail
      go_roundw
      case rel => exact ⟨k + 1, by omega, by go_num, rfl, HB2.out⟩
      case measure => simp [intOf]; omega
    · obtain rfl : k = n := by omega
      have hov : O = decide (near (tot (l.take k)) = 9007199254740991) := by
        rw [← HO.out, List.take_of_length_le (by rw [HN.out]; exact Nat.le_refl _), dem_tot HOK.out HD.out]
        rfl
      obtain ⟨D, hD⟩ : ∃ D, near (tot (l.take k)) = D := ⟨_, rfl⟩
      rw [hD] at hov ⊢
      have HOV := Lib.hid hov
      clear hov hD
      go_wp2_with fail
      go_ret
      exact ⟨ret_bool HOV.out.symm, HB.out.trans (HB2.out.mono HB.out.size)⟩
end Go.Proofs.Ytgididkpgncdjaa
