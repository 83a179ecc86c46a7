/- nlri: prefixes with IDs in memory; Check. -/
import Derived.Test.YtgmcjejgginpjaaRGetB02
import Derived.Test.YtgmcjejgginpjaaByA
namespace Go.Proofs.Ytgmcjejgginpjaa
open Go.RowKit

theorem newB (w : World) (o : Obj) : Below w.heap.size w (w.alloc o) := (Below.refl _ _).alloc (Nat.le_refl _) o
/-- A prefix with its ID. -/
structure Nl where
  id : Int
  addr : Int
  len : Int
def Nl.none : Nl := ⟨0, 0, 0⟩
def nlV (x : Nl) : Value := .agg #[.int .i64 x.id, .int .u32 x.addr, .int .i64 x.len]
def nlC (x : Nl) : List Value := [.int .i64 x.id, .int .u32 x.addr, .int .i64 x.len]
/-- One in memory. -/
def NlAt (w : World) (b off : Nat) (x : Nl) : Prop :=
  w.cell? ⟨b, off, none⟩ = some (.int .i64 x.id) ∧ w.cell? ⟨b, off + 1, none⟩ = some (.int .u32 x.addr) ∧ w.cell? ⟨b, off + 2, none⟩ = some (.int .i64 x.len)
theorem NlAt.below {w w' : World} {b off : Nat} {x : Nl} (h : NlAt w b off x) (hb : Below w.heap.size w w') : NlAt w' b off x := ⟨kept hb h.1, kept hb h.2.1, kept hb h.2.2⟩
def InAddr (x : Nl) : Prop := 0 ≤ x.addr ∧ x.addr < 4294967296
/-- A slice of them, wherever it lies. -/
structure NlsAt (w : World) (p : Option Addr) (l : List Nl) : Prop where
  addr : ∀ i, i < l.length → InAddr (l.getD i Nl.none)
  at_ : l = [] ∨ ∃ b off, p = some ⟨b, off, none⟩ ∧ ∀ i, i < l.length → NlAt w b (off + i * 3) (l.getD i Nl.none)
theorem NlsAt.nil (w : World) (p : Option Addr) : NlsAt w p [] := ⟨fun i hi => by simp at hi, .inl rfl⟩
theorem NlsAt.below {w w' : World} {p : Option Addr} {l : List Nl} (h : NlsAt w p l) (hb : Below w.heap.size w w') : NlsAt w' p l :=
  ⟨h.addr, h.at_.imp id fun ⟨b, off, hp, hc⟩ => ⟨b, off, hp, fun i hi => (hc i hi).below hb⟩⟩
theorem nl_cell {w : World} {p : Option Addr} {l : List Nl} {n i : Nat} (h : NlsAt w p l) (hn : l.length = n) (hi : i < n) : ∃ b off, p = some ⟨b, off, none⟩ ∧ NlAt w b (off + i * 3) (l.getD i Nl.none) ∧ InAddr (l.getD i Nl.none) := by
  rcases h.at_ with h0 | ⟨b, off, hp, hc⟩
  · subst h0; simp at hn; omega
  · exact ⟨b, off, hp, hc i (by omega), h.addr i (by omega)⟩

def mostN (paths : Bool) : Int := if paths then 4294967295 else 0
def oddNl (most : Int) (x : Nl) : Bool := decide (x.id < 0) || (decide (most < x.id) || !okP x.addr x.len)
theorem oddN_any (g : Nat) (most id a n : Int) (w : World) (h : w.cell? ⟨g, 0, none⟩ = some (.int .i64 most)) :
    Calls Try.prog 25 #[.agg #[.int .i64 id, .int .u32 a, .int .i64 n], .pointer (some ⟨g, 0, none⟩)] w fun e w' => e = .returned (.bool (oddNl most ⟨id, a, n⟩)) ∧ Below w.heap.size w w' := by
  have hb := newB w (.cells #[.int .i64 id, .int .u32 a, .int .i64 n] 41)
  have hg := kept hb h
  have HB := Lib.hid hb
  have HC := Lib.hid (check_any a n (w.alloc (.cells #[.int .i64 id, .int .u32 a, .int .i64 n] 41)))
  by_cases h1 : id < 0
  · have HE := Lib.hid (show oddNl most ⟨id, a, n⟩ = true by unfold oddNl; rw [decide_eq_true h1]; rfl)
    clear h hb HC
    go_enter Try.func25, Try.ntmps25
    go_wp2_with fail
    go_ret
    exact ⟨by rw [HE.out] <;> rfl, HB.out⟩
  · have t1 : decide (id < 0) = false := decide_eq_false h1
    by_cases h2 : most < id
    · have HE := Lib.hid (show oddNl most ⟨id, a, n⟩ = true by unfold oddNl; rw [t1, decide_eq_true h2]; rfl)
      clear h hb HC h1
      go_enter Try.func25, Try.ntmps25
      go_wp2_with fail
      go_ret
      exact ⟨by rw [HE.out] <;> rfl, HB.out⟩
    · have t2 : decide (most < id) = false := decide_eq_false h2
      rcases hk : okP a n with _ | _
      · have HE := Lib.hid (show oddNl most ⟨id, a, n⟩ = true by unfold oddNl; simp only; rw [t1, t2, hk]; rfl)
        unfold errP at HC
        rw [hk] at HC
        clear h hb h1 h2 hk
        go_enter Try.func25, Try.ntmps25
        go_wp2_with fail
        refine HC.out.mono ?_; rintro e w1 ⟨rfl, hb1⟩
        have HB1 := Lib.hid (HB.out.trans (hb1.mono HB.out.size))
        clear hb1
        go_wp2_with fail
        go_ret
        exact ⟨by rw [HE.out] <;> rfl, HB1.out⟩
      · have HE := Lib.hid (show oddNl most ⟨id, a, n⟩ = false by unfold oddNl; simp only; rw [t1, t2, hk]; rfl)
        unfold errP at HC
        rw [hk] at HC
        clear h hb h1 h2 hk
        go_enter Try.func25, Try.ntmps25
        go_wp2_with fail
        refine HC.out.mono ?_; rintro e w1 ⟨rfl, hb1⟩
        have HB1 := Lib.hid (HB.out.trans (hb1.mono HB.out.size))
        clear hb1
        go_wp2_with fail
        go_ret
        exact ⟨by rw [HE.out] <;> rfl, HB1.out⟩

theorem any_take {α : Type} (f : α → Bool) (d : α) : ∀ (l : List α) (k : Nat), k < l.length → (l.take k).any f = false → f (l.getD k d) = true → l.any f = true
  | [], k, h, _, _ => by simp at h
  | a :: t, 0, _, _, h => by simp at h; simp [h]
  | a :: t, k + 1, h, h1, h2 => by
    simp only [List.take_succ_cons, List.any_cons, Bool.or_eq_false_iff] at h1
    have := any_take f d t k (by simpa using h) h1.2 (by simpa using h2)
    simp [this]
theorem any_step {α : Type} (f : α → Bool) (d : α) : ∀ (l : List α) (k : Nat), k < l.length → (l.take k).any f = false → f (l.getD k d) = false → (l.take (k + 1)).any f = false
  | [], k, h, _, _ => by simp at h
  | a :: t, 0, _, _, h => by simp at h; simp [h]
  | a :: t, k + 1, h, h1, h2 => by
    simp only [List.take_succ_cons, List.any_cons, Bool.or_eq_false_iff] at h1 ⊢
    exact ⟨h1.1, any_step f d t k (by simpa using h) h1.2 (by simpa using h2)⟩
def oddFn (g : Nat) : Value := .func (.func 25) #[] #[.pointer (some ⟨g, 0, none⟩)]
def IdxTo (b : Bool) (e : Ending) : Prop := ∃ i : Int, e = .returned (.int .i64 i) ∧ decide (0 ≤ i) = b
set_option maxHeartbeats 1000000 in
theorem nls_index (g : Nat) (most : Int) (p : Option Addr) (l : List Nl) (n c : Nat) (w : World) (hx : NlsAt w p l) (hn : l.length = n) (hm : n ≤ maxLen) (ho : w.cell? ⟨g, 0, none⟩ = some (.int .i64 most)) :
    Calls Try.prog 44 #[.slice p n c, oddFn g] w fun e w' => IdxTo (l.any (oddNl most)) e ∧ Below w.heap.size w w' := by
  unfold maxLen at hm
  have HX := Lib.hid hx
  have HN := Lib.hid hn
  have HO := Lib.hid ho
  unfold oddFn
  clear hx hn ho
  go_enter Try.func44, Try.ntmps44
  go_wp2
  go_loopw [8] (fun i wr => ∃ k : Nat, k ≤ n ∧ i = .int .i64 k ∧ (l.take k).any (oddNl most) = false ∧ Below w.heap.size w wr) (fun i _ => n - (intOf i).toNat)
  case atStart => exact ⟨0, Nat.zero_le _, rfl, rfl, Below.refl _ _⟩
  case round =>
    obtain ⟨k, hk, rfl, hf, hB⟩ := hrel
    have HF := Lib.hid hf
    have HB := Lib.hid hB
    clear hf hB
    by_cases hlt : k < n
    · obtain ⟨b, off, rfl, ⟨c0, c1, c2⟩, _⟩ := nl_cell (HX.out.below HB.out) HN.out hlt
      obtain ⟨x, hx⟩ : ∃ x, l.getD k Nl.none = x := ⟨_, rfl⟩
      rw [hx] at c0 c1 c2
      have HXK := Lib.hid hx
      have HOB := Lib.hid (oddN_any g most x.id x.addr x.len wr (kept HB.out HO.out))
      obtain ⟨id, a, ln⟩ := x
      simp only at c0 c1 c2 HOB
      clear hx
      rcases hb : oddNl most ⟨id, a, ln⟩ with _ | _
      · rw [hb] at HOB
        go_wp2_with (go_at_call 25; refine HOB.out.mono ?_; rintro e w2 ⟨rfl, hb2⟩; have HB2 := Lib.hid (HB.out.trans (hb2.mono HB.out.size)); clear hb2)
        go_roundw
        case rel => exact ⟨k + 1, by omega, by go_num, any_step _ Nl.none l k (by rw [HN.out]; exact hlt) HF.out (by rw [HXK.out]; exact hb), HB2.out⟩
        case measure => simp [intOf]; omega
      · rw [hb] at HOB
        go_wp2_with (go_at_call 25; refine HOB.out.mono ?_; rintro e w2 ⟨rfl, hb2⟩; have HB2 := Lib.hid (HB.out.trans (hb2.mono HB.out.size)); clear hb2)
        go_ret
        exact ⟨⟨k, rfl, by rw [any_take _ Nl.none l k (by rw [HN.out]; exact hlt) HF.out (by rw [HXK.out]; exact hb)]; simp⟩, HB2.out⟩
    · obtain rfl : k = n := by omega
      go_wp2
      go_ret
      refine ⟨⟨-1, rfl, ?_⟩, HB.out⟩
      have := HF.out
      rw [List.take_of_length_le (by rw [HN.out]; exact Nat.le_refl _)] at this
      rw [this]; rfl
theorem nls_contains (g : Nat) (most : Int) (p : Option Addr) (l : List Nl) (n c : Nat) (w : World) (hx : NlsAt w p l) (hn : l.length = n) (hm : n ≤ maxLen) (ho : w.cell? ⟨g, 0, none⟩ = some (.int .i64 most)) :
    Calls Try.prog 27 #[.slice p n c, oddFn g] w fun e w' => e = .returned (.bool (l.any (oddNl most))) ∧ Below w.heap.size w w' := by
  have HI := Lib.hid (nls_index g most p l n c w hx hn hm ho)
  unfold oddFn at *
  clear hx hn ho hm
  go_enter Try.func27, Try.ntmps27
  go_wp2_with fail
  refine HI.out.mono ?_; rintro e w1 ⟨⟨i, rfl, hi'⟩, hb⟩
  have HD := Lib.hid hi'
  have HB := Lib.hid hb
  clear hi' hb
  go_wp2_with fail
  go_ret
  exact ⟨ret_bool HD.out, HB.out⟩
/-- Whether all may be told. -/
def okNls (l : List Nl) (paths : Bool) : Bool := decide (l.length ≤ 1024) && !(l.any (oddNl (mostN paths)))
def errNls (l : List Nl) (paths : Bool) : Int := if okNls l paths then 0 else 60
theorem checkNl_any (p : Option Addr) (l : List Nl) (n c : Nat) (paths : Bool) (w : World) (hx : NlsAt w p l) (hn : l.length = n) (hm : n ≤ maxLen) :
    Calls Try.prog 11 #[.slice p n c, .bool paths] w fun e w' => e = .returned (.int .i64 (errNls l paths)) ∧ Below w.heap.size w w' := by
  have HE := Lib.hid (show errNls l paths = if decide (n ≤ 1024) && !(l.any (oddNl (mostN paths))) then 0 else 60 by unfold errNls okNls; rw [hn])
  obtain ⟨r, hr⟩ : ∃ r, errNls l paths = r := ⟨_, rfl⟩
  rw [hr] at HE ⊢
  have HX := Lib.hid hx
  have HN := Lib.hid hn
  have HM := Lib.hid hm
  clear hr
  obtain ⟨W, hW⟩ : ∃ W, w.alloc (.cells #[.int .i64 (mostN paths)] 3) = W := ⟨_, rfl⟩
  have HB := Lib.hid (show Below w.heap.size w W by rw [← hW]; exact newB _ _)
  have hG : Blk W w.heap.size 3 [.int .i64 (mostN paths)] := by rw [← hW]; exact Blk.new w 3 [.int .i64 (mostN paths)]
  have HC := Lib.hid (nls_contains w.heap.size (mostN paths) p l n c W (hx.below HB.out) hn hm (hG.cell 0 (by simp)))
  unfold oddFn at HC
  by_cases h : n ≤ 1024
  · have t1 : decide ((1024 : Int) < (n : Int)) = false := by simp; omega
    rw [decide_eq_true h, Bool.true_and] at HE
    rcases ha : l.any (oddNl (mostN paths)) with _ | _
    · rw [ha] at HE HC
      cases paths
      · have HW := Lib.hid (show w.alloc (.cells #[.int .i64 0] 3) = W from hW)
        clear hx hn hm hG h ha hW
        go_enter Try.func11, Try.ntmps11
        go_wp2_with fail
        rw [HW.out]
        refine HC.out.mono ?_; rintro e w1 ⟨rfl, hb⟩
        have HB1 := Lib.hid (HB.out.trans (hb.mono HB.out.size))
        clear hb
        go_wp2_with fail
        go_ret
        exact ⟨by rw [HE.out] <;> rfl, HB1.out⟩
      · have HW := Lib.hid (show w.alloc (.cells #[.int .i64 4294967295] 3) = W from hW)
        clear hx hn hm hG h ha hW
        go_enter Try.func11, Try.ntmps11
        go_wp2_with fail
        rw [HW.out]
        refine HC.out.mono ?_; rintro e w1 ⟨rfl, hb⟩
        have HB1 := Lib.hid (HB.out.trans (hb.mono HB.out.size))
        clear hb
        go_wp2_with fail
        go_ret
        exact ⟨by rw [HE.out] <;> rfl, HB1.out⟩
    · rw [ha] at HE HC
      cases paths
      · have HW := Lib.hid (show w.alloc (.cells #[.int .i64 0] 3) = W from hW)
        clear hx hn hm hG h ha hW
        go_enter Try.func11, Try.ntmps11
        go_wp2_with fail
        rw [HW.out]
        refine HC.out.mono ?_; rintro e w1 ⟨rfl, hb⟩
        have HB1 := Lib.hid (HB.out.trans (hb.mono HB.out.size))
        clear hb
        go_wp2_with fail
        go_ret
        exact ⟨by rw [HE.out] <;> rfl, HB1.out⟩
      · have HW := Lib.hid (show w.alloc (.cells #[.int .i64 4294967295] 3) = W from hW)
        clear hx hn hm hG h ha hW
        go_enter Try.func11, Try.ntmps11
        go_wp2_with fail
        rw [HW.out]
        refine HC.out.mono ?_; rintro e w1 ⟨rfl, hb⟩
        have HB1 := Lib.hid (HB.out.trans (hb.mono HB.out.size))
        clear hb
        go_wp2_with fail
        go_ret
        exact ⟨by rw [HE.out] <;> rfl, HB1.out⟩
  · have t1 : decide ((1024 : Int) < (n : Int)) = true := by simp; omega
    rw [decide_eq_false h, Bool.false_and] at HE
    cases paths
    · have HW := Lib.hid (show w.alloc (.cells #[.int .i64 0] 3) = W from hW)
      clear hx hn hm hG h hW HC
      go_enter Try.func11, Try.ntmps11
      go_wp2_with fail
      go_ret
      exact ⟨by rw [HE.out] <;> rfl, by rw [HW.out]; exact HB.out⟩
    · have HW := Lib.hid (show w.alloc (.cells #[.int .i64 4294967295] 3) = W from hW)
      clear hx hn hm hG h hW HC
      go_enter Try.func11, Try.ntmps11
      go_wp2_with fail
      go_ret
      exact ⟨by rw [HE.out] <;> rfl, by rw [HW.out]; exact HB.out⟩
end Go.Proofs.Ytgmcjejgginpjaa
