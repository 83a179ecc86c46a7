/- nlri: prefixes with IDs in memory; Check. / nlri: Put. / nlri: first; a list of one's own. / nlri: Get. / The document's own One, Check, Bytes, Put of prefixes with IDs. / nlri: the answer's Put; its Same, of the same list. / nlri: the answer's Get. / nlri: Size. / nlri: what is put is got, in numbers. -/
import Derived.Test.YtpeagakpmjnelaaDoorUqA
import Derived.Test.YtpeagakpmjnelaaDoorByA
import Derived.Laws.AppendOwn
import Derived.Deep.Onto
import Derived.Deep.LoopGhost
namespace Go.Proofs.YtpeagakpmjnelaaDoor
open Go.RowKit

theorem newB (w : World) (o : Obj) : Below w.heap.size w (w.alloc o) := (Below.refl _ _).alloc (Nat.le_refl _) o
/-- A prefix with its ID. -/
structure Nl where
  id : Int
  addr : Int
  len : Int
def Nl.none : Nl := ⟨0, 0, 0⟩
def nlV (x : Nl) : Value := .agg #[.int .i64 x.id, .int .u32 x.addr, .int .i64 x.len]
def nlC (x : Nl) : List Value := [.int .i64 x.id, .int .u32 x.addr, .int .i64 x.len]
/-- One in memory. -/
def NlAt (w : World) (b off : Nat) (x : Nl) : Prop :=
  w.cell? ⟨b, off, none⟩ = some (.int .i64 x.id) ∧ w.cell? ⟨b, off + 1, none⟩ = some (.int .u32 x.addr) ∧ w.cell? ⟨b, off + 2, none⟩ = some (.int .i64 x.len)
theorem NlAt.below {w w' : World} {b off : Nat} {x : Nl} (h : NlAt w b off x) (hb : Below w.heap.size w w') : NlAt w' b off x := ⟨kept hb h.1, kept hb h.2.1, kept hb h.2.2⟩
def InAddr (x : Nl) : Prop := 0 ≤ x.addr ∧ x.addr < 4294967296
/-- A slice of them, wherever it lies. -/
structure NlsAt (w : World) (p : Option Addr) (l : List Nl) : Prop where
  addr : ∀ i, i < l.length → InAddr (l.getD i Nl.none)
  at_ : l = [] ∨ ∃ b off, p = some ⟨b, off, none⟩ ∧ ∀ i, i < l.length → NlAt w b (off + i * 3) (l.getD i Nl.none)
theorem NlsAt.nil (w : World) (p : Option Addr) : NlsAt w p [] := ⟨fun i hi => by simp at hi, .inl rfl⟩
theorem NlsAt.below {w w' : World} {p : Option Addr} {l : List Nl} (h : NlsAt w p l) (hb : Below w.heap.size w w') : NlsAt w' p l :=
  ⟨h.addr, h.at_.imp id fun ⟨b, off, hp, hc⟩ => ⟨b, off, hp, fun i hi => (hc i hi).below hb⟩⟩
theorem nl_cell {w : World} {p : Option Addr} {l : List Nl} {n i : Nat} (h : NlsAt w p l) (hn : l.length = n) (hi : i < n) : ∃ b off, p = some ⟨b, off, none⟩ ∧ NlAt w b (off + i * 3) (l.getD i Nl.none) ∧ InAddr (l.getD i Nl.none) := by
  rcases h.at_ with h0 | ⟨b, off, hp, hc⟩
  · subst h0; simp at hn; omega
  · exact ⟨b, off, hp, hc i (by omega), h.addr i (by omega)⟩

def mostN (paths : Bool) : Int := if paths then 4294967295 else 0
def oddNl (most : Int) (x : Nl) : Bool := decide (x.id < 0) || (decide (most < x.id) || !okP x.addr x.len)
theorem oddN_any (g : Nat) (most id a n : Int) (w : World) (h : w.cell? ⟨g, 0, none⟩ = some (.int .i64 most)) :
    Calls Tryd.prog 77 #[.agg #[.int .i64 id, .int .u32 a, .int .i64 n], .pointer (some ⟨g, 0, none⟩)] w fun e w' => e = .returned (.bool (oddNl most ⟨id, a, n⟩)) ∧ Below w.heap.size w w' := by
  have hb := newB w (.cells #[.int .i64 id, .int .u32 a, .int .i64 n] 56)
  have hg := kept hb h
  have HB := Lib.hid hb
  have HC := Lib.hid (check_any a n (w.alloc (.cells #[.int .i64 id, .int .u32 a, .int .i64 n] 56)))
  by_cases h1 : id < 0
  · have HE := Lib.hid (show oddNl most ⟨id, a, n⟩ = true by unfold oddNl; rw [decide_eq_true h1]; rfl)
    clear h hb HC
    go_enter Tryd.func77, Tryd.ntmps77
    go_wp2_with fail
    go_ret
    exact ⟨by rw [HE.out] <;> rfl, HB.out⟩
  · have t1 : decide (id < 0) = false := decide_eq_false h1
    by_cases h2 : most < id
    · have HE := Lib.hid (show oddNl most ⟨id, a, n⟩ = true by unfold oddNl; rw [t1, decide_eq_true h2]; rfl)
      clear h hb HC h1
      go_enter Tryd.func77, Tryd.ntmps77
      go_wp2_with fail
      go_ret
      exact ⟨by rw [HE.out] <;> rfl, HB.out⟩
    · have t2 : decide (most < id) = false := decide_eq_false h2
      rcases hk : okP a n with _ | _
      · have HE := Lib.hid (show oddNl most ⟨id, a, n⟩ = true by unfold oddNl; simp only; rw [t1, t2, hk]; rfl)
        unfold errP at HC
        rw [hk] at HC
        clear h hb h1 h2 hk
        go_enter Tryd.func77, Tryd.ntmps77
        go_wp2_with fail
        refine HC.out.mono ?_; rintro e w1 ⟨rfl, hb1⟩
        have HB1 := Lib.hid (HB.out.trans (hb1.mono HB.out.size))
        clear hb1
        go_wp2_with fail
        go_ret
        exact ⟨by rw [HE.out] <;> rfl, HB1.out⟩
      · have HE := Lib.hid (show oddNl most ⟨id, a, n⟩ = false by unfold oddNl; simp only; rw [t1, t2, hk]; rfl)
        unfold errP at HC
        rw [hk] at HC
        clear h hb h1 h2 hk
        go_enter Tryd.func77, Tryd.ntmps77
        go_wp2_with fail
        refine HC.out.mono ?_; rintro e w1 ⟨rfl, hb1⟩
        have HB1 := Lib.hid (HB.out.trans (hb1.mono HB.out.size))
        clear hb1
        go_wp2_with fail
        go_ret
        exact ⟨by rw [HE.out] <;> rfl, HB1.out⟩

theorem any_take {α : Type} (f : α → Bool) (d : α) : ∀ (l : List α) (k : Nat), k < l.length → (l.take k).any f = false → f (l.getD k d) = true → l.any f = true
  | [], k, h, _, _ => by simp at h
  | a :: t, 0, _, _, h => by simp at h; simp [h]
  | a :: t, k + 1, h, h1, h2 => by
    simp only [List.take_succ_cons, List.any_cons, Bool.or_eq_false_iff] at h1
    have := any_take f d t k (by simpa using h) h1.2 (by simpa using h2)
    simp [this]
theorem any_step {α : Type} (f : α → Bool) (d : α) : ∀ (l : List α) (k : Nat), k < l.length → (l.take k).any f = false → f (l.getD k d) = false → (l.take (k + 1)).any f = false
  | [], k, h, _, _ => by simp at h
  | a :: t, 0, _, _, h => by simp at h; simp [h]
  | a :: t, k + 1, h, h1, h2 => by
    simp only [List.take_succ_cons, List.any_cons, Bool.or_eq_false_iff] at h1 ⊢
    exact ⟨h1.1, any_step f d t k (by simpa using h) h1.2 (by simpa using h2)⟩
def oddFn (g : Nat) : Value := .func (.func 77) #[] #[.pointer (some ⟨g, 0, none⟩)]
def IdxTo (b : Bool) (e : Ending) : Prop := ∃ i : Int, e = .returned (.int .i64 i) ∧ decide (0 ≤ i) = b
set_option maxHeartbeats 1000000 in
theorem nls_index (g : Nat) (most : Int) (p : Option Addr) (l : List Nl) (n c : Nat) (w : World) (hx : NlsAt w p l) (hn : l.length = n) (hm : n ≤ maxLen) (ho : w.cell? ⟨g, 0, none⟩ = some (.int .i64 most)) :
    Calls Tryd.prog 92 #[.slice p n c, oddFn g] w fun e w' => IdxTo (l.any (oddNl most)) e ∧ Below w.heap.size w w' := by
  unfold maxLen at hm
  have HX := Lib.hid hx
  have HN := Lib.hid hn
  have HO := Lib.hid ho
  unfold oddFn
  clear hx hn ho
  go_enter Tryd.func92, Tryd.ntmps92
  go_wp2
  go_loopw [8] (fun i wr => ∃ k : Nat, k ≤ n ∧ i = .int .i64 k ∧ (l.take k).any (oddNl most) = false ∧ Below w.heap.size w wr) (fun i _ => n - (intOf i).toNat)
  case atStart => exact ⟨0, Nat.zero_le _, rfl, rfl, Below.refl _ _⟩
  case round =>
    obtain ⟨k, hk, rfl, hf, hB⟩ := hrel
    have HF := Lib.hid hf
    have HB := Lib.hid hB
    clear hf hB
    by_cases hlt : k < n
    · obtain ⟨b, off, rfl, ⟨c0, c1, c2⟩, _⟩ := nl_cell (HX.out.below HB.out) HN.out hlt
      obtain ⟨x, hx⟩ : ∃ x, l.getD k Nl.none = x := ⟨_, rfl⟩
      rw [hx] at c0 c1 c2
      have HXK := Lib.hid hx
      have HOB := Lib.hid (oddN_any g most x.id x.addr x.len wr (kept HB.out HO.out))
      obtain ⟨id, a, ln⟩ := x
      simp only at c0 c1 c2 HOB
      clear hx
      rcases hb : oddNl most ⟨id, a, ln⟩ with _ | _
      · rw [hb] at HOB
        go_wp2_with (go_at_call 77; refine HOB.out.mono ?_; rintro e w2 ⟨rfl, hb2⟩; have HB2 := Lib.hid (HB.out.trans (hb2.mono HB.out.size)); clear hb2)
        go_roundw
        case rel => exact ⟨k + 1, by omega, by go_num, any_step _ Nl.none l k (by rw [HN.out]; exact hlt) HF.out (by rw [HXK.out]; exact hb), HB2.out⟩
        case measure => simp [intOf]; omega
      · rw [hb] at HOB
        go_wp2_with (go_at_call 77; refine HOB.out.mono ?_; rintro e w2 ⟨rfl, hb2⟩; have HB2 := Lib.hid (HB.out.trans (hb2.mono HB.out.size)); clear hb2)
        go_ret
        exact ⟨⟨k, rfl, by rw [any_take _ Nl.none l k (by rw [HN.out]; exact hlt) HF.out (by rw [HXK.out]; exact hb)]; simp⟩, HB2.out⟩
    · obtain rfl : k = n := by omega
      go_wp2
      go_ret
      refine ⟨⟨-1, rfl, ?_⟩, HB.out⟩
      have := HF.out
      rw [List.take_of_length_le (by rw [HN.out]; exact Nat.le_refl _)] at this
      rw [this]; rfl
theorem nls_contains (g : Nat) (most : Int) (p : Option Addr) (l : List Nl) (n c : Nat) (w : World) (hx : NlsAt w p l) (hn : l.length = n) (hm : n ≤ maxLen) (ho : w.cell? ⟨g, 0, none⟩ = some (.int .i64 most)) :
    Calls Tryd.prog 79 #[.slice p n c, oddFn g] w fun e w' => e = .returned (.bool (l.any (oddNl most))) ∧ Below w.heap.size w w' := by
  have HI := Lib.hid (nls_index g most p l n c w hx hn hm ho)
  unfold oddFn at *
  clear hx hn ho hm
  go_enter Tryd.func79, Tryd.ntmps79
  go_wp2_with fail
  refine HI.out.mono ?_; rintro e w1 ⟨⟨i, rfl, hi'⟩, hb⟩
  have HD := Lib.hid hi'
  have HB := Lib.hid hb
  clear hi' hb
  go_wp2_with fail
  go_ret
  exact ⟨ret_bool HD.out, HB.out⟩
/-- Whether all may be told. -/
def okNls (l : List Nl) (paths : Bool) : Bool := decide (l.length ≤ 1024) && !(l.any (oddNl (mostN paths)))
def errNls (l : List Nl) (paths : Bool) : Int := if okNls l paths then 0 else 60
theorem checkNl_any (p : Option Addr) (l : List Nl) (n c : Nat) (paths : Bool) (w : World) (hx : NlsAt w p l) (hn : l.length = n) (hm : n ≤ maxLen) :
    Calls Tryd.prog 55 #[.slice p n c, .bool paths] w fun e w' => e = .returned (.int .i64 (errNls l paths)) ∧ Below w.heap.size w w' := by
  have HE := Lib.hid (show errNls l paths = if decide (n ≤ 1024) && !(l.any (oddNl (mostN paths))) then 0 else 60 by unfold errNls okNls; rw [hn])
  obtain ⟨r, hr⟩ : ∃ r, errNls l paths = r := ⟨_, rfl⟩
  rw [hr] at HE ⊢
  have HX := Lib.hid hx
  have HN := Lib.hid hn
  have HM := Lib.hid hm
  clear hr
  obtain ⟨W, hW⟩ : ∃ W, w.alloc (.cells #[.int .i64 (mostN paths)] 3) = W := ⟨_, rfl⟩
  have HB := Lib.hid (show Below w.heap.size w W by rw [← hW]; exact newB _ _)
  have hG : Blk W w.heap.size 3 [.int .i64 (mostN paths)] := by rw [← hW]; exact Blk.new w 3 [.int .i64 (mostN paths)]
  have HC := Lib.hid (nls_contains w.heap.size (mostN paths) p l n c W (hx.below HB.out) hn hm (hG.cell 0 (by simp)))
  unfold oddFn at HC
  by_cases h : n ≤ 1024
  · have t1 : decide ((1024 : Int) < (n : Int)) = false := by simp; omega
    rw [decide_eq_true h, Bool.true_and] at HE
    rcases ha : l.any (oddNl (mostN paths)) with _ | _
    · rw [ha] at HE HC
      cases paths
      · have HW := Lib.hid (show w.alloc (.cells #[.int .i64 0] 3) = W from hW)
        clear hx hn hm hG h ha hW
        go_enter Tryd.func55, Tryd.ntmps55
        go_wp2_with fail
        rw [HW.out]
        refine HC.out.mono ?_; rintro e w1 ⟨rfl, hb⟩
        have HB1 := Lib.hid (HB.out.trans (hb.mono HB.out.size))
        clear hb
        go_wp2_with fail
        go_ret
        exact ⟨by rw [HE.out] <;> rfl, HB1.out⟩
      · have HW := Lib.hid (show w.alloc (.cells #[.int .i64 4294967295] 3) = W from hW)
        clear hx hn hm hG h ha hW
        go_enter Tryd.func55, Tryd.ntmps55
        go_wp2_with fail
        rw [HW.out]
        refine HC.out.mono ?_; rintro e w1 ⟨rfl, hb⟩
        have HB1 := Lib.hid (HB.out.trans (hb.mono HB.out.size))
        clear hb
        go_wp2_with fail
        go_ret
        exact ⟨by rw [HE.out] <;> rfl, HB1.out⟩
    · rw [ha] at HE HC
      cases paths
      · have HW := Lib.hid (show w.alloc (.cells #[.int .i64 0] 3) = W from hW)
        clear hx hn hm hG h ha hW
        go_enter Tryd.func55, Tryd.ntmps55
        go_wp2_with fail
        rw [HW.out]
        refine HC.out.mono ?_; rintro e w1 ⟨rfl, hb⟩
        have HB1 := Lib.hid (HB.out.trans (hb.mono HB.out.size))
        clear hb
        go_wp2_with fail
        go_ret
        exact ⟨by rw [HE.out] <;> rfl, HB1.out⟩
      · have HW := Lib.hid (show w.alloc (.cells #[.int .i64 4294967295] 3) = W from hW)
        clear hx hn hm hG h ha hW
        go_enter Tryd.func55, Tryd.ntmps55
        go_wp2_with fail
        rw [HW.out]
        refine HC.out.mono ?_; rintro e w1 ⟨rfl, hb⟩
        have HB1 := Lib.hid (HB.out.trans (hb.mono HB.out.size))
        clear hb
        go_wp2_with fail
        go_ret
        exact ⟨by rw [HE.out] <;> rfl, HB1.out⟩
  · have t1 : decide ((1024 : Int) < (n : Int)) = true := by simp; omega
    rw [decide_eq_false h, Bool.false_and] at HE
    cases paths
    · have HW := Lib.hid (show w.alloc (.cells #[.int .i64 0] 3) = W from hW)
      clear hx hn hm hG h hW HC
      go_enter Tryd.func55, Tryd.ntmps55
      go_wp2_with fail
      go_ret
      exact ⟨by rw [HE.out] <;> rfl, by rw [HW.out]; exact HB.out⟩
    · have HW := Lib.hid (show w.alloc (.cells #[.int .i64 4294967295] 3) = W from hW)
      clear hx hn hm hG h hW HC
      go_enter Tryd.func55, Tryd.ntmps55
      go_wp2_with fail
      go_ret
      exact ⟨by rw [HE.out] <;> rfl, by rw [HW.out]; exact HB.out⟩
end Go.Proofs.YtpeagakpmjnelaaDoor
namespace Go.Proofs.YtpeagakpmjnelaaDoor
open Go.RowKit

/-- The bytes of one, and of all. -/
def nlL (paths : Bool) (x : Nl) : List Int := (if paths then putL x.id 4 else []) ++ pfxL x.addr x.len
def nlsL (paths : Bool) (l : List Nl) : List Int := l.flatMap (nlL paths)
theorem nlsL_snoc (paths : Bool) (l : List Nl) (k : Nat) (h : k < l.length) : nlsL paths (l.take (k + 1)) = nlsL paths (l.take k) ++ nlL paths (l.getD k Nl.none) := by
  unfold nlsL
  rw [List.take_succ_eq_append_getElem h, List.flatMap_append]
  simp [List.getD, List.getElem?_eq_getElem h]
theorem pfxL_le (a n : Int) : (pfxL a n).length ≤ 5 := by
  unfold pfxL
  rw [List.length_cons, List.length_take, putL_len]
  omega
theorem oddNl_no {most : Int} {x : Nl} (h : oddNl most x = false) : 0 ≤ x.id ∧ x.id ≤ most ∧ okP x.addr x.len = true := by
  unfold oddNl at h
  simp only [Bool.or_eq_false_iff, decide_eq_false_iff_not, Bool.not_eq_false'] at h
  exact ⟨by omega, by omega, h.2.2⟩
theorem okNls_yes {l : List Nl} {paths : Bool} (h : okNls l paths = true) : l.length ≤ 1024 ∧ ∀ i, i < l.length → oddNl (mostN paths) (l.getD i Nl.none) = false := by
  unfold okNls at h
  simp only [Bool.and_eq_true, decide_eq_true_eq, Bool.not_eq_true', List.any_eq_false] at h
  refine ⟨h.1, fun i hi => ?_⟩
  have := h.2 (l.getD i Nl.none) (by simp [List.getD, List.getElem?_eq_getElem hi])
  rwa [Bool.not_eq_true] at this
def NlRel (w : World) (paths : Bool) (n : Nat) (l : List Nl) (b i : Value) (wr : World) : Prop :=
  ∃ (k m : Nat) (p : Option Addr) (cap : Nat), k ≤ n ∧ i = .int .i64 k ∧ b = .slice p m cap ∧ (nlsL paths (l.take k)).length = m ∧ m ≤ 9 * k ∧ Own wr w.heap.size p cap (nlsL paths (l.take k)) ∧ Below w.heap.size w wr
theorem fit_four {n : Int} (h0 : 0 ≤ n) (h1 : n ≤ 4294967295) : fitsB n (4 : Nat) = true := by
  have : (2 : Int) ^ (8 * 4) = 4294967296 := rfl
  simp [fitsB, this]; omega
theorem put_4 (x : Int) (w : World) (h0 : 0 ≤ x) (h1 : x ≤ 4294967295) :
    Calls Tryd.prog 56 #[.int .i64 x, .int .i64 4] w fun e w' => e = .returned (.tuple #[.slice (some ⟨w.heap.size, 0, none⟩) 4 4, .int .i64 0]) ∧ BytesAt w' (some ⟨w.heap.size, 0, none⟩) (putL x 4) ∧ Below w.heap.size w w' :=
  (put_fits x 4 w (by omega) (by omega) (fit_four h0 h1)).mono fun _ _ h => ⟨h.1, h.2.1.list.bytes (putL_byte _ _), h.2.2⟩
theorem putp_b (a n : Int) (m : Nat) (w : World) (h0 : 0 ≤ a) (h1 : a < 4294967296) (hk : okP a n = true) (hm : (pfxL a n).length = m) :
    Calls Tryd.prog 57 #[.agg #[.int .u32 a, .int .i64 n]] w fun e w' => ∃ g, e = .returned (.tuple #[.slice (some ⟨g, 0, none⟩) m m, .int .i64 0]) ∧ BytesAt w' (some ⟨g, 0, none⟩) (pfxL a n) ∧ Below w.heap.size w w' :=
  (putp_ok a n w h0 h1 hk).mono fun _ _ ⟨g, he, hr, hx, _, hb⟩ => ⟨g, by rw [he, hm], hr.bytes hx, hb⟩
theorem putNl_no (p : Option Addr) (l : List Nl) (n c : Nat) (paths : Bool) (w : World) (hx : NlsAt w p l) (hn : l.length = n) (hm : n ≤ maxLen) (hk : okNls l paths = false) :
    Calls Tryd.prog 27 #[.slice p n c, .bool paths] w fun e w' => e = .returned (.tuple #[.slice none 0 0, .int .i64 60]) ∧ Below w.heap.size w w' := by
  have HC := Lib.hid (checkNl_any p l n c paths w hx hn hm)
  rw [show errNls l paths = 60 by simp [errNls, hk]] at HC
  clear hx hn hm hk
  go_enter Tryd.func27, Tryd.ntmps27
  go_wp2_with fail
  refine HC.out.mono ?_; rintro e w1 ⟨rfl, hb⟩
  have HB := Lib.hid hb
  clear hb
  go_wp2_with fail
  go_ret2
  exact ⟨rfl, HB.out⟩
set_option maxRecDepth 100000 in
set_option maxHeartbeats 4000000 in
theorem putNl_ok (p : Option Addr) (l : List Nl) (n c : Nat) (paths : Bool) (w : World) (hx : NlsAt w p l) (hn : l.length = n) (hk : okNls l paths = true) :
    Calls Tryd.prog 27 #[.slice p n c, .bool paths] w fun e w' => ∃ q cap, e = .returned (.tuple #[.slice q (nlsL paths l).length cap, .int .i64 0]) ∧ Own w' w.heap.size q cap (nlsL paths l) ∧ Below w.heap.size w w' := by
  obtain ⟨h24, hodd⟩ := okNls_yes hk
  have hn24 : n ≤ 1024 := by omega
  have HC := Lib.hid (checkNl_any p l n c paths w hx hn (by unfold maxLen; omega))
  rw [show errNls l paths = 0 by simp [errNls, hk]] at HC
  have HX := Lib.hid hx
  have HN := Lib.hid hn
  have HO := Lib.hid hodd
  clear hx hn hk hodd h24
  go_enter Tryd.func27, Tryd.ntmps27
  go_wp2_with fail
  refine HC.out.mono ?_; rintro e w1 ⟨rfl, hb⟩
  have HB0 := Lib.hid hb
  clear hb HC
  go_wp2_with fail
  go_loopw [7, 22] (fun b i wr => NlRel w paths n l b i wr) (fun _ i _ => n - (intOf i).toNat)
  case atStart => exact ⟨0, 0, none, 0, Nat.zero_le _, rfl, rfl, rfl, by omega, Own.nil _ _, HB0.out⟩
  case round =>
    obtain ⟨k, m, z, zc, hkn, rfl, rfl, hm, hm9, hO, hB⟩ := hrel
    have HOW := Lib.hid hO
    have HB := Lib.hid hB
    have HM := Lib.hid hm
    clear hO hB hm
    by_cases hlt : k < n
    · obtain ⟨b, off, rfl, ⟨c0, c1, c2⟩, had⟩ := nl_cell (HX.out.below HB.out) HN.out hlt
      have hod := oddNl_no (HO.out k (by rw [HN.out]; exact hlt))
      have HS := Lib.hid (nlsL_snoc paths l k (by rw [HN.out]; exact hlt))
      obtain ⟨x, hx⟩ : ∃ x, l.getD k Nl.none = x := ⟨_, rfl⟩
      rw [hx] at c0 c1 c2 hod HS had
      obtain ⟨id, a, ln⟩ := x
      simp only at c0 c1 c2 hod
      obtain ⟨o0, o1, o2⟩ := hod
      obtain ⟨a0, a1⟩ : 0 ≤ a ∧ a < 4294967296 := had
      have h5 := pfxL_le a ln
      obtain ⟨pl, hpl⟩ : ∃ pl, (pfxL a ln).length = pl := ⟨_, rfl⟩
      rw [hpl] at h5
      have HPL := Lib.hid hpl
      have HPP := Lib.hid (fun u => putp_b a ln pl u a0 a1 o2 hpl)
      obtain ⟨V, hV⟩ : ∃ V, wr.alloc (.cells #[.int .i64 id, .int .u32 a, .int .i64 ln] 56) = V := ⟨_, rfl⟩
      have hbV : Below wr.heap.size wr V := by rw [← hV]; exact newB _ _
      have hKV : Blk V wr.heap.size 56 [.int .i64 id, .int .u32 a, .int .i64 ln] := by rw [← hV]; exact Blk.new wr 56 [.int .i64 id, .int .u32 a, .int .i64 ln]
      have HKV := Lib.hid hKV
      have HOV := Lib.hid (HOW.out.below hbV)
      have HBV := Lib.hid (HB.out.trans (hbV.mono HB.out.size))
      cases paths
      · have HSEG := Lib.hid (show nlL false ⟨id, a, ln⟩ = pfxL a ln from rfl)
        have v1 : (wr.alloc (.cells #[.int .i64 id, .int .u32 a, .int .i64 ln] 56)).cell? ⟨wr.heap.size, 1, none⟩ = some (.int .u32 a) := by rw [hV]; exact hKV.cell 1 (by simp)
        have v2 : (wr.alloc (.cells #[.int .i64 id, .int .u32 a, .int .i64 ln] 56)).cell? ⟨wr.heap.size, 2, none⟩ = some (.int .i64 ln) := by rw [hV]; exact hKV.cell 2 (by simp)
        have HV := Lib.hid hV
        clear hV hbV hKV hx hpl
        go_wp2_with fail
        rw [HV.out]
        clear v1 v2 c0 c1 c2
        (with_reducible refine (HPP.out V).mono ?_); rintro e w2 ⟨g, rfl, hY, hb⟩
        have HY := Lib.hid hY
        have HO2 := Lib.hid (HOV.out.below hb)
        have HB2 := Lib.hid (HBV.out.trans (hb.mono HBV.out.size))
        clear hY hb
        go_wp2_with (refine wpList_appo (o := ⟨some 44, _, _, _, _, _⟩) (by rfl) (.tmp 42) (.tmp 43) (by rfl) w.heap.size z zc (nlsL false (l.take k)) HO2.out m HM.out (by rfl) (some ⟨g, 0, none⟩) pl pl (pfxL a ln) HY.out HPL.out (by rfl) (m + pl) (by rfl) (by omega) HB2.out.size ?_; intro q3 cap3 w3 hO3 hB3 hG3)
        go_roundw
        case rel => exact ⟨k + 1, m + pl, q3, cap3, by omega, by go_num, rfl, by rw [HS.out, HSEG.out, List.length_append, HM.out, HPL.out], by omega, by rw [HS.out, HSEG.out]; exact hO3.out, HB2.out.trans hB3.out⟩
        case measure => simp [intOf]; omega
      · have HSEG := Lib.hid (show nlL true ⟨id, a, ln⟩ = putL id 4 ++ pfxL a ln from rfl)
        have v0 : (wr.alloc (.cells #[.int .i64 id, .int .u32 a, .int .i64 ln] 56)).cell? ⟨wr.heap.size, 0, none⟩ = some (.int .i64 id) := by rw [hV]; exact hKV.cell 0 (by simp)
        have HPI := Lib.hid (put_4 id V o0 o1)
        have HV := Lib.hid hV
        have hgv := hKV.lt
        clear hV hbV hKV hx hpl
        go_wp2_with fail
        rw [HV.out]
        clear v0 c0 c1 c2
        (with_reducible refine HPI.out.mono ?_); rintro e w2 ⟨rfl, hY, hb⟩
        have HY := Lib.hid hY
        have HO2 := Lib.hid (HOV.out.below hb)
        have HB2 := Lib.hid (HBV.out.trans (hb.mono HBV.out.size))
        have HK2 := Lib.hid (HKV.out.next hb)
        have hg2 : wr.heap.size < w2.heap.size := HK2.out.lt
        clear hY hb
        go_wp2_with (refine wpList_appo (o := ⟨some 35, _, _, _, _, _⟩) (by rfl) (.tmp 33) (.tmp 34) (by rfl) w.heap.size z zc (nlsL true (l.take k)) HO2.out m HM.out (by rfl) (some ⟨V.heap.size, 0, none⟩) 4 4 (putL id 4) HY.out (putL_len ..) (by rfl) (m + 4) (by rfl) (by omega) HB2.out.size ?_; intro q3 cap3 w3 hO3 hB3 hG3; have HO3 := Lib.hid hO3.out; have HB3 := Lib.hid (HB2.out.trans hB3.out); have hK3 := HK2.out.of_same (hG3.out.1.block _ hg2 (fun e => by have := (HOW.out.block_lt e.symm).2; omega)); have v1 := hK3.cell 1 (by simp); have v2 := hK3.cell 2 (by simp); clear hK3 hO3 hB3 hG3)
        clear v1 v2
        (with_reducible refine (HPP.out _).mono ?_); rintro e w4 ⟨g, rfl, hY, hb⟩
        have HY4 := Lib.hid hY
        have HO4 := Lib.hid (HO3.out.below hb)
        have HB4 := Lib.hid (HB3.out.trans (hb.mono HB3.out.size))
        clear hY hb
        go_wp2_with (refine wpList_appo (o := ⟨some 44, _, _, _, _, _⟩) (by rfl) (.tmp 42) (.tmp 43) (by rfl) w.heap.size q3 cap3 (nlsL true (l.take k) ++ putL id 4) HO4.out (m + 4) (by rw [List.length_append, HM.out, putL_len]) (by rfl) (some ⟨g, 0, none⟩) pl pl (pfxL a ln) HY4.out HPL.out (by rfl) (m + 4 + pl) (by rfl) (by omega) HB4.out.size ?_; intro q5 cap5 w5 hO5 hB5 hG5)
        go_roundw
        case rel => exact ⟨k + 1, m + 4 + pl, q5, cap5, by omega, by go_num, rfl, by rw [HS.out, HSEG.out, List.length_append, HM.out, List.length_append, HPL.out, putL_len]; omega, by omega, by rw [HS.out, HSEG.out, ← List.append_assoc]; exact hO5.out, HB4.out.trans hB5.out⟩
        case measure => simp [intOf]; omega
    · obtain rfl : k = n := by omega
      go_wp2
      go_ret2
      have hO := HOW.out
      have hL := HM.out
      rw [List.take_of_length_le (by rw [HN.out]; exact Nat.le_refl _)] at hO hL
      exact ⟨z, zc, by rw [hL] <;> rfl, hO, HB.out⟩
end Go.Proofs.YtpeagakpmjnelaaDoor
namespace Go.Proofs.YtpeagakpmjnelaaDoor
open Go.RowKit

/-- What bytes begin with: one, and how many bytes it has. -/
def firstL (paths : Bool) (xs : List Int) : Option (Nl × Nat) :=
  if paths then (if xs.length < 4 then none else (gotP (xs.drop 4)).map (fun r => (⟨getV (xs.take 4), mk r.1 r.2.1, cl r.2.1⟩, 4 + r.2.2)))
  else (gotP xs).map (fun r => (⟨0, mk r.1 r.2.1, cl r.2.1⟩, r.2.2))
def FirstTo (r : Option (Nl × Nat)) (e : Ending) : Prop :=
  match r with
  | some (x, s) => e = .returned (.tuple #[.agg #[.int .i64 x.id, .int .u32 x.addr, .int .i64 x.len], .int .i64 s, .bool true])
  | none => ∃ i s : Int, e = .returned (.tuple #[.agg #[.int .i64 i, .int .u32 0, .int .i64 0], .int .i64 s, .bool false])
theorem first_short (p : Option Addr) (n c : Nat) (w : World) (h : n < 4) :
    Calls Tryd.prog 64 #[.slice p n c, .bool true] w fun e w' => FirstTo none e ∧ Below w.heap.size w w' := by
  have t1 : decide ((n : Int) < 4) = true := by simp; omega
  have hb := newB w (.cells #[.int .i64 0, .int .u32 0, .int .i64 0] 56)
  have K := Blk.new w 56 [.int .i64 0, .int .u32 0, .int .i64 0]
  rw [show ([.int .i64 0, .int .u32 0, .int .i64 0] : List Value).toArray = #[.int .i64 0, .int .u32 0, .int .i64 0] from rfl] at K
  have f0 := K.f 0
  have f1 := K.f 1
  have f2 := K.f 2
  have d0 := K.cell 0 (by simp)
  have d1 := K.cell 1 (by simp)
  have d2 := K.cell 2 (by simp)
  have HB := Lib.hid hb
  clear hb K h
  go_enter Tryd.func64, Tryd.ntmps64
  go_wp2_with fail
  refine bodyPost_ret (v := .tuple #[.agg #[.int .i64 0, .int .u32 0, .int .i64 0], .int .i64 0, .bool false]) (by simp [results, Tryd.results64, go_sem, d0, d1, d2]) rfl ⟨⟨0, 0, rfl⟩, ?_⟩
  exact HB.out
/-- What the prefix says behind so many bytes. -/
theorem getp_n (p : Option Addr) (xs : List Int) (n c : Nat) (w : World) (hb : BytesAt w p xs) (hn : xs.length = n) (hc : n ≤ c) (hm : c ≤ maxLen) :
    Calls Tryd.prog 82 #[.slice p n c] w fun e w' => GotOut (gotP xs) e ∧ Below w.heap.size w w' := by
  subst hn
  exact getp_any p xs c w hb hc (by unfold maxLen at hm; omega)
theorem get_4 (p : Option Addr) (xs : List Int) (c : Nat) (w : World) (hl : xs.length = 4) (hb : BytesAt w p xs) :
    Calls Tryd.prog 63 #[.slice p 4 c] w fun e w' => e = .returned (.tuple #[.int .i64 (getV xs), .int .i64 0]) ∧ w = w' := by
  have h := get_some p xs c w (by omega) (by omega) hb
  rw [hl] at h; exact h
theorem gotP_len {xs : List Int} {v n : Int} {s : Nat} (h : gotP xs = some (v, n, s)) : 1 ≤ s ∧ s ≤ xs.length ∧ s ≤ 5 := by
  match xs, h with
  | n0 :: r, h =>
    have h : (if 32 < n0 then none else if r.length < (n0.toNat + 7) / 8 then none else some (getV (r.take ((n0.toNat + 7) / 8) ++ List.replicate (4 - (n0.toNat + 7) / 8) 0), n0, (n0.toNat + 7) / 8 + 1)) = some (v, n, s) := h
    by_cases h1 : 32 < n0
    · rw [if_pos h1] at h; cases h
    · rw [if_neg h1] at h
      by_cases h2 : r.length < (n0.toNat + 7) / 8
      · rw [if_pos h2] at h; cases h
      · rw [if_neg h2] at h
        simp only [Option.some.injEq, Prod.mk.injEq] at h
        obtain ⟨_, _, rfl⟩ := h
        have : (n0 :: r).length = r.length + 1 := rfl
        omega
set_option maxHeartbeats 2000000 in
theorem first_plain (p : Option Addr) (xs : List Int) (n c : Nat) (w : World) (hb : BytesAt w p xs) (hn : xs.length = n) (hc : n ≤ c) (hm : c ≤ maxLen) :
    Calls Tryd.prog 64 #[.slice p n c, .bool false] w fun e w' => FirstTo (firstL false xs) e ∧ Below w.heap.size w w' := by
  obtain ⟨W, hW⟩ : ∃ W, w.alloc (.cells #[.int .i64 0, .int .u32 0, .int .i64 0] 56) = W := ⟨_, rfl⟩
  have hbW : Below w.heap.size w W := by rw [← hW]; exact newB _ _
  have hK : Blk W w.heap.size 56 [.int .i64 0, .int .u32 0, .int .i64 0] := by rw [← hW]; exact Blk.new w 56 [.int .i64 0, .int .u32 0, .int .i64 0]
  have E1 := fun u => run_cut_l u p n c 0 0 rfl (by omega)
  obtain ⟨q, hq⟩ : ∃ q, cutP p c 0 = q := ⟨_, rfl⟩
  rw [hq, Nat.sub_zero, Nat.sub_zero] at E1
  have hY : BytesAt W q xs := by have := (hb.below hbW).cutl c 0 (by omega) (by omega); rw [hq, List.drop_zero] at this; exact this
  have HG := Lib.hid (getp_n q xs n c W hY hn hc hm)
  have HK := Lib.hid hK
  have HB := Lib.hid hbW
  have HW := Lib.hid hW
  have HR := Lib.hid (show firstL false xs = (gotP xs).map (fun r => (⟨0, mk r.1 r.2.1, cl r.2.1⟩, r.2.2)) from rfl)
  rcases hg : gotP xs with _ | ⟨v, m, s⟩
  · rw [hg] at HG HR
    unfold GotOut at HG
    clear hb hn hc hm hbW hK hY hq hg hW
    go_enter Tryd.func64, Tryd.ntmps64
    go_wp2_with fail
    rw [HW.out]
    refine HG.out.mono ?_; rintro e w1 ⟨rfl, hb1⟩
    have HB1 := Lib.hid (HB.out.trans (hb1.mono HB.out.size))
    have hK1 := (HK.out.next hb1).alloc (.cells #[.int .u32 0, .int .i64 0] 54)
    have HK1 := Lib.hid hK1
    have f0 := hK1.f 0
    have f1 := hK1.f 1
    have f2 := hK1.f 2
    have d0 := hK1.cell 0 (by simp)
    have d1 := hK1.cell 1 (by simp)
    have d2 := hK1.cell 2 (by simp)
    clear hb1 HG E1 hK1
    go_wp2_with fail
    refine bodyPost_ret (v := .tuple #[.agg #[.int .i64 0, .int .u32 0, .int .i64 0], .int .i64 0, .bool false]) (by simp [results, Tryd.results64, go_sem, d0, d1, d2]) rfl ⟨by rw [HR.out]; exact ⟨0, 0, rfl⟩, ?_⟩
    exact (((HB1.out.alloc HB1.out.size _).setCell (Nat.le_refl _) _).setCell (Nat.le_refl _) _).setCell (Nat.le_refl _) _
  · have hs := gotP_len hg
    rw [hg] at HG HR
    unfold GotOut at HG
    simp only at HG
    obtain ⟨a, ha⟩ : ∃ a, mk v m = a := ⟨_, rfl⟩
    obtain ⟨b, hb'⟩ : ∃ b, cl m = b := ⟨_, rfl⟩
    rw [ha, hb'] at HG
    have HA := Lib.hid (And.intro ha hb')
    clear hb hn hm hbW hK hY hq hg hW ha hb'
    go_enter Tryd.func64, Tryd.ntmps64
    go_wp2_with fail
    rw [HW.out]
    refine HG.out.mono ?_; rintro e w1 ⟨rfl, hb1⟩
    have HB1 := Lib.hid (HB.out.trans (hb1.mono HB.out.size))
    have hK1 := (HK.out.next hb1).alloc (.cells #[.int .u32 a, .int .i64 b] 54)
    have f0 := hK1.f 0
    have f1 := hK1.f 1
    have f2 := hK1.f 2
    have d0 := hK1.cell 0 (by simp)
    have d1 := hK1.cell 1 (by simp)
    have d2 := hK1.cell 2 (by simp)
    clear hb1 HG E1 hK1
    go_wp2_with fail
    refine bodyPost_ret (v := .tuple #[.agg #[.int .i64 0, .int .u32 a, .int .i64 b], .int .i64 s, .bool true]) (by simp [results, Tryd.results64, go_sem, d0, d1, d2]) rfl ⟨by rw [HR.out, Option.map_some]; simp only [HA.out.1, HA.out.2]; rfl, ?_⟩
    exact (((HB1.out.alloc HB1.out.size _).setCell (Nat.le_refl _) _).setCell (Nat.le_refl _) _).setCell (Nat.le_refl _) _
set_option maxHeartbeats 2000000 in
theorem first_ids (p : Option Addr) (xs : List Int) (n c : Nat) (w : World) (hb : BytesAt w p xs) (hn : xs.length = n) (hc : n ≤ c) (hm : c ≤ maxLen) (h4 : 4 ≤ n) :
    Calls Tryd.prog 64 #[.slice p n c, .bool true] w fun e w' => FirstTo (firstL true xs) e ∧ Below w.heap.size w w' := by
  have t0 : decide ((n : Int) < 4) = false := by simp; omega
  obtain ⟨W, hW⟩ : ∃ W, w.alloc (.cells #[.int .i64 0, .int .u32 0, .int .i64 0] 56) = W := ⟨_, rfl⟩
  have hbW : Below w.heap.size w W := by rw [← hW]; exact newB _ _
  have hK : Blk W w.heap.size 56 [.int .i64 0, .int .u32 0, .int .i64 0] := by rw [← hW]; exact Blk.new w 56 [.int .i64 0, .int .u32 0, .int .i64 0]
  have E0 := fun u => run_cut_h u p n c 4 4 rfl (by omega)
  have E1 := fun u => run_cut_l u p n c 4 4 rfl (by omega)
  obtain ⟨q0, hq0⟩ : ∃ q, cutP p c 0 = q := ⟨_, rfl⟩
  obtain ⟨q, hq⟩ : ∃ q, cutP p c 4 = q := ⟨_, rfl⟩
  rw [hq0] at E0
  rw [hq] at E1
  have hY0 : BytesAt W q0 (xs.take 4) := by have := (hb.below hbW).cut c 0 4 (by omega) (by omega) (by omega); rw [hq0, List.drop_zero] at this; exact this
  have hY : BytesAt W q (xs.drop 4) := by have := (hb.below hbW).cutl c 4 (by omega) (by omega); rw [hq] at this; exact this
  have HI := Lib.hid (get_4 q0 (xs.take 4) c W (by rw [List.length_take]; omega) hY0)
  have HG := Lib.hid (getp_n q (xs.drop 4) (n - 4) (c - 4) W hY (by rw [List.length_drop]; omega) (by omega) (by omega))
  have HK := Lib.hid hK
  have HB := Lib.hid hbW
  have HW := Lib.hid hW
  have HR := Lib.hid (show firstL true xs = (gotP (xs.drop 4)).map (fun r => (⟨getV (xs.take 4), mk r.1 r.2.1, cl r.2.1⟩, 4 + r.2.2)) from by unfold firstL; rw [if_pos rfl, if_neg (by omega)])
  obtain ⟨i, hi⟩ : ∃ i, getV (xs.take 4) = i := ⟨_, rfl⟩
  rw [hi] at HI HR
  rcases hg : gotP (xs.drop 4) with _ | ⟨v, m, s⟩
  · rw [hg] at HG HR
    unfold GotOut at HG
    clear hb hn hc hm hbW hK hY hY0 hq hq0 hg hW hi
    go_enter Tryd.func64, Tryd.ntmps64
    go_wp2_with fail
    rw [HW.out]
    refine HI.out.mono ?_; rintro e w' ⟨rfl, rfl⟩
    go_wp2_with fail
    refine HG.out.mono ?_; rintro e w1 ⟨rfl, hb1⟩
    have HB1 := Lib.hid (HB.out.trans (hb1.mono HB.out.size))
    have hK1 := (HK.out.next hb1).alloc (.cells #[.int .u32 0, .int .i64 0] 54)
    have f0 := hK1.f 0
    have f1 := hK1.f 1
    have f2 := hK1.f 2
    have d0 := hK1.cell 0 (by simp)
    have d1 := hK1.cell 1 (by simp)
    have d2 := hK1.cell 2 (by simp)
    clear hb1 HG E1 E0 hK1
    go_wp2_with fail
    refine bodyPost_ret (v := .tuple #[.agg #[.int .i64 i, .int .u32 0, .int .i64 0], .int .i64 4, .bool false]) (by simp [results, Tryd.results64, go_sem, d0, d1, d2]) rfl ⟨by rw [HR.out]; exact ⟨i, 4, rfl⟩, ?_⟩
    exact (((HB1.out.alloc HB1.out.size _).setCell (Nat.le_refl _) _).setCell (Nat.le_refl _) _).setCell (Nat.le_refl _) _
  · have hs := gotP_len hg
    rw [hg] at HG HR
    unfold GotOut at HG
    simp only at HG
    obtain ⟨a, ha⟩ : ∃ a, mk v m = a := ⟨_, rfl⟩
    obtain ⟨b, hb'⟩ : ∃ b, cl m = b := ⟨_, rfl⟩
    rw [ha, hb'] at HG
    have HA := Lib.hid (And.intro ha hb')
    clear hb hn hm hbW hK hY hY0 hq hq0 hg hW ha hb' hi
    go_enter Tryd.func64, Tryd.ntmps64
    go_wp2_with fail
    rw [HW.out]
    refine HI.out.mono ?_; rintro e w' ⟨rfl, rfl⟩
    go_wp2_with fail
    refine HG.out.mono ?_; rintro e w1 ⟨rfl, hb1⟩
    have HB1 := Lib.hid (HB.out.trans (hb1.mono HB.out.size))
    have hK1 := (HK.out.next hb1).alloc (.cells #[.int .u32 a, .int .i64 b] 54)
    have f0 := hK1.f 0
    have f1 := hK1.f 1
    have f2 := hK1.f 2
    have d0 := hK1.cell 0 (by simp)
    have d1 := hK1.cell 1 (by simp)
    have d2 := hK1.cell 2 (by simp)
    clear hb1 HG E1 E0 hK1
    go_wp2_with fail
    refine bodyPost_ret (v := .tuple #[.agg #[.int .i64 i, .int .u32 a, .int .i64 b], .int .i64 ((4 + s : Nat) : Int), .bool true]) (by simp [results, Tryd.results64, go_sem, d0, d1, d2]) rfl ⟨by rw [HR.out, Option.map_some]; simp only [HA.out.1, HA.out.2]; rfl, ?_⟩
    exact (((HB1.out.alloc HB1.out.size _).setCell (Nat.le_refl _) _).setCell (Nat.le_refl _) _).setCell (Nat.le_refl _) _
theorem first_any (p : Option Addr) (xs : List Int) (n c : Nat) (paths : Bool) (w : World) (hb : BytesAt w p xs) (hn : xs.length = n) (hc : n ≤ c) (hm : c ≤ maxLen) :
    Calls Tryd.prog 64 #[.slice p n c, .bool paths] w fun e w' => FirstTo (firstL paths xs) e ∧ Below w.heap.size w w' := by
  cases paths
  · exact first_plain p xs n c w hb hn hc hm
  · by_cases h : n < 4
    · rw [show firstL true xs = none from by unfold firstL; rw [if_pos rfl, if_pos (by omega)]]
      exact first_short p n c w h
    · exact first_ids p xs n c w hb hn hc hm (by omega)
theorem firstL_len {paths : Bool} {xs : List Int} {x : Nl} {s : Nat} (h : firstL paths xs = some (x, s)) : 1 ≤ s ∧ s ≤ xs.length ∧ s ≤ 9 := by
  unfold firstL at h
  cases paths
  · simp only [Bool.false_eq_true, if_false, Option.map_eq_some_iff, Prod.mk.injEq] at h
    obtain ⟨⟨v, n, t⟩, hg, _, rfl⟩ := h
    have := gotP_len hg
    simp only; omega
  · rw [if_pos rfl] at h
    split at h
    · cases h
    · simp only [Option.map_eq_some_iff, Prod.mk.injEq] at h
      obtain ⟨⟨v, n, t⟩, hg, _, rfl⟩ := h
      have := gotP_len hg
      simp only [List.length_drop] at this ⊢; omega
end Go.Proofs.YtpeagakpmjnelaaDoor
namespace Go.Proofs.YtpeagakpmjnelaaDoor
open Go.RowKit

theorem infoNl : (Tryd.prog.info? 56).map (fun i => (i.zero, i.size, i.bytes)) = some (some (.agg #[.int .i64 0, .int .u32 0, .int .i64 0]), 3, 24) := by kernel_rfl
theorem gb_belowN {a b : World} {r : Option Nat} (h : Below a.heap.size a b) : a.grownBy b r :=
  ⟨h.os, h.tape, h.output, h.size, fun i hi _ => h.block i hi⟩
theorem rowN_below {w w' : World} {B : Nat} {E : TypeId} {size : Nat} {v : Value} {n : Nat} {xs : List Value} (h : w.ownsRow B E size v n xs) (hb : Below w.heap.size w w') : w'.ownsRow B E size v n xs := by
  refine h.kept (row := none) (gb_belowN hb) ?_
  rcases hv : v.ownBlock with _ | g
  · exact .inl rfl
  · exact .inr (by simp)
theorem rowN_form {w : World} {B : Nat} {E : TypeId} {size : Nat} {v : Value} {n : Nat} {xs : List Value} (h : w.ownsRow B E size v n xs) :
    ∃ p c, v = .slice p n c ∧ n ≤ c ∧ c ≤ maxLen := by
  rcases h.2 with ⟨rfl, rfl⟩ | ⟨g, cap, cur, rfl, _, _, h1, h2, _⟩
  · exact ⟨none, 0, rfl, Nat.le_refl _, by unfold maxLen; omega⟩
  · exact ⟨_, cap, rfl, h1, h2⟩
theorem add_litN (b off j : Nat) : (⟨b, off, none⟩ : Addr).add j = ⟨b, off + j, none⟩ := by unfold Addr.add; split <;> simp_all
def ncells (l : List Nl) : List Value := l.flatMap nlC
theorem ncells_get (l : List Nl) (i : Nat) (h : i < l.length) : (ncells l)[i * 3]? = some (.int .i64 (l.getD i Nl.none).id) ∧ (ncells l)[i * 3 + 1]? = some (.int .u32 (l.getD i Nl.none).addr) ∧ (ncells l)[i * 3 + 2]? = some (.int .i64 (l.getD i Nl.none).len) := by
  induction l generalizing i with
  | nil => simp at h
  | cons a t ih =>
    unfold ncells at *
    rw [List.flatMap_cons]
    cases i with
    | zero => simp [nlC]
    | succ i =>
      have := ih i (by simpa using h)
      rw [show (i + 1) * 3 = i * 3 + 3 from by omega, show i * 3 + 3 + 1 = (i * 3 + 1) + 3 from by omega, show i * 3 + 3 + 2 = (i * 3 + 2) + 3 from by omega]
      simpa [nlC] using this
/-- A list of the call's own. -/
structure NlsOwn (w : World) (B : Nat) (q : Option Addr) (n cap : Nat) (l : List Nl) : Prop where
  len : l.length = n
  addr : ∀ i, i < l.length → InAddr (l.getD i Nl.none)
  row : w.ownsRow B 56 3 (.slice q n cap) n (ncells l)
theorem NlsOwn.nil (w : World) (B : Nat) : NlsOwn w B none 0 0 [] := ⟨rfl, fun i hi => by simp at hi, World.ownsRow_nil _ _ _ _⟩
theorem NlsOwn.below {w w' : World} {B n cap : Nat} {q : Option Addr} {l : List Nl} (h : NlsOwn w B q n cap l) (hb : Below w.heap.size w w') : NlsOwn w' B q n cap l := ⟨h.len, h.addr, rowN_below h.row hb⟩
theorem NlsOwn.mono {w : World} {B B' n cap : Nat} {q : Option Addr} {l : List Nl} (h : NlsOwn w B q n cap l) (hB : B' ≤ B) : NlsOwn w B' q n cap l := ⟨h.len, h.addr, h.row.mono hB⟩
theorem NlsOwn.cap {w : World} {B n cap : Nat} {q : Option Addr} {l : List Nl} (h : NlsOwn w B q n cap l) : n ≤ cap ∧ cap ≤ maxLen := by
  obtain ⟨p, c, hv, h1, h2⟩ := rowN_form h.row
  simp only [Value.slice.injEq] at hv
  obtain ⟨_, _, rfl⟩ := hv
  exact ⟨h1, h2⟩
theorem NlsOwn.at {w : World} {B n cap : Nat} {q : Option Addr} {l : List Nl} (h : NlsOwn w B q n cap l) : NlsAt w q l := by
  refine ⟨h.addr, ?_⟩
  rcases h.row.2 with ⟨hv, h0⟩ | ⟨g, cap', cur, hv, _⟩
  · left
    have := h.len
    simp only [Value.slice.injEq] at hv
    exact List.eq_nil_of_length_eq_zero (by omega)
  · simp only [Value.slice.injEq] at hv
    obtain ⟨rfl, _, rfl⟩ := hv
    refine .inr ⟨g, 0, rfl, fun i hi => ?_⟩
    obtain ⟨e0, e1, e2⟩ := ncells_get l i hi
    have c0 := h.row.cells (g := g) rfl (i * 3) _ e0
    have c1 := h.row.cells (g := g) rfl (i * 3 + 1) _ e1
    have c2 := h.row.cells (g := g) rfl (i * 3 + 2) _ e2
    rw [add_litN] at c0 c1 c2
    exact ⟨c0, c1, c2⟩
theorem wpList_appn {ops : Array Oper} {rest : List Oper} {o : Oper} {a : Act} {w : World} {Q : Exit → Act → World → Prop} (hgd : o.guard = none) (s x : Operand)
    (ho : o.op = .call { callee := .builtin .append, args := #[s, x], argTypes := #[22, 22] })
    (B : Nat) (q : Option Addr) (cap n : Nat) (l : List Nl) (hown : NlsOwn w B q n cap l) (hs : a.eval s = .slice q n cap)
    (g : Nat) (y : Nl) (hy : InAddr y) (hx : a.eval x = .slice (some ⟨g, 0, none⟩) 1 1) (hc : Blk w g 56 (nlC y)) (h40 : n + 1 ≤ 1099511627776) (hB : B ≤ w.heap.size)
    (h : ∀ q' cap' w', Hid (NlsOwn w' B q' (n + 1) cap' (l ++ [y])) → Hid (Below B w w') → wpList Tryd.prog ops Q rest (a.put o.dst (.slice q' (n + 1) cap')) w') :
    wpList Tryd.prog ops Q (o :: rest) a w := by
  obtain ⟨i0, hi, hz0, hz1, hz2⟩ := info_parts infoNl
  refine wpList_append_own w hgd s x 22 ho B 56 i0 (.agg #[.int .i64 0, .int .u32 0, .int .i64 0]) 3 24 Tryd.underlying22 hi hz0 hz1 hz2 rfl (by decide) _ n _ hs hown.row ⟨g, 0, none⟩ 1 1 (nlC y) hx rfl (fun j u hj => ?_) (fun u hu => ?_) (by unfold maxLen; omega) (by omega) hB (fun v' w' h2 h3 _ => ?_)
  · have hjl : j < 3 := by
      rcases Nat.lt_or_ge j 3 with h | h
      · exact h
      · rw [List.getElem?_eq_none (by simpa [nlC] using h)] at hj; cases hj
    rw [add_litN, Nat.zero_add, hc.cell j (by simpa [nlC] using hjl)]
    have : j = 0 ∨ j = 1 ∨ j = 2 := by omega
    rcases this with rfl | rfl | rfl <;> simpa [nlC] using hj
  · simp [nlC] at hu
    rcases hu with rfl | rfl | rfl <;> rfl
  · obtain ⟨q', cap', rfl, _, _⟩ := rowN_form h2
    refine h q' cap' w' (Lib.hid ⟨by rw [List.length_append, hown.len]; rfl, fun i hi => ?_, ?_⟩) (Lib.hid ?_)
    · rcases Nat.lt_or_ge i l.length with hlt | hge
      · have := hown.addr i hlt
        simpa [List.getD, List.getElem?_append_left hlt] using this
      · have : i = l.length := by simp at hi; omega
        subst this
        simpa [List.getD] using hy
    · unfold ncells at *
      rw [List.flatMap_append]
      simpa using h2
    · refine (Below.refl B w).grown h3 hB fun k hk => ?_
      rcases hown.row.2 with ⟨hv, _⟩ | ⟨g', cap2, cur, hv, hB2, _⟩
      · rw [hv] at hk; cases hk
      · rw [hv] at hk
        have : g' = k := by simpa [Value.ownBlock] using hk
        omega

theorem gotP_bd {xs : List Int} {v n : Int} {s : Nat} (hx : InByte xs) (h : gotP xs = some (v, n, s)) : 0 ≤ v ∧ v < 4294967296 := by
  match xs, hx, h with
  | n0 :: r, hx, h =>
    have h : (if 32 < n0 then none else if r.length < (n0.toNat + 7) / 8 then none else some (getV (r.take ((n0.toNat + 7) / 8) ++ List.replicate (4 - (n0.toNat + 7) / 8) 0), n0, (n0.toNat + 7) / 8 + 1)) = some (v, n, s) := h
    by_cases h1 : 32 < n0
    · rw [if_pos h1] at h; cases h
    · rw [if_neg h1] at h
      by_cases h2 : r.length < (n0.toNat + 7) / 8
      · rw [if_pos h2] at h; cases h
      · rw [if_neg h2] at h
        simp only [Option.some.injEq, Prod.mk.injEq] at h
        obtain ⟨rfl, _, _⟩ := h
        have hr : InByte r := fun i hi => by
          have := hx (i + 1) (by simpa using hi)
          simpa using this
        have hp := inByte_pad hr ((n0.toNat + 7) / 8) (4 - (n0.toNat + 7) / 8)
        obtain ⟨ys, hys⟩ : ∃ ys, r.take ((n0.toNat + 7) / 8) ++ List.replicate (4 - (n0.toNat + 7) / 8) 0 = ys := ⟨_, rfl⟩
        have hl : ys.length = 4 := by
          rw [← hys, List.length_append, List.length_take, List.length_replicate]; omega
        rw [hys] at hp ⊢
        have := getV_bd ys hp 4 (by omega)
        rw [List.take_of_length_le (by omega)] at this
        exact this
theorem firstL_addr {paths : Bool} {xs : List Int} {x : Nl} {s : Nat} (hx : InByte xs) (h : firstL paths xs = some (x, s)) : InAddr x := by
  unfold firstL at h
  have key : ∀ {ys : List Int} {v n : Int} {t : Nat}, InByte ys → gotP ys = some (v, n, t) → 0 ≤ mk v n ∧ mk v n < 4294967296 := by
    intro ys v n t hy hg
    have hb := gotP_bd hy hg
    have := mk_bd v n hb.1 hb.2
    omega
  cases paths
  · simp only [Bool.false_eq_true, if_false, Option.map_eq_some_iff, Prod.mk.injEq] at h
    obtain ⟨⟨v, n, t⟩, hg, rfl, _⟩ := h
    exact key hx hg
  · rw [if_pos rfl] at h
    split at h
    · cases h
    · simp only [Option.map_eq_some_iff, Prod.mk.injEq] at h
      obtain ⟨⟨v, n, t⟩, hg, rfl, _⟩ := h
      exact key (fun i hi => by have := hx (4 + i) (by simp at hi; omega); simpa [List.getD] using this) hg

/-- What bytes tell, behind k that are there; none: they tell none. -/
def getNl (paths : Bool) : Nat → Nat → List Int → Option (List Nl)
  | 0, _, _ => some []
  | f + 1, k, xs => if xs.length = 0 then some [] else match firstL paths xs with
    | none => none
    | some (x, s) => if k = 1024 then none else (getNl paths f (k + 1) (xs.drop s)).map (x :: ·)
def getNls (paths : Bool) (xs : List Int) : Option (List Nl) := getNl paths (xs.length + 1) 0 xs
def NlsTo (w w' : World) (r : Option (List Nl)) (e : Ending) : Prop :=
  match r with
  | some l => ∃ q cap, e = .returned (.tuple #[.slice q l.length cap, .int .i64 0]) ∧ NlsOwn w' w.heap.size q l.length cap l ∧ Below w.heap.size w w'
  | none => e = .returned (.tuple #[.slice none 0 0, .int .i64 60]) ∧ Below w.heap.size w w'
def lenV : Value → Nat
  | .slice _ n _ => n
  | _ => 0
def NGetRel (w : World) (paths : Bool) (R : Option (List Nl)) (b v : Value) (wr : World) : Prop :=
  ∃ (q : Option Addr) (ys : List Int) (m c k : Nat) (lq : Option Addr) (lc f : Nat) (done : List Nl), b = .slice q m c ∧ ys.length = m ∧ m ≤ c ∧ c ≤ maxLen ∧ BytesAt w q ys ∧ v = .slice lq k lc ∧ k ≤ 1024 ∧ NlsOwn wr w.heap.size lq k lc done ∧ m < f ∧ R = (getNl paths f k ys).map (done ++ ·) ∧ Below w.heap.size w wr
set_option maxRecDepth 100000 in
set_option maxHeartbeats 4000000 in
theorem getNl_any (p : Option Addr) (xs : List Int) (n c : Nat) (paths : Bool) (w : World) (hb : BytesAt w p xs) (hn : xs.length = n) (hc : n ≤ c) (hm : c ≤ maxLen) :
    Calls Tryd.prog 36 #[.slice p n c, .bool paths] w fun e w' => NlsTo w w' (getNls paths xs) e := by
  obtain ⟨R, hR⟩ : ∃ R, getNls paths xs = R := ⟨_, rfl⟩
  rw [hR]
  have HR := Lib.hid (show R = (getNl paths (n + 1) 0 xs).map ([] ++ ·) from by rw [← hR, ← hn]; unfold getNls; simp)
  have HB0 := Lib.hid hb
  have HN := Lib.hid hn
  clear hb hn hR
  go_enter Tryd.func36, Tryd.ntmps36
  go_wp2
  go_loopw [0, 6] (fun b v wr => NGetRel w paths R b v wr) (fun b _ _ => lenV b)
  case atStart => exact ⟨p, xs, n, c, 0, none, 0, n + 1, [], rfl, HN.out, hc, hm, HB0.out, rfl, by omega, NlsOwn.nil _ _, by omega, HR.out, Below.refl _ _⟩
  case round =>
    obtain ⟨q, ys, m, c1, k, lq, lc, f, done, rfl, hm1, hm2, hm3, hY, rfl, hk, hO, hf, hRR, hB⟩ := hrel
    have HY := Lib.hid hY
    have HOW := Lib.hid hO
    have HRR := Lib.hid hRR
    have HB := Lib.hid hB
    have HM := Lib.hid hm1
    obtain ⟨f, rfl⟩ : ∃ f', f = f' + 1 := ⟨f - 1, by omega⟩
    clear hY hO hRR hB
    by_cases h0 : m = 0
    · subst h0
      have HD := Lib.hid (show R = some done from by rw [HRR.out, getNl, if_pos HM.out]; simp)
      have hcap := HOW.out.cap
      clear hm1
      go_wp2
      go_ret2
      have hl := HOW.out.len
      rw [HD.out]
      exact ⟨lq, lc, by rw [hl] <;> rfl, by rw [hl]; exact HOW.out, HB.out⟩
    · have t0 : decide ((0 : Int) < (m : Int)) = true := by simp; omega
      have hpos : 0 < m := by omega
      have HF := Lib.hid (first_any q ys m c1 paths wr (HY.out.below HB.out) hm1 hm2 hm3)
      have HST := Lib.hid (show R = (match firstL paths ys with
        | none => none
        | some (x, s) => if k = 1024 then none else (getNl paths f (k + 1) (ys.drop s)).map (x :: ·)).map (done ++ ·) from by rw [HRR.out, getNl, if_neg (by omega)])
      rcases hfl : firstL paths ys with _ | ⟨x, s⟩
      · rw [hfl] at HF
        have HN2 := Lib.hid (show R = none from by rw [HST.out, hfl]; rfl)
        unfold FirstTo at HF
        clear hm1 hfl h0
        go_wp2_with fail
        refine HF.out.mono ?_; rintro e w2 ⟨⟨i, s, rfl⟩, hb2⟩
        have HB2 := Lib.hid (HB.out.trans (hb2.mono HB.out.size))
        clear hb2
        go_wp2_with fail
        go_ret2
        rw [HN2.out]
        exact ⟨rfl, HB2.out.alloc HB2.out.size _⟩
      · have hsl := firstL_len hfl
        have had := firstL_addr (HY.out.1) hfl
        rw [hfl] at HF
        unfold FirstTo at HF
        simp only at HF
        by_cases hk24 : k = 1024
        · have HN2 := Lib.hid (show R = none from by rw [HST.out, hfl]; simp only; rw [if_pos hk24]; rfl)
          subst hk24
          clear hm1 hfl h0
          go_wp2_with fail
          refine HF.out.mono ?_; rintro e w2 ⟨rfl, hb2⟩
          have HB2 := Lib.hid (HB.out.trans (hb2.mono HB.out.size))
          clear hb2
          go_wp2_with fail
          go_ret2
          rw [HN2.out]
          exact ⟨rfl, HB2.out.alloc HB2.out.size _⟩
        · have t1 : ((k : Int) == 1024) = false := by simp; omega
          have hk2 : k < 1024 := by omega
          have HNX := Lib.hid (show R = (getNl paths f (k + 1) (ys.drop s)).map ((done ++ [x]) ++ ·) from by
            rw [HST.out, hfl]; simp only; rw [if_neg hk24, Option.map_map]; congr 1; funext z; simp)
          have E1 := fun u => run_cut_l u q m c1 (s : Int) s rfl (by omega)
          obtain ⟨q2, hq2⟩ : ∃ q2, cutP q c1 s = q2 := ⟨_, rfl⟩
          rw [hq2] at E1
          have HY2 := Lib.hid (show BytesAt w q2 (ys.drop s) from by have := HY.out.cutl c1 s (by omega) (by omega); rw [hq2] at this; exact this)
          have HL2 := Lib.hid (show (ys.drop s).length = m - s from by rw [List.length_drop, hm1])
          have HAD := Lib.hid had
          obtain ⟨id, a, ln⟩ := x
          simp only at HF
          clear hq2 hfl h0 had hk24
          go_wp2_with fail
          refine HF.out.mono ?_; rintro e w2 ⟨rfl, hb2⟩
          have hb3 := newB w2 (.cells #[.int .i64 id, .int .u32 a, .int .i64 ln] 56)
          have hb4 := newB (w2.alloc (.cells #[.int .i64 id, .int .u32 a, .int .i64 ln] 56)) (.cells #[.int .i64 id, .int .u32 a, .int .i64 ln] 56)
          have HB4 := Lib.hid (HB.out.trans (((hb2.trans (hb3.mono hb2.size)).trans (hb4.mono (Nat.le_trans hb2.size hb3.size))).mono HB.out.size))
          have HO4 := Lib.hid (((HOW.out.below hb2).below hb3).below hb4)
          have hKb := Blk.new (w2.alloc (.cells #[.int .i64 id, .int .u32 a, .int .i64 ln] 56)) 56 [.int .i64 id, .int .u32 a, .int .i64 ln]
          rw [show (w2.alloc (.cells #[.int .i64 id, .int .u32 a, .int .i64 ln] 56)).heap.size = w2.heap.size + 1 from sz_alloc _ _] at hKb
          have HK4 := Lib.hid hKb
          clear hb2 hb3 hb4 hKb
          go_wp2_with (refine wpList_appn (o := ⟨some 30, _, _, _, _, _⟩) (by rfl) (.tmp 27) (.tmp 29) (by rfl) w.heap.size lq lc k done HO4.out (by rfl) (w2.heap.size + 1) ⟨id, a, ln⟩ HAD.out (by rfl) HK4.out (by omega) HB4.out.size ?_; intro q5 cap5 w5 hO5 hB5)
          go_roundw
          case rel => exact ⟨q2, ys.drop s, m - s, c1 - s, k + 1, q5, cap5, f, done ++ [⟨id, a, ln⟩], rfl, HL2.out, by omega, by omega, HY2.out, rfl, by omega, hO5.out, by omega, HNX.out, HB4.out.trans hB5.out⟩
          case measure => simp [lenV]; omega
end Go.Proofs.YtpeagakpmjnelaaDoor
namespace Go.Proofs.YtpeagakpmjnelaaDoor
open Go.RowKit

theorem rone_nl (x : Nl) (paths : Bool) (w : World) (had : InAddr x) :
    Calls Tryd.prog 21 #[.agg #[.int .i64 x.id, .int .u32 x.addr, .int .i64 x.len], .bool paths] w fun e w' => e = .returned (.bool (!oddNl (mostN paths) x)) ∧ Below w.heap.size w w' := by
  obtain ⟨id, a, n⟩ := x
  obtain ⟨a0, a1⟩ : 0 ≤ a ∧ a < 4294967296 := had
  simp only
  have hb := newB w (.cells #[.int .i64 id, .int .u32 a, .int .i64 n] 56)
  have HB := Lib.hid hb
  have HC := Lib.hid (rcheck_any a n (w.alloc (.cells #[.int .i64 id, .int .u32 a, .int .i64 n] 56)) a0 a1)
  obtain ⟨r, hr⟩ : ∃ r, oddNl (mostN paths) ⟨id, a, n⟩ = r := ⟨_, rfl⟩
  rw [hr]
  have HE := Lib.hid (show (decide (id < 0) || (decide (mostN paths < id) || !okP a n)) = r from hr)
  clear hr hb
  by_cases h1 : 0 ≤ id
  · have s1 : decide (id < 0) = false := by simp; omega
    by_cases h2 : id ≤ 4294967295
    · cases paths
      · by_cases h3 : id = 0
        · subst h3
          have HF := Lib.hid (show okP a n = !r from by rw [← HE.out]; simp [mostN])
          go_enter Tryd.func21, Tryd.ntmps21
          go_wp2_with fail
          refine HC.out.mono ?_; rintro e w1 ⟨rfl, hb1⟩
          have HB1 := Lib.hid (HB.out.trans (hb1.mono HB.out.size))
          clear hb1
          go_wp2_with fail
          go_ret
          exact ⟨ret_bool HF.out, HB1.out⟩
        · have t3 : (id == 0) = false := by simpa using h3
          have HF := Lib.hid (show r = true from by rw [← HE.out, s1, decide_eq_true (show mostN false < id by unfold mostN; rw [if_neg (by decide)]; omega)]; rfl)
          clear h3 HC
          go_enter Tryd.func21, Tryd.ntmps21
          go_wp2_with fail
          go_ret
          exact ⟨by rw [HF.out] <;> rfl, HB.out⟩
      · have HF := Lib.hid (show okP a n = !r from by rw [← HE.out, s1, decide_eq_false (show ¬ mostN true < id by unfold mostN; rw [if_pos rfl]; omega)]; simp)
        go_enter Tryd.func21, Tryd.ntmps21
        go_wp2_with fail
        refine HC.out.mono ?_; rintro e w1 ⟨rfl, hb1⟩
        have HB1 := Lib.hid (HB.out.trans (hb1.mono HB.out.size))
        clear hb1
        go_wp2_with fail
        go_ret
        exact ⟨ret_bool HF.out, HB1.out⟩
    · have t2 : decide (id ≤ 4294967295) = false := decide_eq_false h2
      have HF := Lib.hid (show r = true from by rw [← HE.out, s1, decide_eq_true (show mostN paths < id by unfold mostN; split <;> omega)]; rfl)
      clear h2 HC
      go_enter Tryd.func21, Tryd.ntmps21
      go_wp2_with fail
      go_ret
      exact ⟨by rw [HF.out] <;> rfl, HB.out⟩
  · have t1 : decide (0 ≤ id) = false := decide_eq_false h1
    have HF := Lib.hid (show r = true from by rw [← HE.out, decide_eq_true (show id < 0 by omega)]; rfl)
    clear h1 HC
    go_enter Tryd.func21, Tryd.ntmps21
    go_wp2_with fail
    go_ret
    exact ⟨by rw [HF.out] <;> rfl, HB.out⟩
set_option maxHeartbeats 1000000 in
theorem rcheckNl_any (p : Option Addr) (l : List Nl) (n c : Nat) (paths : Bool) (w : World) (hx : NlsAt w p l) (hn : l.length = n) (hm : n ≤ maxLen) :
    Calls Tryd.prog 15 #[.slice p n c, .bool paths] w fun e w' => e = .returned (.bool (okNls l paths)) ∧ Below w.heap.size w w' := by
  unfold maxLen at hm
  have HE := Lib.hid (show okNls l paths = (decide (n ≤ 1024) && !(l.any (oddNl (mostN paths)))) by unfold okNls; rw [hn])
  obtain ⟨r, hr⟩ : ∃ r, okNls l paths = r := ⟨_, rfl⟩
  rw [hr] at HE ⊢
  have HX := Lib.hid hx
  have HN := Lib.hid hn
  clear hx hn hr
  go_enter Tryd.func15, Tryd.ntmps15
  go_wp2
  go_loopw [5] (fun i wr => ∃ k : Nat, k ≤ n ∧ i = .int .i64 k ∧ (l.take k).any (oddNl (mostN paths)) = false ∧ Below w.heap.size w wr) (fun i _ => n - (intOf i).toNat)
  case atStart => exact ⟨0, Nat.zero_le _, rfl, rfl, Below.refl _ _⟩
  case round =>
    obtain ⟨k, hk, rfl, hf, hB⟩ := hrel
    have HF := Lib.hid hf
    have HB := Lib.hid hB
    clear hf hB
    by_cases hlt : k < n
    · obtain ⟨b, off, rfl, ⟨c0, c1, c2⟩, had⟩ := nl_cell (HX.out.below HB.out) HN.out hlt
      obtain ⟨x, hx⟩ : ∃ x, l.getD k Nl.none = x := ⟨_, rfl⟩
      rw [hx] at c0 c1 c2 had
      have HXK := Lib.hid hx
      have HOB := Lib.hid (rone_nl x paths wr had)
      obtain ⟨id, a, ln⟩ := x
      simp only at c0 c1 c2 HOB
      clear hx had
      rcases hb : oddNl (mostN paths) ⟨id, a, ln⟩ with _ | _
      · rw [hb] at HOB
        go_wp2_with (go_at_call 21; refine HOB.out.mono ?_; rintro e w2 ⟨rfl, hb2⟩; have HB2 := Lib.hid (HB.out.trans (hb2.mono HB.out.size)); clear hb2)
        go_roundw
        case rel => exact ⟨k + 1, by omega, by go_num, any_step _ Nl.none l k (by rw [HN.out]; exact hlt) HF.out (by rw [HXK.out]; exact hb), HB2.out⟩
        case measure => simp [intOf]; omega
      · rw [hb] at HOB
        have HR := Lib.hid (show r = false from by rw [HE.out, any_take _ Nl.none l k (by rw [HN.out]; exact hlt) HF.out (by rw [HXK.out]; exact hb)]; simp)
        go_wp2_with (go_at_call 21; refine HOB.out.mono ?_; rintro e w2 ⟨rfl, hb2⟩; have HB2 := Lib.hid (HB.out.trans (hb2.mono HB.out.size)); clear hb2)
        go_ret
        exact ⟨by rw [HR.out] <;> rfl, HB2.out⟩
    · obtain rfl : k = n := by omega
      have HR := Lib.hid (show decide ((k : Int) ≤ 1024) = r from by
        have h := HF.out
        rw [List.take_of_length_le (by rw [HN.out]; exact Nat.le_refl _)] at h
        rw [HE.out, h, Bool.not_false, Bool.and_true, decide_eq_decide]; omega)
      go_wp2
      go_ret
      exact ⟨ret_bool HR.out, HB.out⟩
theorem rput_4 (x : Int) (w : World) (h0 : 0 ≤ x) (h1 : x ≤ 4294967295) :
    Calls Tryd.prog 49 #[.int .i64 x, .int .i64 4] w fun e w' => e = .returned (.slice (some ⟨w.heap.size, 0, none⟩) 4 4) ∧ BRow w' w.heap.size (putL x 4) ∧ Below w.heap.size w w' :=
  (rput_fits x 4 w (by omega) (by omega) (fit_four h0 h1)).mono fun _ _ h => ⟨h.1, h.2.1.list, h.2.2⟩
theorem ownB_bytes {w : World} {B : Nat} {p : Option Addr} {n c : Nat} {xs : List Int} (h : OwnB w B (.slice p n c) xs) (hx : InByte xs) : BytesAt w p xs := by
  refine ⟨hx, ?_⟩
  rcases h.2 with ⟨hv, h0⟩ | ⟨g, cap', cur, hv, _⟩
  · left
    have := h.1
    simp only [List.length_map] at this
    simp only [Value.slice.injEq] at hv
    have h2 : xs.length = 0 := by omega
    exact List.eq_nil_of_length_eq_zero h2
  · simp only [Value.slice.injEq] at hv
    obtain ⟨rfl, _, rfl⟩ := hv
    refine .inr ⟨g, 0, rfl, fun i hi => ?_⟩
    have := h.cells (g := g) rfl i (.int .u8 (xs.getD i 0)) (by simp [List.getD, List.getElem?_eq_getElem hi])
    rw [add_litN] at this
    exact this
theorem pfxL_byte {a n : Int} (hk : okP a n = true) : InByte (pfxL a n) := by
  obtain ⟨n0, n1⟩ := okP_len hk
  intro i hi
  unfold pfxL at *
  cases i with
  | zero => simp; omega
  | succ i =>
    have hlt : i < (putL a 4).length := by
      rw [List.length_cons, List.length_take] at hi; omega
    have := putL_byte a 4 i hlt
    have h2 : i < (n.toNat + 7) / 8 := by rw [List.length_cons, List.length_take] at hi; omega
    simpa [List.getD, List.getElem?_take_of_lt h2] using this
theorem rputp_b (a n : Int) (m : Nat) (w : World) (h0 : 0 ≤ a) (h1 : a < 4294967296) (hk : okP a n = true) (hm : (pfxL a n).length = m) :
    Calls Tryd.prog 50 #[.agg #[.int .u32 a, .int .i64 n]] w fun e w' => ∃ g cap, e = .returned (.slice (some ⟨g, 0, none⟩) m cap) ∧ BytesAt w' (some ⟨g, 0, none⟩) (pfxL a n) ∧ Below w.heap.size w w' := by
  obtain ⟨n0, n1⟩ := okP_len hk
  obtain ⟨N, rfl⟩ := Int.eq_ofNat_of_zero_le n0
  exact (rputp_any a N w h0 h1 (by omega)).mono fun _ _ ⟨g, cap, he, ho, hb⟩ => ⟨g, cap, by rw [he, hm], ownB_bytes ho (pfxL_byte hk), hb⟩
set_option maxHeartbeats 1000000 in
theorem rbytes_any (x : Nl) (paths : Bool) (m : Nat) (w : World) (had : InAddr x) (ho : oddNl (mostN paths) x = false) (hm : (nlL paths x).length = m) :
    Calls Tryd.prog 24 #[.agg #[.int .i64 x.id, .int .u32 x.addr, .int .i64 x.len], .bool paths] w fun e w' => ∃ p cap, e = .returned (.slice p m cap) ∧ Own w' w.heap.size p cap (nlL paths x) ∧ Below w.heap.size w w' := by
  obtain ⟨o0, o1, o2⟩ := oddNl_no ho
  obtain ⟨id, a, n⟩ := x
  obtain ⟨a0, a1⟩ : 0 ≤ a ∧ a < 4294967296 := had
  simp only at o0 o1 o2
  simp only
  obtain ⟨W, hW⟩ : ∃ W, w.alloc (.cells #[.int .i64 id, .int .u32 a, .int .i64 n] 56) = W := ⟨_, rfl⟩
  have hb : Below w.heap.size w W := by rw [← hW]; exact newB _ _
  have hK : Blk W w.heap.size 56 [.int .i64 id, .int .u32 a, .int .i64 n] := by rw [← hW]; exact Blk.new w 56 [.int .i64 id, .int .u32 a, .int .i64 n]
  have h5 := pfxL_le a n
  obtain ⟨pl, hpl⟩ : ∃ pl, (pfxL a n).length = pl := ⟨_, rfl⟩
  rw [hpl] at h5
  have HPL := Lib.hid hpl
  have HPP := Lib.hid (fun u => rputp_b a n pl u a0 a1 o2 hpl)
  have HB := Lib.hid hb
  have HK := Lib.hid hK
  have HW := Lib.hid hW
  cases paths
  · have hm' : pl = m := by rw [← hm, ← hpl]; rfl
    subst hm'
    have k1 : (w.alloc (.cells #[.int .i64 id, .int .u32 a, .int .i64 n] 56)).cell? ⟨w.heap.size, 1, none⟩ = some (.int .u32 a) := by rw [hW]; exact hK.cell 1 (by simp)
    have k2 : (w.alloc (.cells #[.int .i64 id, .int .u32 a, .int .i64 n] 56)).cell? ⟨w.heap.size, 2, none⟩ = some (.int .i64 n) := by rw [hW]; exact hK.cell 2 (by simp)
    have HON := Lib.hid (fun v : World => Own.nil v w.heap.size)
    clear hm hpl hW hb hK ho
    go_enter Tryd.func24, Tryd.ntmps24
    go_wp2_with fail
    rw [HW.out]
    clear k1 k2
    (with_reducible refine (HPP.out W).mono ?_); rintro e w2 ⟨g, cap, rfl, hY, hb2⟩
    have HY := Lib.hid hY
    have HB2 := Lib.hid (HB.out.trans (hb2.mono HB.out.size))
    clear hY hb2
    go_wp2_with (refine wpList_appo (o := ⟨some 14, _, _, _, _, _⟩) (by rfl) (.tmp 10) (.tmp 13) (by rfl) w.heap.size none 0 [] (HON.out _) 0 (by rfl) (by rfl) (some ⟨g, 0, none⟩) pl cap (pfxL a n) HY.out HPL.out (by rfl) (0 + pl) (by rfl) (by omega) HB2.out.size ?_; intro q3 cap3 w3 hO3 hB3 hG3)
    go_ret
    exact ⟨q3, cap3, by rfl, hO3.out, HB2.out.trans hB3.out⟩
  · have hm' : 4 + pl = m := by rw [← hm, ← hpl]; unfold nlL; rw [if_pos rfl, List.length_append, putL_len]
    subst hm'
    have k0 : (w.alloc (.cells #[.int .i64 id, .int .u32 a, .int .i64 n] 56)).cell? ⟨w.heap.size, 0, none⟩ = some (.int .i64 id) := by rw [hW]; exact hK.cell 0 (by simp)
    have HPI := Lib.hid (rput_4 id W o0 o1)
    clear hm hpl hW hb hK ho
    go_enter Tryd.func24, Tryd.ntmps24
    go_wp2_with fail
    rw [HW.out]
    clear k0
    (with_reducible refine HPI.out.mono ?_); rintro e w2 ⟨rfl, hr, hb2⟩
    have HO2 := Lib.hid (show Own w2 w.heap.size (some ⟨W.heap.size, 0, none⟩) 4 (putL id 4) from by
      have h := Own.of_row hr (putL_byte _ _) (by rw [putL_len]; unfold maxLen; omega) HB.out.size
      rw [putL_len] at h; exact h)
    have HB2 := Lib.hid (HB.out.trans (hb2.mono HB.out.size))
    have HK2 := Lib.hid (HK.out.next hb2)
    have k1 := HK2.out.cell 1 (by simp)
    have k2 := HK2.out.cell 2 (by simp)
    clear hr hb2
    go_wp2_with fail
    clear k1 k2
    (with_reducible refine (HPP.out w2).mono ?_); rintro e w3 ⟨g, cap, rfl, hY, hb3⟩
    have HY := Lib.hid hY
    have HO3 := Lib.hid (HO2.out.below hb3)
    have HB3 := Lib.hid (HB2.out.trans (hb3.mono HB2.out.size))
    clear hY hb3
    go_wp2_with (refine wpList_appo (o := ⟨some 14, _, _, _, _, _⟩) (by rfl) (.tmp 10) (.tmp 13) (by rfl) w.heap.size (some ⟨W.heap.size, 0, none⟩) 4 (putL id 4) HO3.out 4 (putL_len ..) (by rfl) (some ⟨g, 0, none⟩) pl cap (pfxL a n) HY.out HPL.out (by rfl) (4 + pl) (by rfl) (by omega) HB3.out.size ?_; intro q4 cap4 w4 hO4 hB4 hG4)
    go_ret
    exact ⟨q4, cap4, rfl, hO4.out, HB3.out.trans hB4.out⟩
end Go.Proofs.YtpeagakpmjnelaaDoor
namespace Go.Proofs.YtpeagakpmjnelaaDoor
open Go.RowKit

theorem nl_under : Tryd.prog.underlying 56 = some (.struct (Tryd.prog.fieldsOf 56)) := by kernel_rfl
theorem nl_held : Tryd.prog.stoodInHeld 56 = false := by kernel_rfl
theorem nl_guard : Tryd.prog.eqGuardType Tryd.prog.depth 56 = false := by kernel_rfl
theorem nl_fields : (Tryd.prog.fieldsOf 56).toList.map (fun f => (f.name, f.type, f.offset)) = [("ID", 3, 0), ("P", 54, 1)] := by kernel_rfl
theorem nl_equalIn (d : Nat) (i a n j b m : Int) (w : World) :
    (Op.equalIn (d + 1 + 1 + 1) 56 (.agg #[.int .i64 i, .int .u32 a, .int .i64 n]) (.agg #[.int .i64 j, .int .u32 b, .int .i64 m])).run Tryd.prog w = .ok (i == j && (a == b && n == m)) w := by
  rw [run_equalIn_struct w (d + 1 + 1) _ _ _ nl_under nl_held]
  have hf := nl_fields
  generalize (Tryd.prog.fieldsOf 56).toList = fs at hf
  obtain ⟨f0, f1, rfl⟩ := list_two (l := fs) (by simpa using congrArg List.length hf)
  simp only [List.map_cons, List.map_nil, List.cons.injEq, Prod.mk.injEq, and_true] at hf
  obtain ⟨⟨n0, t0, o0⟩, n1, t1, o1⟩ := hf
  have q0 : (Op.equalIn (d + 1 + 1) 3 (.int .i64 i) (.int .i64 j)).run Tryd.prog w = .ok (i == j) w := run_equalIn_int w (d + 1) _ _ _ i j Tryd.underlying3
  have q1 := pfx_equalIn d a n b m w
  have p0 : ∀ x y z : Value, (part 3 #[x, y, z] 0).run Tryd.prog w = .ok x w := fun x y z => by kernel_rfl
  have p1 : ∀ x y z : Value, (part 54 #[x, y, z] 1).run Tryd.prog w = .ok (.agg #[y, z]) w := fun x y z => by kernel_rfl
  simp only [Op.eqFields, n0, n1, t0, t1, o0, o1]
  rw [if_pos (by decide), if_pos (by decide)]
  simp only [Sem.run_bind, p0, q0, Result.andThen_ok]
  rcases i == j with _ | _
  · simp [Sem.run_pure]
  · simp only [Bool.not_true, Bool.false_eq_true, if_false, Sem.run_bind, p1, q1, Result.andThen_ok]
    rcases a == b && n == m with _ | _ <;> simp [Sem.run_pure]
theorem nl_equal (i a n j b m : Int) (w : World) :
    (Op.equalIn 10000 56 (.agg #[.int .i64 i, .int .u32 a, .int .i64 n]) (.agg #[.int .i64 j, .int .u32 b, .int .i64 m])).run Tryd.prog w = .ok (i == j && (a == b && n == m)) w := nl_equalIn 9997 i a n j b m w
theorem nl_eql (i a n j b m : Int) (w : World) :
    (binOp .eql 56 (.agg #[.int .i64 i, .int .u32 a, .int .i64 n]) (.agg #[.int .i64 j, .int .u32 b, .int .i64 m])).run Tryd.prog w = .ok (.bool (i == j && (a == b && n == m))) w := by
  rw [run_eql_struct, nl_equal]; rfl
theorem nl_neq (i a n j b m : Int) (w : World) :
    (binOp .neq 56 (.agg #[.int .i64 i, .int .u32 a, .int .i64 n]) (.agg #[.int .i64 j, .int .u32 b, .int .i64 m])).run Tryd.prog w = .ok (.bool (!(i == j && (a == b && n == m)))) w := by
  rw [run_neq_struct, nl_equal]; rfl
theorem nl_eqGuard (op : BinOp) (x y : Operand) (xs ys : Array Value) (w : World) : (eqGuard op 56 x y (.agg xs) (.agg ys)).run Tryd.prog w = .ok () w := run_eqGuard_agg w op _ x y xs ys nl_guard

set_option maxHeartbeats 2000000 in
theorem rputNl_any (p : Option Addr) (l : List Nl) (n c : Nat) (paths : Bool) (w : World) (hx : NlsAt w p l) (hn : l.length = n) (hk : okNls l paths = true) :
    Calls Tryd.prog 16 #[.slice p n c, .bool paths] w fun e w' => ∃ q cap, e = .returned (.slice q (nlsL paths l).length cap) ∧ Own w' w.heap.size q cap (nlsL paths l) ∧ Below w.heap.size w w' := by
  obtain ⟨h24, hodd⟩ := okNls_yes hk
  have hn24 : n ≤ 1024 := by omega
  have HX := Lib.hid hx
  have HN := Lib.hid hn
  have HO := Lib.hid hodd
  clear hx hn hk hodd h24
  go_enter Tryd.func16, Tryd.ntmps16
  go_wp2_with fail
  go_loopw [5, 6] (fun b i wr => NlRel w paths n l b i wr) (fun _ i _ => n - (intOf i).toNat)
  case atStart => exact ⟨0, 0, none, 0, Nat.zero_le _, rfl, rfl, rfl, by omega, Own.nil _ _, Below.refl _ _⟩
  case round =>
    obtain ⟨k, m, z, zc, hkn, rfl, rfl, hm, hm9, hO, hB⟩ := hrel
    have HOW := Lib.hid hO
    have HB := Lib.hid hB
    have HM := Lib.hid hm
    clear hO hB hm
    by_cases hlt : k < n
    · obtain ⟨b, off, rfl, ⟨c0, c1, c2⟩, had⟩ := nl_cell (HX.out.below HB.out) HN.out hlt
      have hod := HO.out k (by rw [HN.out]; exact hlt)
      have HS := Lib.hid (nlsL_snoc paths l k (by rw [HN.out]; exact hlt))
      obtain ⟨x, hx⟩ : ∃ x, l.getD k Nl.none = x := ⟨_, rfl⟩
      rw [hx] at c0 c1 c2 hod HS had
      have h5 := pfxL_le x.addr x.len
      obtain ⟨pl, hpl⟩ : ∃ pl, (nlL paths x).length = pl := ⟨_, rfl⟩
      have hp9 : pl ≤ 9 := by
        rw [← hpl]; unfold nlL
        rw [List.length_append]
        cases paths
        · simp; omega
        · simp [putL_len]; omega
      have HPL := Lib.hid hpl
      have HBY := Lib.hid (rbytes_any x paths pl wr had hod hpl)
      obtain ⟨id, a, ln⟩ := x
      simp only at c0 c1 c2 HBY
      clear hod had hx hpl h5
      go_wp2_with fail
      (with_reducible refine HBY.out.mono ?_); rintro e w2 ⟨q, cap, rfl, hY, hb⟩
      have HY := Lib.hid hY.bytes
      have HO2 := Lib.hid (HOW.out.below hb)
      have HB2 := Lib.hid (HB.out.trans (hb.mono HB.out.size))
      clear hY hb HBY c0 c1 c2
      go_wp2_with (refine wpList_appo (o := ⟨some 20, _, _, _, _, _⟩) (by rfl) (.tmp 13) (.tmp 19) (by rfl) w.heap.size z zc (nlsL paths (l.take k)) HO2.out m HM.out (by rfl) q pl cap (nlL paths ⟨id, a, ln⟩) HY.out HPL.out (by rfl) (m + pl) (by rfl) (by omega) HB2.out.size ?_; intro q3 cap3 w3 hO3 hB3 hG3)
      go_roundw
      case rel => exact ⟨k + 1, m + pl, q3, cap3, by omega, by go_num, rfl, by rw [HS.out, List.length_append, HM.out, HPL.out], by omega, by rw [HS.out]; exact hO3.out, HB2.out.trans hB3.out⟩
      case measure => simp [intOf]; omega
    · obtain rfl : k = n := by omega
      go_wp2
      go_ret
      have hO := HOW.out
      have hL := HM.out
      rw [List.take_of_length_le (by rw [HN.out]; exact Nat.le_refl _)] at hO hL
      exact ⟨z, zc, by rw [hL] <;> rfl, hO, HB.out⟩

set_option maxHeartbeats 2000000 in
theorem rsameNl_yes (p q : Option Addr) (l : List Nl) (n c d : Nat) (w : World) (h1 : NlsAt w p l) (h2 : NlsAt w q l) (hn : l.length = n) (hm : n ≤ maxLen) :
    Calls Tryd.prog 18 #[.slice p n c, .slice q n d] w fun e w' => e = .returned (.bool true) ∧ Below w.heap.size w w' := by
  unfold maxLen at hm
  have H1 := Lib.hid h1
  have H2 := Lib.hid h2
  have HN := Lib.hid hn
  clear h1 h2 hn
  go_enter Tryd.func18, Tryd.ntmps18
  go_wp2_with fail
  go_loopw [5] (fun i wr => ∃ k : Nat, k ≤ n ∧ i = .int .i64 k ∧ Below w.heap.size w wr) (fun i _ => n - (intOf i).toNat)
  case atStart => exact ⟨0, Nat.zero_le _, rfl, Below.refl _ _⟩
  case round =>
    obtain ⟨k, hk, rfl, hB⟩ := hrel
    have HB := Lib.hid hB
    clear hB
    by_cases hlt : k < n
    · obtain ⟨b, off, rfl, ⟨c0, c1, c2⟩, _⟩ := nl_cell (H1.out.below HB.out) HN.out hlt
      obtain ⟨b2, off2, rfl, ⟨d0, d1, d2⟩, _⟩ := nl_cell (H2.out.below HB.out) HN.out hlt
      obtain ⟨x, hx⟩ : ∃ x, l.getD k Nl.none = x := ⟨_, rfl⟩
      rw [hx] at c0 c1 c2 d0 d1 d2
      obtain ⟨id, a, ln⟩ := x
      simp only at c0 c1 c2 d0 d1 d2
      have hg := nl_eqGuard
      have hq := nl_neq id a ln id a ln
      have hz : (!(id == id && (a == a && ln == ln))) = false := by simp
      rw [hz] at hq
      clear hx hz
      have hS : wr.drew.cell? ⟨b, off + k * 3, none⟩ = some (.int .i64 id) ∧ wr.drew.cell? ⟨b, off + k * 3 + 1, none⟩ = some (.int .u32 a) ∧ wr.drew.cell? ⟨b, off + k * 3 + 2, none⟩ = some (.int .i64 ln) ∧ wr.drew.cell? ⟨b2, off2 + k * 3, none⟩ = some (.int .i64 id) ∧ wr.drew.cell? ⟨b2, off2 + k * 3 + 1, none⟩ = some (.int .u32 a) ∧ wr.drew.cell? ⟨b2, off2 + k * 3 + 2, none⟩ = some (.int .i64 ln) := ⟨c0, c1, c2, d0, d1, d2⟩
      go_wp2_with fail
      clear c0 c1 c2 d0 d1 d2
      go_region_held (fun w' => w'.cell? ⟨b, off + k * 3, none⟩ = some (.int .i64 id) ∧ w'.cell? ⟨b, off + k * 3 + 1, none⟩ = some (.int .u32 a) ∧ w'.cell? ⟨b, off + k * 3 + 2, none⟩ = some (.int .i64 ln) ∧ w'.cell? ⟨b2, off2 + k * 3, none⟩ = some (.int .i64 id) ∧ w'.cell? ⟨b2, off2 + k * 3 + 1, none⟩ = some (.int .u32 a) ∧ w'.cell? ⟨b2, off2 + k * 3 + 2, none⟩ = some (.int .i64 ln)) (with_reducible assumption) (fail)
      go_wp2_with fail
      go_roundw
      case rel => exact ⟨k + 1, by omega, by go_num, HB.out.drew⟩
      case measure => simp [intOf]; omega
    · obtain rfl : k = n := by omega
      go_wp2
      go_ret
      exact ⟨rfl, HB.out⟩
end Go.Proofs.YtpeagakpmjnelaaDoor
namespace Go.Proofs.YtpeagakpmjnelaaDoor
open Go.RowKit

def RNlsTo (w w' : World) (r : Option (List Nl)) (e : Ending) : Prop :=
  match r with
  | some l => ∃ q cap, e = .returned (.tuple #[.slice q l.length cap, .bool true]) ∧ NlsOwn w' w.heap.size q l.length cap l ∧ Below w.heap.size w w'
  | none => e = .returned (.tuple #[.slice none 0 0, .bool false]) ∧ Below w.heap.size w w'
theorem rget_4 (p : Option Addr) (xs : List Int) (c : Nat) (w : World) (hl : xs.length = 4) (hb : BytesAt w p xs) :
    Calls Tryd.prog 66 #[.slice p 4 c] w fun e w' => e = .returned (.int .i64 (getV xs)) ∧ w = w' := by
  have h := rget_any p xs c w (by omega) hb
  rw [hl] at h; exact h
end Go.Proofs.YtpeagakpmjnelaaDoor
namespace Go.Proofs.YtpeagakpmjnelaaDoor
open Go.RowKit

def sizeN (x : Nl) (paths : Bool) : Nat := if okNls [x] paths then (nlL paths x).length else 0
set_option maxHeartbeats 2000000 in
theorem sizeNl_any (i a n : Int) (paths : Bool) (w : World) (had : InAddr ⟨i, a, n⟩) :
    Calls Tryd.prog 52 #[.agg #[.int .i64 i, .int .u32 a, .int .i64 n], .bool paths] w fun e w' => e = .returned (.int .i64 (sizeN ⟨i, a, n⟩ paths)) ∧ Below w.heap.size w w' := by
  obtain ⟨V, hV⟩ : ∃ V, (w.alloc (.cells #[.int .i64 i, .int .u32 a, .int .i64 n] 56)).alloc (.cells #[.int .i64 i, .int .u32 a, .int .i64 n] 56) = V := ⟨_, rfl⟩
  have hbV : Below w.heap.size w V := by rw [← hV]; exact two_below _ _ _
  have hK2 : Blk V (w.heap.size + 1) 56 [.int .i64 i, .int .u32 a, .int .i64 n] := by
    rw [← hV, ← sz_alloc w (.cells #[.int .i64 i, .int .u32 a, .int .i64 n] 56)]
    exact Blk.new _ 56 [.int .i64 i, .int .u32 a, .int .i64 n]
  have hx : NlsAt V (some ⟨w.heap.size + 1, 0, none⟩) [⟨i, a, n⟩] := ⟨fun k hk => by
    have : k = 0 := by simpa using hk
    subst this; exact had, .inr ⟨w.heap.size + 1, 0, rfl, fun k hk => by
    have : k = 0 := by simpa using hk
    subst this
    exact ⟨hK2.cell 0 (by simp), hK2.cell 1 (by simp), hK2.cell 2 (by simp)⟩⟩⟩
  have HV := Lib.hid hV
  have HB := Lib.hid hbV
  rcases hk : okNls [⟨i, a, n⟩] paths with _ | _
  · have HP := Lib.hid (putNl_no _ [⟨i, a, n⟩] 1 1 paths V hx rfl (by unfold maxLen; omega) hk)
    rw [show sizeN ⟨i, a, n⟩ paths = 0 by unfold sizeN; rw [hk]; rfl]
    clear hV hbV hK2 hx hk had
    go_enter Tryd.func52, Tryd.ntmps52
    go_wp2_with fail
    rw [HV.out]
    refine HP.out.mono ?_; rintro e w2 ⟨rfl, hb2⟩
    have HB2 := Lib.hid (HB.out.trans (hb2.mono HB.out.size))
    clear hb2
    go_wp2_with fail
    go_ret
    exact ⟨rfl, HB2.out⟩
  · have HP := Lib.hid (putNl_ok _ [⟨i, a, n⟩] 1 1 paths V hx rfl hk)
    have hl : (nlsL paths [⟨i, a, n⟩]).length = sizeN ⟨i, a, n⟩ paths := by unfold sizeN; rw [hk]; simp [nlsL]
    obtain ⟨S, hS⟩ : ∃ S, sizeN ⟨i, a, n⟩ paths = S := ⟨_, rfl⟩
    rw [hl, hS] at HP
    rw [hS]
    clear hV hbV hK2 hx hk had hl hS
    go_enter Tryd.func52, Tryd.ntmps52
    go_wp2_with fail
    rw [HV.out]
    refine HP.out.mono ?_; rintro e w2 ⟨q, cap, rfl, _, hb2⟩
    have HB2 := Lib.hid (HB.out.trans (hb2.mono HB.out.size))
    clear hb2
    go_wp2_with fail
    go_ret
    exact ⟨rfl, HB2.out⟩
end Go.Proofs.YtpeagakpmjnelaaDoor
namespace Go.Proofs.YtpeagakpmjnelaaDoor
open Go.RowKit

theorem nat_dvd_back {A p q : Nat} (h : A / 2 ^ p * 2 ^ p = A) (hqp : q ≤ p) : A / 2 ^ q * 2 ^ q = A := by
  have h1 : 2 ^ q ∣ 2 ^ p := Nat.pow_dvd_pow 2 hqp
  have h2 : 2 ^ p ∣ A := ⟨A / 2 ^ p, by rw [Nat.mul_comm]; exact h.symm⟩
  exact Nat.div_mul_cancel (Nat.dvd_trans h1 h2)
theorem pad_back (A k : Nat) (hk : k ≤ 4) (hA : A < 4294967296) (h : A / 2 ^ (8 * (4 - k)) * 2 ^ (8 * (4 - k)) = A) :
    getV ((putL (A : Int) 4).take k ++ List.replicate (4 - k) 0) = A := by
  have : k = 0 ∨ k = 1 ∨ k = 2 ∨ k = 3 ∨ k = 4 := by omega
  rcases this with rfl | rfl | rfl | rfl | rfl
  · rw [show (2 : Nat) ^ (8 * (4 - 0)) = 4294967296 from rfl] at h
    simp [putL, List.range_succ, byteOf, getV, List.replicate]; omega
  · rw [show (2 : Nat) ^ (8 * (4 - 1)) = 16777216 from rfl] at h
    simp [putL, List.range_succ, byteOf, getV, List.replicate]; omega
  · rw [show (2 : Nat) ^ (8 * (4 - 2)) = 65536 from rfl] at h
    simp [putL, List.range_succ, byteOf, getV, List.replicate]; omega
  · rw [show (2 : Nat) ^ (8 * (4 - 3)) = 256 from rfl] at h
    simp [putL, List.range_succ, byteOf, getV]; omega
  · simp [putL, List.range_succ, byteOf, getV]; omega
theorem okP_eq {a n : Int} (h : okP a n = true) : a = mk a n ∧ n = cl n := by
  simpa [okP] using h
theorem pfx_got {a n : Int} (xs : List Int) (h0 : 0 ≤ a) (h1 : a < 4294967296) (hk : okP a n = true) : gotP (pfxL a n ++ xs) = some (a, n, (pfxL a n).length) := by
  have ⟨n0, n1⟩ := okP_len hk
  obtain ⟨N, rfl⟩ := Int.eq_ofNat_of_zero_le n0
  obtain ⟨A, rfl⟩ := Int.eq_ofNat_of_zero_le h0
  have hN : N ≤ 32 := by omega
  have hA : A < 4294967296 := by omega
  obtain ⟨k, hkk⟩ : ∃ k, (N + 7) / 8 = k := ⟨_, rfl⟩
  have hk4 : k ≤ 4 := by omega
  have hm := (okP_eq hk).1
  rw [mk_div A N hA hN] at hm
  have hb := pad_back A k hk4 hA (nat_dvd_back (p := 32 - N) (by omega) (by omega))
  have hl : ((putL (A : Int) 4).take k).length = k := by rw [List.length_take, putL_len]; omega
  unfold pfxL
  rw [Int.toNat_natCast, hkk, List.cons_append]
  simp only [gotP]
  rw [if_neg (by omega), Int.toNat_natCast, hkk, if_neg (by rw [List.length_append, hl]; omega)]
  rw [List.take_append_of_le_length (by rw [hl]; exact Nat.le_refl _), List.take_of_length_le (by rw [hl]; exact Nat.le_refl _), hb, List.length_cons, hl]
theorem first_put (paths : Bool) (x : Nl) (rest : List Int) (had : InAddr x) (ho : oddNl (mostN paths) x = false) : firstL paths (nlL paths x ++ rest) = some (x, (nlL paths x).length) := by
  obtain ⟨o0, o1, o2⟩ := oddNl_no ho
  obtain ⟨id, a, n⟩ := x
  obtain ⟨a0, a1⟩ : 0 ≤ a ∧ a < 4294967296 := had
  simp only at o0 o1 o2
  obtain ⟨e1, e2⟩ := okP_eq o2
  cases paths
  · have hid : id = 0 := by
      have : mostN false = 0 := rfl
      omega
    subst hid
    show (gotP (pfxL a n ++ rest)).map _ = _
    rw [pfx_got rest a0 a1 o2]
    simp only [Option.map_some]
    rw [← e1, ← e2]
    rfl
  · have hm : mostN true = 4294967295 := rfl
    have hl : (putL id 4).length = 4 := putL_len ..
    have hd : (nlL true ⟨id, a, n⟩ ++ rest) = putL id 4 ++ (pfxL a n ++ rest) := by
      show (putL id 4 ++ pfxL a n) ++ rest = _
      rw [List.append_assoc]
    have hlen : (nlL true ⟨id, a, n⟩).length = 4 + (pfxL a n).length := by
      show (putL id 4 ++ pfxL a n).length = _
      rw [List.length_append, hl]
    rw [hlen, hd]
    unfold firstL
    rw [if_pos rfl, if_neg (by rw [List.length_append, hl]; omega), List.drop_left' hl, List.take_left' hl, pfx_got rest a0 a1 o2]
    have hv : getV (putL id 4) = id := by
      have h5 := putL_back (n := id) (wide := 4) (by omega) (by omega) (fit_four o0 (by omega))
      exact h5
    simp only [Option.map_some]
    rw [hv, ← e1, ← e2]
theorem nlsL_app (paths : Bool) (l m : List Nl) : nlsL paths (l ++ m) = nlsL paths l ++ nlsL paths m := by unfold nlsL; rw [List.flatMap_append]
theorem nlsL_cons (paths : Bool) (x : Nl) (t : List Nl) : nlsL paths (x :: t) = nlL paths x ++ nlsL paths t := by unfold nlsL; rw [List.flatMap_cons]
theorem nlL_pos (paths : Bool) (x : Nl) : 0 < (nlL paths x).length := by
  unfold nlL pfxL
  rw [List.length_append, List.length_cons]
  omega
theorem getNl_step {paths : Bool} {f k : Nat} {xs : List Int} {x : Nl} {s : Nat} (h : firstL paths xs = some (x, s)) (h0 : xs.length ≠ 0) : getNl paths (f + 1) k xs = if k = 1024 then none else (getNl paths f (k + 1) (xs.drop s)).map (x :: ·) := by
  rw [getNl, if_neg h0, h]
theorem getNl_put (paths : Bool) : ∀ (l : List Nl) (f k : Nat), (∀ x ∈ l, InAddr x ∧ oddNl (mostN paths) x = false) → k + l.length ≤ 1024 → (nlsL paths l).length < f → getNl paths f k (nlsL paths l) = some l
  | [], 0, _, _, _, h => by omega
  | [], f + 1, k, _, _, _ => by rw [show nlsL paths [] = [] from rfl, getNl]; rfl
  | x :: t, 0, _, _, _, h => by omega
  | x :: t, f + 1, k, ho, hk, hf => by
    have hp := nlL_pos paths x
    rw [nlsL_cons] at hf ⊢
    rw [List.length_append] at hf
    simp at hk
    rw [getNl_step (first_put paths x _ (ho x (by simp)).1 (ho x (by simp)).2) (by rw [List.length_append]; omega), if_neg (by omega), List.drop_left' rfl, getNl_put paths t f (k + 1) (fun y hy => ho y (by simp [hy])) (by omega) (by omega)]
    rfl
theorem getNl_many (paths : Bool) : ∀ (l : List Nl) (f k : Nat), (∀ x ∈ l, InAddr x ∧ oddNl (mostN paths) x = false) → k ≤ 1024 → 1024 < k + l.length → (nlsL paths l).length < f → getNl paths f k (nlsL paths l) = none
  | [], _, _, _, h, h2, _ => by simp at h2; omega
  | x :: t, 0, _, _, _, _, h => by omega
  | x :: t, f + 1, k, ho, hk, hk2, hf => by
    have hp := nlL_pos paths x
    rw [nlsL_cons] at hf ⊢
    rw [List.length_append] at hf
    simp at hk2
    rw [getNl_step (first_put paths x _ (ho x (by simp)).1 (ho x (by simp)).2) (by rw [List.length_append]; omega)]
    by_cases h4 : k = 1024
    · rw [if_pos h4]
    · rw [if_neg h4, List.drop_left' rfl, getNl_many paths t f (k + 1) (fun y hy => ho y (by simp [hy])) (by omega) (by omega) (by omega)]
      rfl
end Go.Proofs.YtpeagakpmjnelaaDoor
