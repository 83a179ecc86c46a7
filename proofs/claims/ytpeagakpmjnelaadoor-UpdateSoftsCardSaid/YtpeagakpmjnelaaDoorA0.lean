/- attr: numbers and segments in memory; what attributes may be. -/
import Derived.Test.YtpeagakpmjnelaaDoorSd4
namespace Go.Proofs.YtpeagakpmjnelaaDoor.Ax
open Go.RowKit
set_option maxRecDepth 100000

/-- A slice's numbers, wherever they lie. -/
def IntsAt (w : World) (p : Option Addr) (xs : List Int) : Prop :=
  xs = [] ∨ ∃ b off, p = some ⟨b, off, none⟩ ∧ ∀ i, i < xs.length → w.cell? ⟨b, off + i, none⟩ = some (.int .i64 (xs.getD i 0))
theorem IntsAt.nil (w : World) (p : Option Addr) : IntsAt w p [] := .inl rfl
theorem IntsAt.below {w w' : World} {p : Option Addr} {xs : List Int} (h : IntsAt w p xs) (hb : Below w.heap.size w w') : IntsAt w' p xs := by
  rcases h with h | ⟨b, off, hp, hc⟩
  · exact .inl h
  · exact .inr ⟨b, off, hp, fun i hi => kept hb (hc i hi)⟩
/-- A segment of a path: a set or not, and its numbers. -/
structure Seg where
  set : Bool
  nums : List Int
def Seg.none : Seg := ⟨false, []⟩
def SegAt (w : World) (b off : Nat) (s : Seg) : Prop :=
  w.cell? ⟨b, off, none⟩ = some (.bool s.set) ∧ ∃ q n c, w.cell? ⟨b, off + 1, none⟩ = some (.slice q n c) ∧ s.nums.length = n ∧ n ≤ c ∧ c ≤ maxLen ∧ IntsAt w q s.nums
theorem SegAt.below {w w' : World} {b off : Nat} {s : Seg} (h : SegAt w b off s) (hb : Below w.heap.size w w') : SegAt w' b off s := by
  obtain ⟨h1, q, n, c, h2, h3, h4, h5, h6⟩ := h
  exact ⟨kept hb h1, q, n, c, kept hb h2, h3, h4, h5, h6.below hb⟩
def SegsAt (w : World) (p : Option Addr) (l : List Seg) : Prop :=
  l = [] ∨ ∃ b off, p = some ⟨b, off, none⟩ ∧ ∀ i, i < l.length → SegAt w b (off + i * 2) (l.getD i Seg.none)
theorem SegsAt.nil (w : World) (p : Option Addr) : SegsAt w p [] := .inl rfl
theorem SegsAt.below {w w' : World} {p : Option Addr} {l : List Seg} (h : SegsAt w p l) (hb : Below w.heap.size w w') : SegsAt w' p l := by
  rcases h with h | ⟨b, off, hp, hc⟩
  · exact .inl h
  · exact .inr ⟨b, off, hp, fun i hi => (hc i hi).below hb⟩
/-- Attributes. -/
structure At where
  origin : Int
  path : List Seg
  next : Int
  med : Int
  pref : Int
  comms : List Int
def At.zero : At := ⟨0, [], 0, 0, 0, []⟩
/-- Where attributes' lists lie. -/
structure Loc where
  pp : Option Addr
  pn : Nat
  pc : Nat
  cp : Option Addr
  cn : Nat
  cc : Nat
def atL (a : At) (l : Loc) : List Value := [.int .i64 a.origin, .slice l.pp l.pn l.pc, .int .u32 a.next, .int .i64 a.med, .int .i64 a.pref, .slice l.cp l.cn l.cc]
structure AtAt (w : World) (a : At) (l : Loc) : Prop where
  path : SegsAt w l.pp a.path
  pn : a.path.length = l.pn
  pc : l.pn ≤ l.pc
  pm : l.pc ≤ maxLen
  comms : IntsAt w l.cp a.comms
  cn : a.comms.length = l.cn
  cc : l.cn ≤ l.cc
  cm : l.cc ≤ maxLen
  n0 : 0 ≤ a.next
  n1 : a.next ≤ 4294967295
theorem AtAt.below {w w' : World} {a : At} {l : Loc} (h : AtAt w a l) (hb : Below w.heap.size w w') : AtAt w' a l :=
  ⟨h.path.below hb, h.pn, h.pc, h.pm, h.comms.below hb, h.cn, h.cc, h.cm, h.n0, h.n1⟩

def oddB (lo hi n : Int) : Bool := decide (n < lo) || decide (hi < n)
theorem oddB_no {lo hi n : Int} (h : oddB lo hi n = false) : lo ≤ n ∧ n ≤ hi := by
  simp [oddB] at h; omega
def mostA (four : Bool) : Int := if four then 4294967295 else 65535
def wideA (four : Bool) : Nat := if four then 4 else 2
def segOdd (hi : Int) (s : Seg) : Bool := s.nums.length == 0 || (decide (64 < s.nums.length) || s.nums.any (oddB 0 hi))
def okPath (l : List Seg) (four : Bool) : Bool := decide (l.length ≤ 8) && !(l.any (segOdd (mostA four)))
def okComms (l : List Int) : Bool := decide (l.length ≤ 32) && !(l.any (oddB 0 4294967295))
def okA (a : At) (four : Bool) : Bool := !oddB 0 2 a.origin && (okPath a.path four && (!(a.next == 0) && (!oddB (-1) 4294967295 a.med && (!oddB (-1) 4294967295 a.pref && okComms a.comms))))

theorem any_take {α : Type} (f : α → Bool) (d : α) : ∀ (l : List α) (k : Nat), k < l.length → (l.take k).any f = false → f (l.getD k d) = true → l.any f = true
  | [], k, h, _, _ => by simp at h
  | a :: t, 0, _, _, h => by simp at h; simp [h]
  | a :: t, k + 1, h, h1, h2 => by
    simp only [List.take_succ_cons, List.any_cons, Bool.or_eq_false_iff] at h1
    have := any_take f d t k (by simpa using h) h1.2 (by simpa using h2)
    simp [this]
theorem any_step {α : Type} (f : α → Bool) (d : α) : ∀ (l : List α) (k : Nat), k < l.length → (l.take k).any f = false → f (l.getD k d) = false → (l.take (k + 1)).any f = false
  | [], k, h, _, _ => by simp at h
  | a :: t, 0, _, _, h => by simp at h; simp [h]
  | a :: t, k + 1, h, h1, h2 => by
    simp only [List.take_succ_cons, List.any_cons, Bool.or_eq_false_iff] at h1 ⊢
    exact ⟨h1.1, any_step f d t k (by simpa using h) h1.2 (by simpa using h2)⟩

/-! Functions made of two bounds. -/
/-- The function that tells what is odd, and its bounds in memory. -/
def oddF (g : Nat) : Value := .func (.func 95) #[] #[.pointer (some ⟨g, 0, none⟩), .pointer (some ⟨g + 1, 0, none⟩)]
def OddAt (w : World) (g : Nat) (lo hi : Int) : Prop := w.cell? ⟨g, 0, none⟩ = some (.int .i64 lo) ∧ w.cell? ⟨g + 1, 0, none⟩ = some (.int .i64 hi)
theorem OddAt.below {w w' : World} {g : Nat} {lo hi : Int} (h : OddAt w g lo hi) (hb : Below w.heap.size w w') : OddAt w' g lo hi := ⟨kept hb h.1, kept hb h.2⟩
theorem new_below (w : World) (o : Obj) : Below w.heap.size w (w.alloc o) := (Below.refl _ _).alloc (Nat.le_refl _) o
theorem beyond_any (lo hi : Int) (w : World) :
    Calls Tryd.prog 86 #[.int .i64 lo, .int .i64 hi] w fun e w' => e = .returned (oddF w.heap.size) ∧ OddAt w' w.heap.size lo hi ∧ Below w.heap.size w w' := by
  have h1 := (Blk.new w 3 [.int .i64 lo]).alloc (.cells #[.int .i64 hi] 3)
  have h2 := Blk.new (w.alloc (.cells #[.int .i64 lo] 3)) 3 [.int .i64 hi]
  rw [sz_alloc] at h2
  have H1 := Lib.hid (show OddAt ((w.alloc (.cells #[.int .i64 lo] 3)).alloc (.cells #[.int .i64 hi] 3)) w.heap.size lo hi from ⟨h1.cell 0 (by simp), h2.cell 0 (by simp)⟩)
  clear h1 h2
  go_enter Tryd.func86, Tryd.ntmps86
  go_wp2
  go_ret
  exact ⟨rfl, H1.out, two_below _ _ _⟩
theorem odd_any (g : Nat) (lo hi n : Int) (w : World) (h : OddAt w g lo hi) :
    Calls Tryd.prog 95 #[.int .i64 n, .pointer (some ⟨g, 0, none⟩), .pointer (some ⟨g + 1, 0, none⟩)] w fun e w' => e = .returned (.bool (oddB lo hi n)) ∧ w = w' := by
  obtain ⟨c0, c1⟩ := h
  by_cases h0 : n < lo
  · go_enter Tryd.func95, Tryd.ntmps95
    go_wp2
    go_ret
    exact ⟨ret_bool (by simp [oddB, h0]), rfl⟩
  · have hd : decide (n < lo) = false := decide_eq_false h0
    go_enter Tryd.func95, Tryd.ntmps95
    go_wp2
    go_ret
    exact ⟨ret_bool (by simp [oddB, hd]), rfl⟩
theorem origin_any (n : Int) (w : World) :
    Calls Tryd.prog 87 #[.int .i64 n] w fun e w' => e = .returned (.bool (!oddB 0 2 n)) ∧ Below w.heap.size w w' := by
  go_enter Tryd.func87, Tryd.ntmps87
  go_wp2_with fail
  refine (beyond_any 0 2 w).mono ?_; rintro e w1 ⟨rfl, h1, hb⟩
  have H1 := Lib.hid h1
  have HB := Lib.hid hb
  unfold oddF
  clear h1 hb
  go_wp2_with fail
  refine (odd_any w.heap.size 0 2 n w1 H1.out).mono ?_; rintro e w2 ⟨rfl, rfl⟩
  go_wp2_with fail
  go_ret
  exact ⟨rfl, HB.out⟩
theorem most_any (four : Bool) (w : World) :
    Calls Tryd.prog 96 #[.bool four] w fun e w' => e = .returned (.int .i64 (mostA four)) ∧ w = w' := by
  cases four
  · go_enter Tryd.func96, Tryd.ntmps96
    go_wp2
    go_ret
    exact ⟨rfl, rfl⟩
  · go_enter Tryd.func96, Tryd.ntmps96
    go_wp2
    go_ret
    exact ⟨rfl, rfl⟩
theorem wide_as (four : Bool) (w : World) :
    Calls Tryd.prog 90 #[.bool four] w fun e w' => e = .returned (.int .i64 (wideA four : Nat)) ∧ w = w' := by
  cases four
  · go_enter Tryd.func90, Tryd.ntmps90
    go_wp2
    go_ret
    exact ⟨rfl, rfl⟩
  · go_enter Tryd.func90, Tryd.ntmps90
    go_wp2
    go_ret
    exact ⟨rfl, rfl⟩

/-- Some place, or none: told by whether it is one. -/
def IdxTo (b : Bool) (e : Ending) : Prop := ∃ i : Int, e = .returned (.int .i64 i) ∧ decide (0 ≤ i) = b
theorem ints_index (g : Nat) (lo hi : Int) (p : Option Addr) (xs : List Int) (n c : Nat) (w : World) (hx : IntsAt w p xs) (hn : xs.length = n) (hm : n ≤ maxLen) (ho : OddAt w g lo hi) :
    Calls Tryd.prog 104 #[.slice p n c, oddF g] w fun e w' => IdxTo (xs.any (oddB lo hi)) e ∧ w = w' := by
  unfold maxLen at hm
  have HX := Lib.hid hx
  have HN := Lib.hid hn
  have HO := Lib.hid ho
  unfold oddF
  clear hx hn ho
  go_enter Tryd.func104, Tryd.ntmps104
  go_wp2
  go_loop [8] (fun i => ∃ k : Nat, k ≤ n ∧ i = .int .i64 k ∧ (xs.take k).any (oddB lo hi) = false) (fun i => n - (intOf i).toNat)
  case atStart => exact ⟨0, Nat.zero_le _, rfl, rfl⟩
  case round =>
    obtain ⟨k, hk, rfl, hf⟩ := hrel
    have HF := Lib.hid hf
    clear hf
    by_cases hlt : k < n
    · have hcell : ∃ b off, p = some ⟨b, off, none⟩ ∧ w.cell? ⟨b, off + k, none⟩ = some (.int .i64 (xs.getD k 0)) := by
        rcases HX.out with h | ⟨b, off, hp, hc⟩
        · have := HN.out; rw [h] at this; simp at this; omega
        · exact ⟨b, off, hp, hc k (by rw [HN.out]; exact hlt)⟩
      obtain ⟨b, off, rfl, hc⟩ := hcell
      obtain ⟨x, hx⟩ : ∃ x, xs.getD k 0 = x := ⟨_, rfl⟩
      rw [hx] at hc
      have HXK := Lib.hid hx
      clear hx
      rcases hb : oddB lo hi x with _ | _
      · go_wp2_with (go_at_call 95; refine (odd_any g lo hi x w HO.out).mono ?_; rintro e w2 ⟨rfl, rfl⟩)
        go_round
        case rel => exact ⟨k + 1, by omega, by go_num, any_step _ 0 xs k (by rw [HN.out]; exact hlt) HF.out (by rw [HXK.out]; exact hb)⟩
        case measure => simp [intOf]; omega
      · go_wp2_with (go_at_call 95; refine (odd_any g lo hi x w HO.out).mono ?_; rintro e w2 ⟨rfl, rfl⟩)
        go_ret
        exact ⟨⟨k, rfl, by rw [any_take _ 0 xs k (by rw [HN.out]; exact hlt) HF.out (by rw [HXK.out]; exact hb)]; simp⟩, rfl⟩
    · obtain rfl : k = n := by omega
      go_wp2
      go_ret
      refine ⟨⟨-1, rfl, ?_⟩, rfl⟩
      have := HF.out
      rw [List.take_of_length_le (by rw [HN.out]; exact Nat.le_refl _)] at this
      rw [this]; rfl
theorem ints_contains (g : Nat) (lo hi : Int) (p : Option Addr) (xs : List Int) (n c : Nat) (w : World) (hx : IntsAt w p xs) (hn : xs.length = n) (hm : n ≤ maxLen) (ho : OddAt w g lo hi) :
    Calls Tryd.prog 98 #[.slice p n c, oddF g] w fun e w' => e = .returned (.bool (xs.any (oddB lo hi))) ∧ w = w' := by
  have HI := Lib.hid (ints_index g lo hi p xs n c w hx hn hm ho)
  unfold oddF at *
  clear hx hn ho hm
  go_enter Tryd.func98, Tryd.ntmps98
  go_wp2_with fail
  refine HI.out.mono ?_; rintro e w1 ⟨⟨i, rfl, hi'⟩, rfl⟩
  have HD := Lib.hid hi'
  clear hi'
  go_wp2_with fail
  go_ret
  exact ⟨ret_bool HD.out, rfl⟩
theorem comms_any (p : Option Addr) (xs : List Int) (n c : Nat) (w : World) (hx : IntsAt w p xs) (hn : xs.length = n) (hm : n ≤ maxLen) :
    Calls Tryd.prog 89 #[.slice p n c] w fun e w' => e = .returned (.bool (okComms xs)) ∧ Below w.heap.size w w' := by
  by_cases h : n ≤ 32
  · have HE := Lib.hid (show okComms xs = !(xs.any (oddB 0 4294967295)) by unfold okComms; rw [hn, decide_eq_true h, Bool.true_and])
    have HX := Lib.hid hx
    have HN := Lib.hid hn
    have t1 : decide ((n : Int) ≤ 32) = true := by simp; omega
    have HM := Lib.hid hm
    clear hx hn hm
    go_enter Tryd.func89, Tryd.ntmps89
    go_wp2_with fail
    refine (beyond_any 0 4294967295 w).mono ?_; rintro e w1 ⟨rfl, h1, hb⟩
    have HC := Lib.hid (ints_contains w.heap.size 0 4294967295 p xs n c w1 (HX.out.below hb) HN.out HM.out h1)
    have HB := Lib.hid hb
    unfold oddF at *
    clear h1 hb
    go_wp2_with fail
    refine HC.out.mono ?_; rintro e w2 ⟨rfl, rfl⟩
    go_wp2_with fail
    go_ret
    exact ⟨by rw [HE.out]; rfl, HB.out⟩
  · have HE := Lib.hid (show okComms xs = false by unfold okComms; rw [hn, decide_eq_false h, Bool.false_and])
    have t1 : decide ((n : Int) ≤ 32) = false := by simp; omega
    clear hx hn hm h
    go_enter Tryd.func89, Tryd.ntmps89
    go_wp2
    go_ret
    exact ⟨by rw [HE.out]; rfl, Below.refl _ _⟩
end Go.Proofs.YtpeagakpmjnelaaDoor.Ax
