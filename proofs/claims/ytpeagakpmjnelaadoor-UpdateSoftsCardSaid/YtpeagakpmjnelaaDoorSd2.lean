/- Contracts of num's Reader: spoil, take, Num, Bytes. -/
import Derived.Test.YtpeagakpmjnelaaDoorSd1
namespace Go.Proofs.YtpeagakpmjnelaaDoor.Ax
open Go.RowKit
set_option maxRecDepth 100000
theorem gb_refl (w : World) (r : Option Nat) : w.grownBy w r := ⟨rfl, rfl, rfl, Nat.le_refl _, fun _ _ _ => rfl⟩
theorem gb_trans {a b c : World} {r : Option Nat} (h : a.grownBy b r) (k : b.grownBy c r) : a.grownBy c r :=
  ⟨k.os.trans h.os, k.tape.trans h.tape, k.output.trans h.output, Nat.le_trans h.size k.size, fun i hi hr => (k.block i (Nat.lt_of_lt_of_le hi h.size) hr).trans (h.block i hi hr)⟩
theorem gb_below {a b : World} {r : Option Nat} (h : Below a.heap.size a b) : a.grownBy b r :=
  ⟨h.os, h.tape, h.output, h.size, fun i hi _ => h.block i hi⟩
theorem gb_set (w : World) (a : Addr) (v : Value) : w.grownBy (w.setCell a v) (some a.block) :=
  ⟨rfl, rfl, rfl, by simp [World.setCell], fun i _ hr => Go.Deep.blk_setCell_other _ _ _ _ (fun e => hr (by rw [e]))⟩
theorem gb_drew (w : World) (n : Nat) (r : Option Nat) : w.grownBy (w.drewN n) r := ⟨rfl, rfl, rfl, Nat.le_refl _, fun _ _ _ => rfl⟩

theorem RdAt.row {w : World} {g : Nat} {s : Option (List Int)} (h : RdAt w g s) : ∃ f, w.rowIs g 103 2 f := by
  cases s with
  | none => exact ⟨_, h⟩
  | some xs => obtain ⟨_, _, _, h, _⟩ := h; exact ⟨_, h⟩

theorem spoil_nil (w : World) : Calls Tryd.prog 62 #[.pointer none] w fun e w' => e = .returned (.tuple #[]) ∧ w = w' := by
  go_enter Tryd.func62, Tryd.ntmps62
  go_wp2
  go_end0
  exact ⟨rfl, rfl⟩

theorem spoil_any (w : World) (g : Nat) (s : Option (List Int)) (h : RdAt w g s) :
    Calls Tryd.prog 62 #[.pointer (some ⟨g, 0, none⟩)] w fun e w' => e = .returned (.tuple #[]) ∧ RdAt w' g none ∧ w.grownBy w' (some g) := by
  obtain ⟨f, hr⟩ := h.row
  have c0 := hr.cell (i := 0) (by omega)
  have c1 := hr.cell (i := 1) (by omega)
  have f0 := hr.frozen 0
  have f1 := hr.frozen 1
  have HR := Lib.hid hr
  clear h hr
  go_enter Tryd.func62, Tryd.ntmps62
  go_wp2
  go_end0
  refine ⟨rfl, ?_, gb_trans (gb_set _ _ _) (gb_set _ ⟨g, 1, none⟩ _)⟩
  refine ((HR.out.set 0 _).set 1 _).congr fun i hi => ?_
  have : i = 0 ∨ i = 1 := by omega
  rcases this with rfl | rfl <;> rfl

/-- May so many be taken? What comes of it, and what is left. -/
def okTake (s : Option (List Int)) (n : Int) : Bool := match s with
  | none => false
  | some xs => decide (0 ≤ n) && decide (n ≤ xs.length)
def outV (s : Option (List Int)) (n : Int) : List Int := if okTake s n then (s.getD []).take n.toNat else []
def nextV (s : Option (List Int)) (n : Int) : Option (List Int) := if okTake s n then some ((s.getD []).drop n.toNat) else none

/-- A slice of bytes that came of a reader, and what the reader holds then. -/
def TakePost (w w' : World) (e : Ending) (g : Nat) (s : Option (List Int)) (n : Int) : Prop :=
  ∃ p cap, e = .returned (.slice p (outV s n).length cap) ∧ BytesAt w' p (outV s n) ∧ RdAt w' g (nextV s n) ∧ w.grownBy w' (some g)

theorem take_nil (w : World) (n : Int) (hn : 0 ≤ n) : Calls Tryd.prog 60 #[.pointer none, .int .i64 n] w fun e w' => e = .returned (.slice none 0 0) ∧ w = w' := by
  by_cases h0 : 0 < n
  · go_enter Tryd.func60, Tryd.ntmps60
    go_wp2_with fail
    refine (left_nil _).mono ?_; rintro e w' ⟨rfl, rfl⟩
    go_wp2_with fail
    refine (spoil_nil _).mono ?_; rintro e w' ⟨rfl, rfl⟩
    go_wp2_with fail
    refine (bad_nil _).mono ?_; rintro e w' ⟨rfl, rfl⟩
    go_wp2_with fail
    go_ret
    exact ⟨rfl, rfl⟩
  · have h1 : n = 0 := by omega
    subst h1
    go_enter Tryd.func60, Tryd.ntmps60
    go_wp2_with fail
    refine (left_nil _).mono ?_; rintro e w' ⟨rfl, rfl⟩
    go_wp2_with fail
    refine (bad_nil _).mono ?_; rintro e w' ⟨rfl, rfl⟩
    go_wp2_with fail
    go_ret
    exact ⟨rfl, rfl⟩

theorem take_no (w : World) (g : Nat) (s : Option (List Int)) (n : Int) (h : RdAt w g s) (hk : okTake s n = false) :
    Calls Tryd.prog 60 #[.pointer (some ⟨g, 0, none⟩), .int .i64 n] w fun e w' => e = .returned (.slice none 0 0) ∧ RdAt w' g none ∧ w.grownBy w' (some g) := by
  have hlv : n < 0 ∨ (leftV s : Int) < n ∨ (s = none ∧ n = 0) := by
    cases s with
    | none => simp [leftV]; omega
    | some xs =>
      by_cases h1 : 0 ≤ n
      · simp [okTake, h1] at hk; simp [leftV]; omega
      · omega
  by_cases h0 : n < 0
  · have HS := Lib.hid (spoil_any w g s h)
    clear hlv h hk
    go_enter Tryd.func60, Tryd.ntmps60
    go_wp2_with fail
    refine HS.out.mono ?_; rintro e w1 ⟨rfl, hr, hg⟩
    have HB := Lib.hid (bad_any w1 g none hr)
    have HR := Lib.hid hr
    have HG := Lib.hid hg
    clear hr hg
    go_wp2_with fail
    refine HB.out.mono ?_; rintro e w2 ⟨rfl, rfl⟩
    go_wp2_with fail
    go_ret
    exact ⟨rfl, HR.out, HG.out⟩
  · have HL := Lib.hid (left_any w g s h)
    by_cases h1 : (leftV s : Int) < n
    · have HS := Lib.hid (spoil_any w g s h)
      clear hlv h hk
      go_enter Tryd.func60, Tryd.ntmps60
      go_wp2_with fail
      refine HL.out.mono ?_; rintro e w1 ⟨rfl, rfl⟩
      go_wp2_with fail
      refine HS.out.mono ?_; rintro e w1 ⟨rfl, hr, hg⟩
      have HB := Lib.hid (bad_any w1 g none hr)
      have HR := Lib.hid hr
      have HG := Lib.hid hg
      clear hr hg
      go_wp2_with fail
      refine HB.out.mono ?_; rintro e w2 ⟨rfl, rfl⟩
      go_wp2_with fail
      go_ret
      exact ⟨rfl, HR.out, HG.out⟩
    · obtain ⟨rfl, rfl⟩ : s = none ∧ n = 0 := (hlv.resolve_left h0).resolve_left h1
      have HB := Lib.hid (bad_any w g none h)
      have HR := Lib.hid h
      clear hlv h hk h0 h1
      go_enter Tryd.func60, Tryd.ntmps60
      go_wp2_with fail
      refine HL.out.mono ?_; rintro e w1 ⟨rfl, rfl⟩
      go_wp2_with fail
      refine HB.out.mono ?_; rintro e w2 ⟨rfl, rfl⟩
      go_wp2_with fail
      go_ret
      exact ⟨rfl, HR.out, gb_refl _ _⟩

theorem bytes_take {w : World} {b off : Nat} {xs : List Int} (n : Nat) (h : BytesAt w (some ⟨b, off, none⟩) xs) : BytesAt w (some ⟨b, off, none⟩) (xs.take n) := by
  obtain ⟨hx, h⟩ := h
  have e : ∀ i, i < (xs.take n).length → (xs.take n).getD i 0 = xs.getD i 0 ∧ i < xs.length := by
    intro i hi
    rw [List.length_take] at hi
    refine ⟨?_, by omega⟩
    simp [List.getD, List.getElem?_take_of_lt (show i < n by omega)]
  refine ⟨fun i hi => by rw [(e i hi).1]; exact hx i (e i hi).2, ?_⟩
  rcases h with rfl | ⟨b', off', hp, hc⟩
  · exact .inl (by simp)
  · exact .inr ⟨b', off', hp, fun i hi => by rw [(e i hi).1]; exact hc i (e i hi).2⟩
theorem bytes_drop {w : World} {b off off' : Nat} {xs : List Int} (n : Nat) (h : BytesAt w (some ⟨b, off, none⟩) xs) (ho : off' = off + n ∨ xs.length ≤ n) : BytesAt w (some ⟨b, off', none⟩) (xs.drop n) := by
  obtain ⟨hx, h⟩ := h
  have e : ∀ i, i < (xs.drop n).length → (xs.drop n).getD i 0 = xs.getD (n + i) 0 ∧ n + i < xs.length := by
    intro i hi
    rw [List.length_drop] at hi
    exact ⟨by simp [List.getD, List.getElem?_drop], by omega⟩
  refine ⟨fun i hi => by rw [(e i hi).1]; exact hx _ (e i hi).2, ?_⟩
  rcases ho with rfl | ho
  · rcases h with rfl | ⟨b', o', hp, hc⟩
    · exact .inl (by simp)
    · simp only [Option.some.injEq, Addr.mk.injEq] at hp
      obtain ⟨rfl, rfl, _⟩ := hp
      exact .inr ⟨b, off + n, rfl, fun i hi => by rw [(e i hi).1, Nat.add_assoc]; exact hc _ (e i hi).2⟩
  · exact .inl (List.drop_eq_nil_of_le ho)

def YesPost (w w' : World) (e : Ending) (g : Nat) (xs : List Int) (n : Nat) : Prop :=
  ∃ p cap, e = .returned (.slice p n cap) ∧ BytesAt w' p (xs.take n) ∧ RdAt w' g (some (xs.drop n)) ∧ w.grownBy w' (some g)

theorem yes_close {w : World} {g b off cap off' cap' c n m : Nat} {xs : List Int}
    (HR : w.rowIs g 103 2 (fun j => if j = 0 then .slice (some ⟨b, off, none⟩) xs.length cap else .bool false)) (hbg : b < g) (HX : BytesAt w (some ⟨b, off, none⟩) xs) (hcm : cap ≤ 140737488355328)
    (hm : xs.length = m) (hc : cap' ≤ cap) (hl : m - n ≤ cap') (ho : off' = off + n ∨ m ≤ n) :
    YesPost w (w.setCell ⟨g, 0, none⟩ (.slice (some ⟨b, off', none⟩) (m - n) cap')) (.returned (.slice (some ⟨b, off, none⟩) n c)) g xs n := by
  subst hm
  have hbb : (w.setCell ⟨g, 0, none⟩ (.slice (some ⟨b, off', none⟩) (xs.length - n) cap')).heap[b]? = w.heap[b]? := Go.Deep.blk_setCell_other _ _ _ _ (Nat.ne_of_lt hbg)
  refine ⟨_, _, rfl, (bytes_take n HX).of_block hbb, ⟨b, off', cap', ?_, hbg, (bytes_drop n HX ho).of_block hbb, by rw [List.length_drop]; exact hl, by omega⟩, gb_set _ ⟨g, 0, none⟩ _⟩
  refine (HR.set 0 _).congr fun i hi => ?_
  have : i = 0 ∨ i = 1 := by omega
  rcases this with rfl | rfl
  · rw [if_pos rfl, if_pos rfl, List.length_drop]
  · rfl

theorem take_yes (w : World) (g : Nat) (xs : List Int) (n : Nat) (h : RdAt w g (some xs)) (hn : n ≤ xs.length) :
    Calls Tryd.prog 60 #[.pointer (some ⟨g, 0, none⟩), .int .i64 n] w fun e w' => YesPost w w' e g xs n := by
  have HL := Lib.hid (left_any w g (some xs) h)
  have HB := Lib.hid (bad_any w g (some xs) h)
  obtain ⟨b, off, cap, hr, hbg, hb, hlc, hcm⟩ := h
  have c0 := hr.cell (i := 0) (by omega)
  rw [if_pos rfl] at c0
  have f0 := hr.frozen 0
  have HR := Lib.hid hr
  have HX := Lib.hid hb
  obtain ⟨m, hm⟩ : ∃ m, xs.length = m := ⟨_, rfl⟩
  rw [hm] at c0 hn hlc
  have HM := Lib.hid hm
  clear hr hb hm
  go_enter Tryd.func60, Tryd.ntmps60
  go_wp2_with fail
  refine HL.out.mono ?_; rintro e w1 ⟨rfl, rfl⟩
  rw [show leftV (some xs) = m from HM.out]
  go_wp2_with fail
  refine HB.out.mono ?_; rintro e w2 ⟨rfl, rfl⟩
  go_wp2_with fail
  all_goals go_ret
  · exact yes_close HR.out hbg HX.out hcm HM.out (by omega) (by omega) (.inr (by omega))
  · exact yes_close HR.out hbg HX.out hcm HM.out (by omega) (by omega) (.inl rfl)

/-- take, whatever the reader holds. -/
theorem take_any (w : World) (g : Nat) (s : Option (List Int)) (n : Int) (h : RdAt w g s) :
    Calls Tryd.prog 60 #[.pointer (some ⟨g, 0, none⟩), .int .i64 n] w fun e w' => TakePost w w' e g s n := by
  by_cases hk : okTake s n = true
  · cases s with
    | none => simp [okTake] at hk
    | some xs =>
      have hk' := hk
      simp [okTake] at hk'
      obtain ⟨k, rfl⟩ := Int.eq_ofNat_of_zero_le hk'.1
      refine (take_yes w g xs k h (by omega)).mono fun e w' hp => ?_
      obtain ⟨p, cap, he, hb, hr, hg⟩ := hp
      refine ⟨p, cap, ?_, ?_, ?_, hg⟩
      · rw [he]; unfold outV; rw [if_pos hk]; simp; omega
      · unfold outV; rw [if_pos hk]; exact hb
      · unfold nextV; rw [if_pos hk]; exact hr
  · have hk' : okTake s n = false := by simpa using hk
    refine (take_no w g s n h hk').mono fun e w' ⟨he, hr, hg⟩ => ?_
    refine ⟨none, 0, ?_, ?_, ?_, hg⟩
    · rw [he]; unfold outV; rw [if_neg hk]; rfl
    · unfold outV; rw [if_neg hk]; exact ⟨fun i hi => by simp at hi, .inl rfl⟩
    · unfold nextV; rw [if_neg hk]; exact hr
end Go.Proofs.YtpeagakpmjnelaaDoor.Ax
