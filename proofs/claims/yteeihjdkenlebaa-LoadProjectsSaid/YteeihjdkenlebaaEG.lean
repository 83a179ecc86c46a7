/- load: the document's loads: Of, set, Add. -/
import Derived.Test.YteeihjdkenlebaaEF
namespace Go.Proofs.Yteeihjdkenlebaa
open Go.RowKit Go.Maps
set_option linter.unusedVariables false
set_option linter.unusedSimpArgs false
set_option maxRecDepth 100000

/-- What 'set' made of the first ones. -/
structure StI (P : List Lo) (i v : Int) (out : List Lo) (done : Bool) : Prop where
  intro ::
  srt : out.Pairwise (fun x y : Lo => x.i < y.i)
  mem : ∀ y, y ∈ out ↔ (y ∈ P ∧ y.i ≠ i) ∨ (done = true ∧ 0 < v ∧ y = ⟨i, v⟩)
  dn : done = true ↔ ∃ x ∈ P, i ≤ x.i
theorem stI_nil (i v : Int) : StI [] i v [] false := ⟨List.Pairwise.nil, fun y => by simp, by simp⟩
theorem pw_snoc {l : List Lo} {x : Lo} (h : l.Pairwise (fun x y : Lo => x.i < y.i)) (hx : ∀ y ∈ l, y.i < x.i) : (l ++ [x]).Pairwise (fun x y : Lo => x.i < y.i) :=
  List.pairwise_append.2 ⟨h, List.pairwise_singleton _ _, fun a ha b hb => by rw [List.mem_singleton] at hb; subst hb; exact hx a ha⟩
/-- The new one goes in here. -/
theorem StI.put {P : List Lo} {i v : Int} {out : List Lo} (h : StI P i v out false) {x : Lo} (hx : i ≤ x.i) (hv : 0 < v) : (out ++ [(⟨i, v⟩ : Lo)]).Pairwise (fun x y : Lo => x.i < y.i) ∧ ∀ y, y ∈ out ++ [(⟨i, v⟩ : Lo)] ↔ (y ∈ P ∧ y.i ≠ i) ∨ y = ⟨i, v⟩ := by
  have hlt : ∀ y ∈ P, y.i < i := fun y hy => by
    rcases Int.lt_or_le y.i i with h1 | h1
    · exact h1
    · have := h.dn.2 ⟨y, hy, h1⟩; cases this
  refine ⟨pw_snoc h.srt fun y hy => ?_, fun y => ?_⟩
  · rcases (h.mem y).1 hy with ⟨h1, _⟩ | ⟨h1, _⟩
    · exact hlt y h1
    · cases h1
  · rw [List.mem_append, List.mem_singleton, h.mem y]
    simp
/-- One more is looked at: 'o1' is what was there, and the new one, where it goes in. -/
theorem StI.step {P : List Lo} {i v : Int} {o1 : List Lo} {x : Lo} (hP : ∀ y ∈ P, y.i < x.i)
    (h1 : o1.Pairwise (fun x y : Lo => x.i < y.i)) (d1 : Bool) (hm : ∀ y, y ∈ o1 ↔ (y ∈ P ∧ y.i ≠ i) ∨ (d1 = true ∧ 0 < v ∧ y = ⟨i, v⟩)) (hd : d1 = true ↔ ∃ y ∈ P ++ [x], i ≤ y.i) :
    StI (P ++ [x]) i v (if x.i ≠ i then o1 ++ [x] else o1) d1 := by
  by_cases e : x.i = i
  · rw [if_neg (fun h => h e)]
    refine ⟨h1, fun y => ?_, hd⟩
    rw [hm y, List.mem_append, List.mem_singleton]
    constructor
    · rintro (⟨h2, h3⟩ | h2)
      · exact .inl ⟨.inl h2, h3⟩
      · exact .inr h2
    · rintro (⟨h2 | h2, h3⟩ | h2)
      · exact .inl ⟨h2, h3⟩
      · subst h2; exact absurd e h3
      · exact .inr h2
  · rw [if_pos e]
    refine ⟨pw_snoc h1 fun y hy => ?_, fun y => ?_, hd⟩
    · rcases (hm y).1 hy with ⟨h2, _⟩ | ⟨h2, _, rfl⟩
      · exact hP y h2
      · obtain ⟨z, hz, h3⟩ := hd.1 h2
        rcases List.mem_append.1 hz with hz | hz
        · have := hP z hz
          show i < x.i
          omega
        · rw [List.mem_singleton] at hz
          subst hz
          show i < z.i
          omega
    · rw [List.mem_append, List.mem_singleton, hm y, List.mem_append, List.mem_singleton]
      constructor
      · rintro ((⟨h2, h3⟩ | h2) | h2)
        · exact .inl ⟨.inl h2, h3⟩
        · exact .inr h2
        · subst h2; exact .inl ⟨.inr rfl, e⟩
      · rintro (⟨h2 | h2, h3⟩ | h2)
        · exact .inl (.inl ⟨h2, h3⟩)
        · exact .inr h2
        · exact .inl (.inr h2)
/-- At the end. -/
theorem StI.all {L : List Lo} {f : Int → Option Int} (hL : AllL f L) {i v : Int} (hv : 0 ≤ v) {o1 : List Lo} (h1 : o1.Pairwise (fun x y : Lo => x.i < y.i)) (hm : ∀ y, y ∈ o1 ↔ (y ∈ L ∧ y.i ≠ i) ∨ (0 < v ∧ y = ⟨i, v⟩)) : AllL (setL f i v) o1 := by
  refine ⟨h1, fun j u => ?_⟩
  rw [hm ⟨j, u⟩, hL.mem j u]
  unfold setL
  by_cases h0 : v = 0
  · rw [if_pos h0]
    unfold delF
    by_cases e : j = i
    · rw [if_pos e]
      constructor
      · rintro (⟨_, h2⟩ | ⟨h2, _⟩)
        · exact absurd e h2
        · omega
      · intro h; cases h
    · rw [if_neg e]
      constructor
      · rintro (⟨h2, _⟩ | ⟨h2, _⟩)
        · exact h2
        · omega
      · intro h; exact .inl ⟨h, e⟩
  · rw [if_neg h0]
    unfold putF
    by_cases e : j = i
    · subst e
      rw [if_pos rfl]
      constructor
      · rintro (⟨_, h2⟩ | ⟨_, h2⟩)
        · exact absurd rfl h2
        · simp only [Lo.intro.injEq] at h2; rw [h2.2]
      · intro h
        simp only [Option.some.injEq] at h
        exact .inr ⟨by omega, by rw [h]⟩
    · rw [if_neg e]
      constructor
      · rintro (⟨h2, _⟩ | ⟨_, h2⟩)
        · exact h2
        · simp only [Lo.intro.injEq] at h2; exact absurd h2.1 e
      · intro h; exact .inl ⟨h, e⟩
theorem StI.end_ {L : List Lo} {f : Int → Option Int} (hL : AllL f L) {i v : Int} (hv : 0 ≤ v) {out : List Lo} {done : Bool} (h : StI L i v out done) : AllL (setL f i v) (if done = false ∧ 0 < v then out ++ [⟨i, v⟩] else out) := by
  cases done with
  | true =>
    rw [if_neg (fun e => by cases e.1)]
    refine StI.all hL hv h.srt fun y => ?_
    rw [h.mem y]; simp
  | false =>
    by_cases h0 : 0 < v
    · rw [if_pos ⟨rfl, h0⟩]
      have hlt : ∀ y ∈ L, y.i < i := fun y hy => by
        rcases Int.lt_or_le y.i i with h1 | h1
        · exact h1
        · have := h.dn.2 ⟨y, hy, h1⟩; cases this
      refine StI.all hL hv (pw_snoc h.srt fun y hy => ?_) fun y => ?_
      · rcases (h.mem y).1 hy with ⟨h1, _⟩ | ⟨h1, _⟩
        · exact hlt y h1
        · cases h1
      · rw [List.mem_append, List.mem_singleton, h.mem y]
        simp [h0]
    · rw [if_neg (fun e => h0 e.2)]
      refine StI.all hL hv h.srt fun y => ?_
      rw [h.mem y]; simp [h0]
theorem own_ge {α : Type} {et : TypeId} {c : α → List Value} {ok : α → Prop} {sz : Nat} {w : World} {B : Nat} {q : Option Addr} {n cap : Nat} {l : List α} (h : LOwn et c ok sz w B q n cap l) : ∀ b off, q = some ⟨b, off, none⟩ → B ≤ b := by
  intro b off e
  subst e
  rcases h.row.2 with ⟨hv, _⟩ | ⟨g, c', cur, hv, hB, _⟩
  · cases hv
  · simp only [Value.slice.injEq, Option.some.injEq, Addr.mk.injEq] at hv
    obtain ⟨⟨rfl, _⟩, _⟩ := hv
    exact hB
/-- The document's loads at X. -/
abbrev RLf : TypeId := 28
structure RlAt (w : World) (X : Nat) (q : Option Addr) (L : List Lo) (n cap : Nat) (ov : Bool) : Prop where
  intro ::
  blk : Blk w X RLf [.slice q n cap, .bool ov]
  at_ : LosAt w q L
  len : L.length = n
  ne : ∀ b off, q = some ⟨b, off, none⟩ → b ≠ X
theorem RlAt.next {w w' : World} {X : Nat} {q : Option Addr} {L : List Lo} {n cap : Nat} {ov : Bool} (h : RlAt w X q L n cap ov) (hb : Below w.heap.size w w') : RlAt w' X q L n cap ov := ⟨h.blk.next hb, h.at_.below hb, h.len, h.ne⟩
theorem rlof_any (w : World) (X : Nat) (q : Option Addr) (L : List Lo) (n cap : Nat) (ov : Bool) (h : RlAt w X q L n cap ov) (hm : n < 1000000) (f : Int → Option Int) (hL : AllL f L) (i : Int) :
    Calls Try.prog 18 #[.pointer (some ⟨X, 0, none⟩), .int .i64 i] w fun e w' => e = .returned (.int .i64 ((f i).getD 0)) ∧ w = w' := by
  have c0 : w.cell? ⟨X, 0, none⟩ = some (.slice q n cap) := h.blk.cellAt rfl
  have HAT := Lib.hid h.at_
  have HN := Lib.hid h.len
  have HL := Lib.hid hL
  obtain ⟨r, hr⟩ : ∃ r, (f i).getD 0 = r := ⟨_, rfl⟩
  rw [hr]
  have HR := Lib.hid hr
  clear h hL hr
  go_enter Try.func18, Try.ntmps18
  go_wp2_with fail
  go_loopw [5] (fun iv wr => ∃ k : Nat, k ≤ n ∧ iv = .int .i64 k ∧ (∀ y ∈ L.take k, y.i ≠ i) ∧ wr = w) (fun iv _ => n - (intOf iv).toNat)
  case atStart => exact ⟨0, Nat.zero_le _, rfl, fun y hy => by simp at hy, rfl⟩
  case round =>
    obtain ⟨k, hk, rfl, hne, rfl⟩ := hrel
    have HNE := Lib.hid hne
    clear hne
    by_cases hlt : k < n
    · have hltI : (k : Int) < (n : Int) := by omega
      obtain ⟨b, off, rfl, d0, d1⟩ := lo_cell HAT.out HN.out hlt
      obtain ⟨x, hx⟩ : ∃ x, L[k]? = some x := ⟨_, List.getElem?_eq_getElem (by rw [HN.out]; exact hlt)⟩
      rw [getD_of hx] at d0 d1
      have HX := Lib.hid (take_snocL hx)
      have HXM := Lib.hid (List.mem_of_getElem? hx)
      clear hx
      by_cases he : x.i = i
      · have t1 : decide (x.i = i) = true := decide_eq_true he
        have t2 : (x.i == i) = true := t1
        have hf : f i = some x.n := (HL.out.mem i x.n).1 (by rw [← he]; exact HXM.out)
        have hr := HR.out
        rw [hf] at hr
        have hr : x.n = r := hr
        rw [hr] at d1
        clear hf he hr
        go_wp2_with fail
        go_ret
        exact ⟨rfl, rfl⟩
      · have t1 : decide (x.i = i) = false := decide_eq_false he
        have t2 : (x.i == i) = false := t1
        go_wp2_with fail
        go_roundw
        case rel =>
          refine ⟨k + 1, by omega, by go_num, fun y hy => ?_, by first | trivial | rfl⟩
          rw [HX.out] at hy
          rcases List.mem_append.1 hy with hy | hy
          · exact HNE.out y hy
          · rw [List.mem_singleton] at hy; subst hy; exact he
        case measure => simp [intOf]; omega
    · obtain rfl : k = n := by omega
      have hf : f i = none := by
        rcases hf : f i with _ | v
        · rfl
        · have := (HL.out.mem i v).2 hf
          have e : L.take k = L := List.take_of_length_le (by rw [HN.out]; exact Nat.le_refl _)
          have h2 := HNE.out
          rw [e] at h2
          exact absurd rfl (h2 _ this)
      have hr := HR.out
      rw [hf] at hr
      have hr : r = 0 := hr.symm
      clear hf
      go_wp2_with fail
      go_ret
      exact ⟨by rw [hr]; rfl, rfl⟩
end Go.Proofs.Yteeihjdkenlebaa
