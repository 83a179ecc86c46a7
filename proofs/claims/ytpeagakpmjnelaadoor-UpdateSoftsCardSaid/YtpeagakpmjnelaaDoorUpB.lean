/- update: updates whose lists are the call's own; nine cells set one behind the other. -/
import Derived.Test.YtpeagakpmjnelaaDoorUqD
import Derived.Test.YtpeagakpmjnelaaDoorUp7
import Derived.Test.YtpeagakpmjnelaaDoorUpA
namespace Go.Proofs.YtpeagakpmjnelaaDoor.Ax
open Go.RowKit
set_option maxRecDepth 100000
set_option linter.unusedVariables false
set_option linter.unusedSimpArgs false

structure UOwn (w : World) (u : Upd) (l : ULoc) : Prop where
  intro ::
  gone : ∃ B, NlsOwn w B l.gp l.gn l.gc u.gone
  come : ∃ B, NlsOwn w B l.rp l.rn l.rc u.come
  at_ : ∃ B, AtOwn w B u.a l.l
theorem NlsOwn_past {w w' : World} {B n cap : Nat} {q : Option Addr} {l : List Nl} (h : NlsOwn w B q n cap l) {g : Nat} {t : TypeId} {vs : List Value} (hb : Blk w g t vs) (h1 : t ≠ 56) (hg : w.grownBy w' (some g)) : NlsOwn w' B q n cap l := ⟨h.len, h.addr, row_past h.row hb h1 hg⟩
theorem UOwn.up {w : World} {u : Upd} {l : ULoc} (h : UOwn w u l) : UpAt w u l := by
  obtain ⟨⟨B1, h1⟩, ⟨B2, h2⟩, B3, h3⟩ := h
  exact ⟨h1.at, h1.len, h1.cap.1, h1.cap.2, h2.at, h2.len, h2.cap.1, h2.cap.2, h3.at⟩
theorem UOwn.below {w w' : World} {u : Upd} {l : ULoc} (h : UOwn w u l) (hb : Below w.heap.size w w') : UOwn w' u l := by
  obtain ⟨⟨B1, h1⟩, ⟨B2, h2⟩, B3, h3⟩ := h
  exact ⟨⟨B1, h1.below hb⟩, ⟨B2, h2.below hb⟩, B3, h3.below hb⟩
theorem UOwn.past {w w' : World} {u : Upd} {l : ULoc} (h : UOwn w u l) {g : Nat} {t : TypeId} {vs : List Value} (hb : Blk w g t vs) (h0 : t ≠ 56 ∧ t ≠ 88 ∧ t ≠ 3) (hg : w.grownBy w' (some g)) : UOwn w' u l := by
  obtain ⟨⟨B1, h1⟩, ⟨B2, h2⟩, B3, h3⟩ := h
  exact ⟨⟨B1, NlsOwn_past h1 hb h0.1 hg⟩, ⟨B2, NlsOwn_past h2 hb h0.1 hg⟩, B3, h3.past hb h0.2.1 h0.2.2 hg⟩
theorem ne_upd : 29 ≠ 56 ∧ 29 ≠ 88 ∧ 29 ≠ 3 := by decide
theorem ne_note : 41 ≠ 56 ∧ 41 ≠ 88 ∧ 41 ≠ 3 := by decide
theorem ne_at : 27 ≠ 56 ∧ 27 ≠ 88 ∧ 27 ≠ 3 := by decide
theorem gb9 (w : World) (P : Nat) (a b c d e f g h i : Value) : w.grownBy (((((((((w.setCell ⟨P, 0, none⟩ a).setCell ⟨P, 1, none⟩ b).setCell ⟨P, 2, none⟩ c).setCell ⟨P, 3, none⟩ d).setCell ⟨P, 4, none⟩ e).setCell ⟨P, 5, none⟩ f).setCell ⟨P, 6, none⟩ g).setCell ⟨P, 7, none⟩ h).setCell ⟨P, 8, none⟩ i) (some P) :=
  gb_trans (gb_trans (gb_trans (gb_trans (gb_trans (gb_trans (gb_trans (gb_trans (gb_set w ⟨P, 0, none⟩ a) (gb_set _ ⟨P, 1, none⟩ b)) (gb_set _ ⟨P, 2, none⟩ c)) (gb_set _ ⟨P, 3, none⟩ d)) (gb_set _ ⟨P, 4, none⟩ e)) (gb_set _ ⟨P, 5, none⟩ f)) (gb_set _ ⟨P, 6, none⟩ g)) (gb_set _ ⟨P, 7, none⟩ h)) (gb_set _ ⟨P, 8, none⟩ i)
theorem below9 {B P : Nat} {W w : World} (h : Below B W w) (hP : B ≤ P) (a b c d e f g h' i : Value) : Below B W (((((((((w.setCell ⟨P, 0, none⟩ a).setCell ⟨P, 1, none⟩ b).setCell ⟨P, 2, none⟩ c).setCell ⟨P, 3, none⟩ d).setCell ⟨P, 4, none⟩ e).setCell ⟨P, 5, none⟩ f).setCell ⟨P, 6, none⟩ g).setCell ⟨P, 7, none⟩ h').setCell ⟨P, 8, none⟩ i) :=
  (((((((((h.setCell hP _).setCell hP _).setCell hP _).setCell hP _).setCell hP _).setCell hP _).setCell hP _).setCell hP _).setCell hP _)
theorem at9_0 {w : World} {P : Nat} {t : TypeId} {v0 v1 v2 v3 v4 v5 v6 v7 v8 : Value} (h : Blk w P t [v0, v1, v2, v3, v4, v5, v6, v7, v8]) (a : Value) : (w.setCell ⟨P, 0, none⟩ a).cell? ⟨P, 0, none⟩ = some a :=
  (h.set 0 a).cell 0 (by simp)
theorem at9_1 {w : World} {P : Nat} {t : TypeId} {v0 v1 v2 v3 v4 v5 v6 v7 v8 : Value} (h : Blk w P t [v0, v1, v2, v3, v4, v5, v6, v7, v8]) (a b : Value) : ((w.setCell ⟨P, 0, none⟩ a).setCell ⟨P, 1, none⟩ b).cell? ⟨P, 1, none⟩ = some b :=
  ((h.set 0 a).set 1 b).cell 1 (by simp)
theorem at9_2 {w : World} {P : Nat} {t : TypeId} {v0 v1 v2 v3 v4 v5 v6 v7 v8 : Value} (h : Blk w P t [v0, v1, v2, v3, v4, v5, v6, v7, v8]) (a b c : Value) : (((w.setCell ⟨P, 0, none⟩ a).setCell ⟨P, 1, none⟩ b).setCell ⟨P, 2, none⟩ c).cell? ⟨P, 2, none⟩ = some c :=
  (((h.set 0 a).set 1 b).set 2 c).cell 2 (by simp)
theorem at9_3 {w : World} {P : Nat} {t : TypeId} {v0 v1 v2 v3 v4 v5 v6 v7 v8 : Value} (h : Blk w P t [v0, v1, v2, v3, v4, v5, v6, v7, v8]) (a b c d : Value) : ((((w.setCell ⟨P, 0, none⟩ a).setCell ⟨P, 1, none⟩ b).setCell ⟨P, 2, none⟩ c).setCell ⟨P, 3, none⟩ d).cell? ⟨P, 3, none⟩ = some d :=
  ((((h.set 0 a).set 1 b).set 2 c).set 3 d).cell 3 (by simp)
theorem at9_4 {w : World} {P : Nat} {t : TypeId} {v0 v1 v2 v3 v4 v5 v6 v7 v8 : Value} (h : Blk w P t [v0, v1, v2, v3, v4, v5, v6, v7, v8]) (a b c d e : Value) : (((((w.setCell ⟨P, 0, none⟩ a).setCell ⟨P, 1, none⟩ b).setCell ⟨P, 2, none⟩ c).setCell ⟨P, 3, none⟩ d).setCell ⟨P, 4, none⟩ e).cell? ⟨P, 4, none⟩ = some e :=
  (((((h.set 0 a).set 1 b).set 2 c).set 3 d).set 4 e).cell 4 (by simp)
theorem at9_5 {w : World} {P : Nat} {t : TypeId} {v0 v1 v2 v3 v4 v5 v6 v7 v8 : Value} (h : Blk w P t [v0, v1, v2, v3, v4, v5, v6, v7, v8]) (a b c d e f : Value) : ((((((w.setCell ⟨P, 0, none⟩ a).setCell ⟨P, 1, none⟩ b).setCell ⟨P, 2, none⟩ c).setCell ⟨P, 3, none⟩ d).setCell ⟨P, 4, none⟩ e).setCell ⟨P, 5, none⟩ f).cell? ⟨P, 5, none⟩ = some f :=
  ((((((h.set 0 a).set 1 b).set 2 c).set 3 d).set 4 e).set 5 f).cell 5 (by simp)
theorem at9_6 {w : World} {P : Nat} {t : TypeId} {v0 v1 v2 v3 v4 v5 v6 v7 v8 : Value} (h : Blk w P t [v0, v1, v2, v3, v4, v5, v6, v7, v8]) (a b c d e f g : Value) : (((((((w.setCell ⟨P, 0, none⟩ a).setCell ⟨P, 1, none⟩ b).setCell ⟨P, 2, none⟩ c).setCell ⟨P, 3, none⟩ d).setCell ⟨P, 4, none⟩ e).setCell ⟨P, 5, none⟩ f).setCell ⟨P, 6, none⟩ g).cell? ⟨P, 6, none⟩ = some g :=
  (((((((h.set 0 a).set 1 b).set 2 c).set 3 d).set 4 e).set 5 f).set 6 g).cell 6 (by simp)
theorem at9_7 {w : World} {P : Nat} {t : TypeId} {v0 v1 v2 v3 v4 v5 v6 v7 v8 : Value} (h : Blk w P t [v0, v1, v2, v3, v4, v5, v6, v7, v8]) (a b c d e f g h' : Value) : ((((((((w.setCell ⟨P, 0, none⟩ a).setCell ⟨P, 1, none⟩ b).setCell ⟨P, 2, none⟩ c).setCell ⟨P, 3, none⟩ d).setCell ⟨P, 4, none⟩ e).setCell ⟨P, 5, none⟩ f).setCell ⟨P, 6, none⟩ g).setCell ⟨P, 7, none⟩ h').cell? ⟨P, 7, none⟩ = some h' :=
  ((((((((h.set 0 a).set 1 b).set 2 c).set 3 d).set 4 e).set 5 f).set 6 g).set 7 h').cell 7 (by simp)
theorem at9_8 {w : World} {P : Nat} {t : TypeId} {v0 v1 v2 v3 v4 v5 v6 v7 v8 : Value} (h : Blk w P t [v0, v1, v2, v3, v4, v5, v6, v7, v8]) (a b c d e f g h' i : Value) : (((((((((w.setCell ⟨P, 0, none⟩ a).setCell ⟨P, 1, none⟩ b).setCell ⟨P, 2, none⟩ c).setCell ⟨P, 3, none⟩ d).setCell ⟨P, 4, none⟩ e).setCell ⟨P, 5, none⟩ f).setCell ⟨P, 6, none⟩ g).setCell ⟨P, 7, none⟩ h').setCell ⟨P, 8, none⟩ i).cell? ⟨P, 8, none⟩ = some i :=
  (((((((((h.set 0 a).set 1 b).set 2 c).set 3 d).set 4 e).set 5 f).set 6 g).set 7 h').set 8 i).cell 8 (by simp)
end Go.Proofs.YtpeagakpmjnelaaDoor.Ax
