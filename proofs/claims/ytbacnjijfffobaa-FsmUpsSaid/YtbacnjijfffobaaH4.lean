/- fsm: the methods of a step that end in do; leave, fall. -/
import Derived.Test.YtbacnjijfffobaaH3
namespace Go.Proofs.Ytbacnjijfffobaa
open Go.RowKit

/-- What a method of a step leaves: a state, acts behind those that were done; nothing below B is another one. -/
def Did (w' w : World) (g B : Nat) (o : Op) (r : Int) (R : Ph × List Ac) (l : List Ac) (e : Ending) : Prop := e = .returned (.tuple #[]) ∧ StM w' g B o r R.1 (l ++ R.2) ∧ Below B w w'

theorem StM.cells {w : World} {g B : Nat} {o : Op} {r : Int} {s : Ph} {l : List Ac} (h : StM w g B o r s l) :
    w.cell? ⟨g, 0, none⟩ = some (.int .i64 o.asn) ∧ w.cell? ⟨g, 1, none⟩ = some (.int .i64 o.hold) ∧ w.cell? ⟨g, 2, none⟩ = some (.int .u32 o.id) ∧ w.cell? ⟨g, 3, none⟩ = some (.bool o.four) ∧ w.cell? ⟨g, 4, none⟩ = some (.int .i64 o.paths) ∧ w.cell? ⟨g, 5, none⟩ = some (.int .i64 r) ∧
    w.cell? ⟨g, 6, none⟩ = some (.int .i64 s.phase) ∧ w.cell? ⟨g, 7, none⟩ = some (.int .i64 s.hold) ∧ w.cell? ⟨g, 8, none⟩ = some (.bool s.four) ∧ w.cell? ⟨g, 9, none⟩ = some (.bool s.paths) ∧ w.cell? ⟨g, 10, none⟩ = some (.int .u32 s.id) := by
  obtain ⟨⟨v, hb, _⟩, _⟩ := h
  have hl : (stC o r s v).length = 12 := rfl
  exact ⟨hb.cell 0 (by omega), hb.cell 1 (by omega), hb.cell 2 (by omega), hb.cell 3 (by omega), hb.cell 4 (by omega), hb.cell 5 (by omega), hb.cell 6 (by omega), hb.cell 7 (by omega), hb.cell 8 (by omega), hb.cell 9 (by omega), hb.cell 10 (by omega)⟩
theorem StM.fz {w : World} {g B : Nat} {o : Op} {r : Int} {s : Ph} {l : List Ac} (h : StM w g B o r s l) (i : Nat) : w.frozen? ⟨g, i, none⟩ = false := by
  obtain ⟨⟨v, hb, _⟩, _⟩ := h
  exact hb.f i
/-- The phase is written. -/
theorem StM.phase {w : World} {g B : Nat} {o : Op} {r : Int} {s : Ph} {l : List Ac} (h : StM w g B o r s l) (p : Int) : StM (w.setCell ⟨g, 6, none⟩ (.int .i64 p)) g B o r { s with phase := p } l := by
  obtain ⟨⟨v, hb, hr⟩, hlow⟩ := h
  exact ⟨⟨v, hb.set 6 _, rowH_past hr hb (by decide) (gb_set _ _ _ _)⟩, hlow⟩
/-- The whole state is written. -/
theorem StM.state {w : World} {g B : Nat} {o : Op} {r : Int} {s : Ph} {l : List Ac} (h : StM w g B o r s l) (t : Ph) :
    StM (((((w.setCell ⟨g, 6, none⟩ (.int .i64 t.phase)).setCell ⟨g, 7, none⟩ (.int .i64 t.hold)).setCell ⟨g, 8, none⟩ (.bool t.four)).setCell ⟨g, 9, none⟩ (.bool t.paths)).setCell ⟨g, 10, none⟩ (.int .u32 t.id)) g B o r t l := by
  obtain ⟨⟨v, hb, hr⟩, hlow⟩ := h
  have b1 := hb.set 6 (.int .i64 t.phase)
  have r1 := rowH_past hr hb (by decide) (gb_set w g 6 (.int .i64 t.phase))
  have b2 := b1.set 7 (.int .i64 t.hold)
  have r2 := rowH_past r1 b1 (by decide) (gb_set _ g 7 (.int .i64 t.hold))
  have b3 := b2.set 8 (.bool t.four)
  have r3 := rowH_past r2 b2 (by decide) (gb_set _ g 8 (.bool t.four))
  have b4 := b3.set 9 (.bool t.paths)
  have r4 := rowH_past r3 b3 (by decide) (gb_set _ g 9 (.bool t.paths))
  have b5 := b4.set 10 (.int .u32 t.id)
  have r5 := rowH_past r4 b4 (by decide) (gb_set _ g 10 (.int .u32 t.id))
  exact ⟨⟨v, b5, r5⟩, hlow⟩
theorem set5_below (w : World) (g B : Nat) (h : B ≤ g) (a b c d e : Value) : Below B w (((((w.setCell ⟨g, 6, none⟩ a).setCell ⟨g, 7, none⟩ b).setCell ⟨g, 8, none⟩ c).setCell ⟨g, 9, none⟩ d).setCell ⟨g, 10, none⟩ e) :=
  (((((Below.refl B w).setCell h _).setCell h _).setCell h _).setCell h _).setCell h _

theorem fhold_any (w : World) (g B : Nat) (o : Op) (r : Int) (s : Ph) (l : List Ac) (h : StM w g B o r s l) (hl : l.length ≤ 900) (hB : B ≤ w.heap.size) :
    Calls Try.prog 29 #[.pointer (some ⟨g, 0, none⟩)] w fun e w' => Did w' w g B o r (s, [ac 6 s.hold]) l e := by
  obtain ⟨H, hH⟩ : ∃ H, s.hold = H := ⟨_, rfl⟩
  have c7 := h.cells.2.2.2.2.2.2.2.1
  rw [hH] at c7 ⊢
  have HD := Lib.hid (do_any (w.alloc (.cells #[.int .i64 6, .int .i64 H, .int .i64 0, .int .i64 0, .slice none 0 0] 44)) g B o r s l (h.next (newB _ _)) w.heap.size 1 1 [ac 6 H] rfl (AcsAt.new w _ [ac 6 H]) (by omega) (by rw [sz_alloc]; omega))
  clear h hH
  go_enter Try.func29, Try.ntmps29
  go_wp2_with fail
  refine HD.out.mono ?_; rintro e w1 ⟨rfl, hS, hb⟩
  have HS := Lib.hid hS
  have HB := Lib.hid hb
  clear hS hb HD
  go_wp2_with fail
  exact bodyPost_end (v := .tuple #[]) (by simp [results, Try.results29, go_sem]) rfl ⟨rfl, HS.out, ((newB w _).mono hB).trans HB.out⟩
end Go.Proofs.Ytbacnjijfffobaa
