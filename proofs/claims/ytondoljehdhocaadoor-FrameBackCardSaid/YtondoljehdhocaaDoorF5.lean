/- frame: a stream's Next. -/
import Derived.Test.YtondoljehdhocaaDoorF4
import Derived.Deep.RegionHeld
namespace Go.Proofs.YtondoljehdhocaaDoor
open Go.RowKit

/-- What Next tells: a message, whether there is one, and a note. -/
def RetX (w w' : World) (k : Int) (body : List Int) (is : Bool) (code sub : Int) (d : List Int) (e : Ending) : Prop :=
  ∃ p cap q cap', e = .returned (.tuple #[.agg #[.int .i64 k, .slice p body.length cap], .bool is, .agg #[.int .i64 code, .int .i64 sub, .slice q d.length cap']]) ∧ Own w' w.heap.size p cap body ∧ Own w' w.heap.size q cap' d

theorem next_nil (w : World) :
    Calls Tryd.prog 18 #[.pointer none] w fun e w' => RetX w w' 0 [] false 0 0 [] e ∧ Below w.heap.size w w' := by
  have HX := Lib.hid (Blk.new w 24 [.int .i64 0, .slice none 0 0])
  have HY := Lib.hid (Blk.new (w.alloc (.cells #[.int .i64 0, .slice none 0 0] 24)) 33 [.int .i64 0, .int .i64 0, .slice none 0 0])
  have HZ := Lib.hid (HX.out.alloc (.cells #[.int .i64 0, .int .i64 0, .slice none 0 0] 33))
  rw [sz_alloc] at HY
  have c0 := HY.out.cell 0 (by simp)
  have c1 := HY.out.cell 1 (by simp)
  have c2 := HY.out.cell 2 (by simp)
  have d0 := HZ.out.cell 0 (by simp)
  have d1 := HZ.out.cell 1 (by simp)
  have f0 := HY.out.f 0
  have f1 := HY.out.f 1
  have f2 := HY.out.f 2
  have g0 := HZ.out.f 0
  have g1 := HZ.out.f 1
  go_enter Tryd.func18, Tryd.ntmps18
  go_wp2
  exact bodyPost_ret (v := .tuple #[.agg #[.int .i64 0, .slice none 0 0], .bool false, .agg #[.int .i64 0, .int .i64 0, .slice none 0 0]]) (by simp [results, Tryd.results18, go_sem, c0, c1, c2, d0, d1]) rfl ⟨⟨none, 0, none, 0, rfl, Own.nil _ _, Own.nil _ _⟩, by repeat (first | exact Below.refl _ _ | (refine Below.setCell ?_ (by simp) _) | (refine Below.alloc ?_ (by simp) _))⟩

/-- The two cells that a call keeps for its results. -/
theorem two_new3 (w : World) : Blk ((w.alloc (.cells #[.int .i64 0, .slice none 0 0] 24)).alloc (.cells #[.int .i64 0, .int .i64 0, .slice none 0 0] 33)) w.heap.size 24 [.int .i64 0, .slice none 0 0] ∧
    Blk ((w.alloc (.cells #[.int .i64 0, .slice none 0 0] 24)).alloc (.cells #[.int .i64 0, .int .i64 0, .slice none 0 0] 33)) (w.heap.size + 1) 33 [.int .i64 0, .int .i64 0, .slice none 0 0] ∧
    Below w.heap.size w ((w.alloc (.cells #[.int .i64 0, .slice none 0 0] 24)).alloc (.cells #[.int .i64 0, .int .i64 0, .slice none 0 0] 33)) := by
  have HX := Blk.new w 24 [.int .i64 0, .slice none 0 0]
  have HY := Blk.new (w.alloc (.cells #[.int .i64 0, .slice none 0 0] 24)) 33 [.int .i64 0, .int .i64 0, .slice none 0 0]
  rw [sz_alloc] at HY
  exact ⟨HX.alloc _, HY, ((Below.refl _ _).alloc (Nat.le_refl _) _).alloc (by simp) _⟩

theorem take_none (g : Nat) (xs : List Int) (k : Int) (n : Nat) (w : World) (h : Str w g xs) (hn : n = 0 ∨ xs.length < n) :
    Calls Tryd.prog 30 #[.pointer (some ⟨g, 0, none⟩), .int .i64 k, .int .i64 n] w fun e w' => RetX w w' 0 [] false 0 0 [] e ∧ Below w.heap.size w w' := by
  obtain ⟨b1, b2, b3⟩ := two_new3 w
  have HS := Lib.hid (h.next b3)
  obtain ⟨p, cap, h1, h2⟩ := HS.out
  have cr := h1.cell 0 (by simp)
  have c0 := b2.cell 0 (by simp)
  have c1 := b2.cell 1 (by simp)
  have c2 := b2.cell 2 (by simp)
  have d0 := b1.cell 0 (by simp)
  have d1 := b1.cell 1 (by simp)
  have f0 := b2.f 0
  have f1 := b2.f 1
  have f2 := b2.f 2
  have g0 := b1.f 0
  have g1 := b1.f 1
  clear h1 h2 b1 b2 b3 h
  generalize xs.length = L at *
  rcases hn with rfl | hn
  · go_enter Tryd.func30, Tryd.ntmps30
    go_wp2
    exact bodyPost_ret (v := .tuple #[.agg #[.int .i64 0, .slice none 0 0], .bool false, .agg #[.int .i64 0, .int .i64 0, .slice none 0 0]]) (by simp [results, Tryd.results30, go_sem, c0, c1, c2, d0, d1]) rfl ⟨⟨none, 0, none, 0, rfl, Own.nil _ _, Own.nil _ _⟩, by repeat (first | exact Below.refl _ _ | (refine Below.setCell ?_ (by simp) _) | (refine Below.alloc ?_ (by simp) _))⟩
  · have t1 : ((n : Int) == 0) = false := by simp; omega
    have t2 : decide (L < n) = true := by simpa using hn
    go_enter Tryd.func30, Tryd.ntmps30
    go_wp2
    exact bodyPost_ret (v := .tuple #[.agg #[.int .i64 0, .slice none 0 0], .bool false, .agg #[.int .i64 0, .int .i64 0, .slice none 0 0]]) (by simp [results, Tryd.results30, go_sem, c0, c1, c2, d0, d1]) rfl ⟨⟨none, 0, none, 0, rfl, Own.nil _ _, Own.nil _ _⟩, by repeat (first | exact Below.refl _ _ | (refine Below.setCell ?_ (by simp) _) | (refine Below.alloc ?_ (by simp) _))⟩

set_option maxHeartbeats 1000000 in
theorem take_yes (g : Nat) (xs : List Int) (p : Option Addr) (cap : Nat) (k : Int) (n : Nat) (w : World) (h : StrP w g xs p cap) (h19 : 19 ≤ n) (hn : n ≤ xs.length) (hm : xs.length ≤ 65536) :
    Calls Tryd.prog 30 #[.pointer (some ⟨g, 0, none⟩), .int .i64 k, .int .i64 n] w fun e w' => RetX w w' k ((xs.take n).drop 19) true 0 0 [] e ∧ StrP w' g (xs.drop n) (cutP p cap n) (cap - n) ∧ Below g w w' ∧ ∀ b, b < w.heap.size → b ≠ g → w'.heap[b]? = w.heap[b]? := by
  obtain ⟨b1, b2, b3⟩ := two_new3 w
  obtain ⟨e1, e2⟩ := h
  have hgw : g < w.heap.size := e1.lt
  have h1 := e1.next b3
  have h2 := e2.below b3
  have c0 := h1.cell 0 (by simp)
  obtain ⟨L, hL⟩ : ∃ L, xs.length = L := ⟨_, rfl⟩
  have cr : ((w.alloc (.cells #[.int .i64 0, .slice none 0 0] 24)).alloc (.cells #[.int .i64 0, .int .i64 0, .slice none 0 0] 33)).cell? ⟨g, 0, none⟩ = some (.slice p L cap) := by rw [← hL]; exact c0
  have hle := h2.le
  have E1 := fun w => run_cut w p L cap 19 n 19 n rfl rfl h19 (by omega)
  have E2 := fun w => run_cut_l w p L cap n n rfl (by omega)
  have HC := Lib.hid (h2.bytes.cut cap 19 n h19 hn hle)
  have HO := Lib.hid (e2.cutl n hn)
  have HBL := Lib.hid (show ((xs.take n).drop 19).length = n - 19 by simp; omega)
  have HDL := Lib.hid (show (xs.drop n).length = L - n by simp; omega)
  obtain ⟨p1, hp1⟩ : ∃ p1, cutP p cap 19 = p1 := ⟨_, rfl⟩
  obtain ⟨p2, hp2⟩ : ∃ p2, cutP p cap n = p2 := ⟨_, rfl⟩
  rw [hp1] at E1 HC
  rw [hp2] at E2 HO ⊢
  have H1 := Lib.hid h1
  have B1 := Lib.hid b1
  have B2 := Lib.hid b2
  have B3 := Lib.hid b3
  have HL := Lib.hid hL
  clear h1 h2 b1 b2 b3 e1 e2 c0 hp1 hp2
  rw [hL] at hn hm hle
  clear hL
  have t1 : ((n : Int) == 0) = false := by simp; omega
  have t2 : decide (L < n) = false := by simp; omega
  go_enter Tryd.func30, Tryd.ntmps30
  go_wp2_with fail
  refine (clone_any p1 _ (n - 19) (cap - 19) _ HC.out HBL.out (by omega)).mono ?_; rintro e w1 ⟨q, capq, rfl, hO, hB⟩
  rw [HBL.out]
  have HQ := Lib.hid hO
  have HBW := Lib.hid hB
  have HR := Lib.hid ((H1.out.next hB).alloc (.cells #[.int .i64 k, .slice q (n - 19) capq] 24))
  have HR0 := Lib.hid (H1.out.next hB)
  have HP := Lib.hid ((HO.out.below B3.out).below hB)
  have HPB := Lib.hid (fun (b : Nat) (hb : p2.map (·.block) = some b) => (HO.out.block_lt hb).2)
  have HM := Lib.hid (B1.out.next hB)
  have HN := Lib.hid (B2.out.next hB)
  have hg1 : g < w1.heap.size := (H1.out.next hB).lt
  have hs1 : w.heap.size + 1 < w1.heap.size := (B2.out.next hB).lt
  clear hO hB cr
  have cr := HR.out.cell 0 (by simp)
  rw [show ([Value.slice p xs.length cap, .int .i64 0, .int .i64 0, .slice none 0 0] : List Value).getD 0 undef = .slice p L cap from by rw [HL.out]; rfl] at cr
  have fr := HR.out.f 0
  have m2 := HM.out.setOther (a := ⟨g, 0, none⟩) (by simp; omega) (.slice p2 (L - n) (cap - n)) |>.alloc (.cells #[.int .i64 k, .slice q (n - 19) capq] 24)
  have n2 := HN.out.setOther (a := ⟨g, 0, none⟩) (by simp; omega) (.slice p2 (L - n) (cap - n)) |>.alloc (.cells #[.int .i64 k, .slice q (n - 19) capq] 24)
  have c0 := n2.cell 0 (by simp)
  have c1 := n2.cell 1 (by simp)
  have c2 := n2.cell 2 (by simp)
  have d0 := m2.cell 0 (by simp)
  have d1 := m2.cell 1 (by simp)
  have f0 := n2.f 0
  have f1 := n2.f 1
  have f2 := n2.f 2
  have g0 := m2.f 0
  have g1 := m2.f 1
  clear m2 n2
  go_wp2_with fail
  refine bodyPost_ret (v := .tuple #[.agg #[.int .i64 k, .slice q (n - 19) capq], .bool true, .agg #[.int .i64 0, .int .i64 0, .slice none 0 0]]) (by simp [results, Tryd.results30, go_sem, c0, c1, c2, d0, d1]) rfl ⟨⟨q, capq, none, 0, by rw [HBL.out]; rfl, ?_, Own.nil _ _⟩, ⟨?_, ?_⟩, ?_, ?_⟩
  all_goals clear c0 c1 c2 d0 d1 f0 f1 f2 g0 g1 cr fr E1 E2
  · exact (((((((HQ.out.setBelow (by simp; omega) _).alloc _).setBelow (by simp; omega) _).setBelow (by simp; omega) _).setBelow (by simp) _).setBelow (by simp) _).setBelow (by simp) _).mono (by simp; omega)
  · rw [HDL.out]
    exact ((((((HR0.out.set 0 _).alloc _).setOther (by simp; omega) _).setOther (by simp; omega) _).setOther (by simp; omega) _).setOther (by simp; omega) _).setOther (by simp; omega) _
  · have hne : p2.map (·.block) ≠ some w.heap.size := fun e => absurd (HPB.out _ e) (by omega)
    have hne' : p2.map (·.block) ≠ some (w.heap.size + 1) := fun e => absurd (HPB.out _ e) (by omega)
    exact ((((((HP.out.setBelow (by simp) _).alloc _).setCell _ _ hne).setCell _ _ hne).setCell _ _ hne').setCell _ _ hne').setCell _ _ hne'
  · have hb0 : Below g w w1 := (B3.out.mono (by omega)).trans (HBW.out.mono (by simp; omega))
    have hb1 : Below g w (w1.setCell ⟨g, 0, none⟩ (.slice p2 (L - n) (cap - n))) := hb0.setCell (Nat.le_refl _) _
    have hb2 := hb1.alloc (by simp [World.setCell]; omega) (.cells #[.int .i64 k, .slice q (n - 19) capq] 24)
    exact ((((hb2.setCell (by simp; omega) _).setCell (by simp; omega) _).setCell (by simp; omega) _).setCell (by simp; omega) _).setCell (by simp; omega) _
  · intro b hb hne
    rw [Below.heap_setCell _ _ _ _ (by simp; omega), Below.heap_setCell _ _ _ _ (by simp; omega), Below.heap_setCell _ _ _ _ (by simp; omega), Below.heap_setCell _ _ _ _ (by simp; omega), Below.heap_setCell _ _ _ _ (by simp; omega), Below.heap_alloc _ _ _ (by simp [World.setCell]; omega), Below.heap_setCell _ _ _ _ hne]
    exact (HBW.out.block b (by simp; omega)).trans (B3.out.block b hb)
end Go.Proofs.YtondoljehdhocaaDoor
