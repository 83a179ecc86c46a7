/- queue: grow. -/
import Derived.Test.YtbgofccnhehodaaQ2
namespace Go.Proofs.Ytbgofccnhehodaa
open Go.RowKit

theorem cutP_zero (p : Option Addr) (cap : Nat) : cutP p cap 0 = p := by
  unfold cutP
  split
  · rfl
  · cases p with
    | none => rfl
    | some a => obtain ⟨b, o, s⟩ := a; simp only [Option.map_some]; unfold Addr.add; split <;> simp_all
theorem run_cut_h0 (w : World) (p : Option Addr) (L cap : Nat) (J : Int) (j : Nat) (hJ : J = j) (hj : j ≤ cap) :
    (Instr.slice 30 (.slice p L cap) none (some (.int .i64 J)) none).run Try.prog w = .ok (.slice p j cap) w := by
  rw [run_cut_h w p L cap J j hJ hj, cutP_zero]
theorem newB2 (w : World) (o : Obj) : Below w.heap.size w (w.alloc o).drew := ((Below.refl w.heap.size w).alloc (Nat.le_refl _) _).drew
theorem newB' (w : World) (o : Obj) : Below w.heap.size w (w.drew.alloc o) := ((Below.refl w.heap.size w).drew).alloc (Nat.le_refl _) _
theorem qgrow_not (w : World) (g room : Nat) (xs : List Int) (p : Option Addr) (rs : List Int) (f : Nat) (h : QuR w g room xs p rs f) (need : Nat) (hn : need ≤ rs.length) :
    Calls Try.prog 18 #[.pointer (some ⟨g, 0, none⟩), .int .i64 (need : Int)] w fun e w' => e = .returned (.tuple #[]) ∧ w = w' := by
  obtain ⟨h1, _⟩ := h
  have c1 := h1.cell 1 (by simp)
  clear h1
  generalize rs.length = L at *
  have t1 : decide ((need : Int) ≤ (L : Int)) = true := by simp; omega
  go_enter Try.func18, Try.ntmps18
  go_wp2_with fail
  exact bodyPost_ret (v := .tuple #[]) (by simp [results, Try.results18, go_sem]) rfl ⟨rfl, rfl⟩

theorem qgrow_yes (w : World) (g room : Nat) (xs : List Int) (p : Option Addr) (rs : List Int) (f : Nat) (h : QuR w g room xs p rs f) (need : Nat) (hn : rs.length < need) (hx : xs.length ≤ need) (hr : need ≤ room) :
    Calls Try.prog 18 #[.pointer (some ⟨g, 0, none⟩), .int .i64 (need : Int)] w fun e w' => e = .returned (.tuple #[]) ∧ ∃ p' rs' f', QuR w' g room xs p' rs' f' ∧ need ≤ rs'.length ∧ QuK w w' g p p' := by
  obtain ⟨N, hN⟩ : ∃ N, min (max need (2 * rs.length)) room = N := ⟨_, rfl⟩
  obtain ⟨h1, h2, h3, h4, h5, h6, h7⟩ := h
  have HQ := Lib.hid (show QuP w g room xs p from ⟨rs, f, h1, h2, h3, h4, h5, h6, h7⟩)
  obtain ⟨L, hL⟩ : ∃ L, rs.length = L := ⟨_, rfl⟩
  have c0 : w.cell? ⟨g, 0, none⟩ = some (.int .i64 (room : Int)) := h1.cell 0 (by simp)
  have c1 : w.cell? ⟨g, 1, none⟩ = some (.slice p L L) := by rw [← hL]; exact h1.cell 1 (by simp)
  have H1 := Lib.hid h1
  rw [hL] at hn h4 hN
  have t1 : decide (need ≤ L) = false := by simp; omega
  have hw2 : IntKind.i64.wrap (2 * (L : Int)) = 2 * (L : Int) := by rw [IntKind.wrap_i64]; omega
  have m2 : min (max (need : Int) (IntKind.i64.wrap (2 * (L : Int)))) (room : Int) = (N : Nat) := by rw [hw2]; omega
  have r1 : ∀ u, (Instr.makeSlice 30 (.int .i64 (min (max (need : Int) (IntKind.i64.wrap (2 * (L : Int)))) (room : Int))) (.int .i64 (min (max (need : Int) (IntKind.i64.wrap (2 * (L : Int)))) (room : Int)))).run Try.prog u = .ok (.slice (some ⟨u.heap.size, 0, none⟩) N N) (u.alloc (.cells (madeCells #[.int .u8 0] N) 5)) := by rw [m2]; exact fun u => run_makeR N (by omega) u
  have hS : w.drew.cell? ⟨g, 0, none⟩ = some (.int .i64 (room : Int)) ∧ w.drew.cell? ⟨g, 1, none⟩ = some (.slice p L L) := ⟨c0, c1⟩
  have HNd := Lib.hid (show need ≤ N ∧ N ≤ room by omega)
  clear h1 h2 h6 h7 hN hL hw2 m2
  go_enter Try.func18, Try.ntmps18
  go_wp2_with fail
  go_region_held (fun w' => w'.cell? ⟨g, 0, none⟩ = some (.int .i64 (room : Int)) ∧ w'.cell? ⟨g, 1, none⟩ = some (.slice p L L)) (first | with_reducible assumption | exact ⟨kept (newB' _ _) (by with_reducible assumption), kept (newB' _ _) (by with_reducible assumption)⟩) (fail)
  obtain ⟨W, hW⟩ : ∃ W, (w.alloc (.cells (madeCells #[.int .u8 0] N) 5)).drew = W := ⟨_, rfl⟩
  have hb0 : Below w.heap.size w W := hW ▸ newB2 _ _
  have hsz : W.heap.size = w.heap.size + 1 := by rw [← hW]; simp
  have hq1 := HQ.out.next hb0
  have H1W := Lib.hid (H1.out.next hb0)
  have hring := (RingAt.made w (g + 1) N H1.out.lt).below (Below.refl _ _).drew
  have hND := HNd.out
  rw [hW] at hring
  have hrd := qread_any W g room xs p hq1 (g + 1) (some ⟨w.heap.size, 0, none⟩) (List.replicate N 0) hring xs.length (Nat.le_refl _) (by rw [List.length_replicate]; omega) (by have := H1.out.lt; simp; omega) (by
    rcases hp : p with _ | a
    · exact .inl rfl
    · right; intro e; have := HQ.out.ring_lt (b := a.block) (by rw [hp]; rfl); simp at e; omega)
  rw [List.length_replicate] at hrd
  obtain ⟨n, hn2⟩ : ∃ n, xs.length = n := ⟨_, rfl⟩
  have HN2 := Lib.hid hn2
  have c3 : W.cell? ⟨g, 3, none⟩ = some (.int .i64 (n : Int)) := by rw [← hn2]; exact H1W.out.cell 3 (by simp)
  have HRd := Lib.hid hrd
  rw [hn2] at HRd
  have hnN : n ≤ N := by omega
  have HNN := Lib.hid (show need ≤ N ∧ N ≤ room by have := hND; omega)
  have HB0 := Lib.hid hb0
  have r2 := fun u => run_cut_h0 u (some ⟨w.heap.size, 0, none⟩) N N (n : Int) n rfl hnN
  clear hS c0 c1 r1 hring hrd hq1 hb0 hn2 hND
  rw [hW]
  go_wp2_with (go_at_call 20; refine HRd.out.mono ?_; rintro e w3 ⟨rfl, hr3, hb3, hg3⟩; have HR3 := Lib.hid hr3; have HB3 := Lib.hid hb3; have HG3 := Lib.hid hg3; have HY := Lib.hid (H1W.out.below hb3 (Nat.lt_succ_self g)); have d1 := HY.out.cell 1 (by simp); have d2 := HY.out.cell 2 (by simp); have f1 := HY.out.f 1; have f2 := HY.out.f 2; clear hr3 hb3 hg3)
  go_end0
  have hZ := (HY.out.set 1 (.slice (some ⟨w.heap.size, 0, none⟩) N N)).set 2 (.int .i64 0)
  have hlen : (splice (List.replicate N (0 : Int)) 0 (xs.take n)).length = N := by rw [length_splice _ _ _ (by simp; have := HN2.out; omega)]; simp
  have hct := cont_grow (xs := xs) (ds := List.replicate N 0) (by simp; have := HN2.out; omega)
  have htk : xs.take n = xs := by rw [← HN2.out]; exact List.take_length
  refine ⟨rfl, some ⟨w.heap.size, 0, none⟩, splice (List.replicate N 0) 0 (xs.take n), 0, ⟨?_, (HR3.out.setBelow (by simp) _).setBelow (by simp) _, by rw [hlen, HN2.out]; exact hnN, by rw [hlen]; exact HNN.out.2, h5, by rw [hlen]; omega, by rw [htk]; exact hct.1⟩, by rw [hlen]; exact HNN.out.1, ?_, ?_, ?_⟩
  · rw [hlen]; exact hZ
  · exact ((HB0.out.mono (Nat.le_of_lt H1.out.lt)).trans ((HB3.out.mono (Nat.le_succ g)).setCell (Nat.le_refl _) _)).setCell (Nat.le_refl _) _
  · intro b hb hne hpb
    rw [Below.heap_setCell _ _ _ _ hne, Below.heap_setCell _ _ _ _ hne, HG3.out.block b (by omega) (by simp; omega), HB0.out.block b hb]
  · right
    intro b hb
    simp at hb
    omega
end Go.Proofs.Ytbgofccnhehodaa
