/- meter: Over. -/
import Derived.Test.YtgididkpgncdjaaZJ
namespace Go.Proofs.Ytgididkpgncdjaa
open Go.RowKit Go.Maps
set_option linter.unusedVariables false
set_option linter.unusedSimpArgs false
set_option maxRecDepth 100000

theorem mover1_any (W : World) (g : Nat) (v : Int) (h : Blk W g 3 [.int .i64 v]) (a n c : Int) :
    Calls Try.prog 43 #[.agg #[.int .u32 a, .int .i64 n], .int .i64 c, .pointer (some ⟨g, 0, none⟩)] W fun e W' => e = .returned (.tuple #[]) ∧ Blk W' g 3 [.int .i64 (add v c)] ∧ Turns (fun x => x = g) W W' := by
  have hb := newB W (.cells #[.int .u32 a, .int .i64 n] 25)
  have hg := h.next hb
  obtain ⟨U, hU⟩ : ∃ U, W.alloc (.cells #[.int .u32 a, .int .i64 n] 25) = U := ⟨_, rfl⟩
  rw [hU] at hb hg
  have g0 := hg.cell 0 (by simp)
  have f0 := hg.f 0
  simp only [List.getD_cons_zero] at g0
  have HT := Lib.hid ((Turns.of_below (S := fun x => x = g) hb).setCell (p := ⟨g, 0, none⟩) (.inl rfl) (.int .i64 (add v c)))
  have HS := Lib.hid (hg.set 0 (.int .i64 (add v c)))
  have HUE := Lib.hid hU
  have HA := Lib.hid (fun u => add_any v c u)
  obtain ⟨R, hR⟩ : ∃ R, add v c = R := ⟨_, rfl⟩
  rw [hR] at HT HS HA ⊢
  rw [← hU] at g0 f0
  clear h hb hg hU hR
  go_enter Try.func43, Try.ntmps43
  go_wp2_with (go_at_call 34; refine (HA.out _).mono ?_; rintro e w' ⟨rfl, rfl⟩)
  go_end0
  rw [HUE.out]
  exact ⟨rfl, HS.out, HT.out⟩
theorem tot_snoc (X : List Ct) (x : Ct) : tot (X ++ [x]) = tot X + x.c := by rw [tot_append]; simp [tot]
set_option maxHeartbeats 4000000 in
theorem mover_any (w : World) (B m b : Nat) (V : Nat → Mv) (P : Nat → Mp) (H : MtAt w B m b V P) :
    Calls Try.prog 21 #[.pointer (some ⟨m, 0, none⟩)] w fun e w' => e = .returned (.bool (overV V)) ∧ Below w.heap.size w w' := by
  have hb := newB w (.cells #[.int .i64 0] 3)
  have hg := Blk.new w 3 [.int .i64 0]
  have hsz : (w.alloc (.cells #[.int .i64 0] 3)).heap.size = w.heap.size + 1 := by simp
  obtain ⟨U, hU⟩ : ∃ U, w.alloc (.cells #[.int .i64 0] 3) = U := ⟨_, rfl⟩
  rw [hU] at hb hg hsz
  have HE := Lib.hid (eachO_any w B m b V P H U hb w.heap.size (fun X W => Blk W w.heap.size 3 [.int .i64 (near (tot X))] ∧ ∀ y ∈ X, 0 ≤ y.c)
    (fun pre W W' h hT => ⟨h.1.of_same (hT.block _ h.1.lt (fun hh => by omega)), h.2⟩)
    (fun pre x W h hx h1 hM hl => by
      refine (mover1_any W w.heap.size _ h.1 x.p.a x.p.n x.c).mono ?_
      rintro e W' ⟨rfl, hb', hT'⟩
      refine ⟨rfl, ⟨?_, fun y hy => ?_⟩, ⟨hT'.os, hT'.tape, hT'.output, hT'.size, fun k hk hn => hT'.block k hk (fun e => hn (by omega))⟩⟩
      · rw [add_near (tot_nn h.2) (by omega)] at hb'
        rw [tot_snoc]; exact hb'
      · rcases List.mem_append.1 hy with hy | hy
        · exact h.2 y hy
        · simp at hy; subst hy; omega)
    ⟨hg, fun y hy => by cases hy⟩)
  have HU := Lib.hid hU
  have HB := Lib.hid hb
  obtain ⟨O, hO⟩ : ∃ o, overV V = o := ⟨_, rfl⟩
  have HO := Lib.hid hO
  rw [hO]
  clear H hb hg hsz hU hO
  go_enter Try.func21, Try.ntmps21
  go_wp2_with fail
  rw [HU.out]
  refine HE.out.mono ?_
  rintro e W ⟨rfl, X, hX, ⟨hblk, _⟩, hB, _⟩
  have g0 := hblk.cell 0 (by simp)
  simp only [List.getD_cons_zero] at g0
  have HBW := Lib.hid hB
  have hov : O = decide (near (tot X) = 9007199254740991) := by
    rw [← HO.out]
    unfold overV
    rw [tot_perm hX]
    rfl
  obtain ⟨N, hN⟩ : ∃ N, near (tot X) = N := ⟨_, rfl⟩
  rw [hN] at g0 hov
  have HOV := Lib.hid hov
  clear hN hov hblk hB hX
  go_wp2_with fail
  go_ret
  exact ⟨ret_bool HOV.out.symm, HBW.out⟩
theorem mover_nil (w : World) : Calls Try.prog 21 #[.pointer none] w fun e w' => e = .returned (.bool false) ∧ Below w.heap.size w w' := by
  have hb := newB w (.cells #[.int .i64 0] 3)
  have g0 := (Blk.new w 3 [.int .i64 0]).cell 0 (by simp)
  simp only [List.getD_cons_zero] at g0
  go_enter Try.func21, Try.ntmps21
  go_wp2_with (go_at_call 37; refine (meach_nil _ _).mono ?_; rintro e w' ⟨rfl, rfl⟩)
  go_ret
  exact ⟨rfl, hb⟩
end Go.Proofs.Ytgididkpgncdjaa
