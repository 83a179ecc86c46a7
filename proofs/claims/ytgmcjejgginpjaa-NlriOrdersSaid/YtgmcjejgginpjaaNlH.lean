/- The document's own Sort. -/
import Derived.Test.YtgmcjejgginpjaaNlF
import Derived.Test.YtgmcjejgginpjaaNlG
namespace Go.Proofs.Ytgmcjejgginpjaa
open Go.RowKit Go.Sort Go.Shelf

theorem insert_srt {os : List Nl} (h : Srt os) (x : Nl) (k : Nat) (hk : k ≤ os.length) (hlow : ∀ i, i < k → ltN (os.getD i Nl.none) x) (hstop : k = os.length ∨ ¬ ltN (os.getD k Nl.none) x) (hne : k = os.length ∨ os.getD k Nl.none ≠ x) :
    Srt ((os.take k ++ [x]) ++ os.drop k) ∧ ∀ y, y ∈ (os.take k ++ [x]) ++ os.drop k ↔ y ∈ os ∨ y = x := by
  have hup : ∀ y ∈ os.drop k, ltN x y := fun y hy => by
    obtain ⟨i, hi, rfl⟩ := List.getElem_of_mem hy
    simp at hi
    rcases hstop with e | e
    · omega
    · rcases hne with e2 | e2
      · omega
      · have h0 : ltN x (os.getD k Nl.none) := by
          rcases ltN_total (os.getD k Nl.none) x with a | a | a
          · exact absurd a e
          · exact absurd a e2
          · exact a
        rw [List.getElem_drop]
        rcases Nat.eq_zero_or_pos i with rfl | hpos
        · simpa [List.getD, show k < os.length by omega] using h0
        · refine ltN_trans h0 ?_
          have := List.pairwise_iff_getElem.1 h k (k + i) (by omega) (by omega) (by omega)
          simpa [List.getD, show k < os.length by omega] using this
  have hdn : ∀ y ∈ os.take k, ltN y x := fun y hy => by
    obtain ⟨i, hi, rfl⟩ := List.getElem_of_mem hy
    simp at hi
    have := hlow i (by omega)
    simpa [List.getD, show i < os.length by omega] using this
  refine ⟨?_, fun y => ?_⟩
  · rw [List.append_assoc]
    refine List.pairwise_append.2 ⟨List.Pairwise.sublist (List.take_sublist _ _) h, ?_, fun a ha b hb => ?_⟩
    · exact List.pairwise_cons.2 ⟨hup, List.Pairwise.sublist (List.drop_sublist _ _) h⟩
    · rcases List.mem_cons.1 hb with rfl | hb
      · exact hdn a ha
      · exact ltN_trans (hdn a ha) (hup b hb)
  · have e : os = os.take k ++ os.drop k := (List.take_append_drop k os).symm
    constructor
    · intro hy
      rcases List.mem_append.1 hy with hy | hy
      · rcases List.mem_append.1 hy with hy | hy
        · exact .inl (List.mem_of_mem_take hy)
        · exact .inr (by simpa using hy)
      · exact .inl (List.mem_of_mem_drop hy)
    · rintro (hy | rfl)
      · rw [e] at hy
        rcases List.mem_append.1 hy with hy | hy
        · simp [hy]
        · simp [hy]
      · simp

/-- append of one to a slice that is full: all of it is new, and one's own. -/
theorem run_appNewN (w : World) (ty : TypeId) (p : Option Addr) (l : List Nl) (n : Nat) (h : NlsAt w p l) (hn : l.length = n) (hn1 : n ≤ 100000) (g : Nat) (x : Nl) (hx : InAddr x) (hc : Blk w g 41 (nlC x)) :
    ∃ C w', (Builtin.append_ #[22, 22] ty #[.slice p n n, .slice (some ⟨g, 0, none⟩) 1 1]).run Try.prog w = .ok (.slice (some ⟨w.heap.size, 0, none⟩) (n + 1) C) w' ∧ NlsOwn w' w.heap.size (some ⟨w.heap.size, 0, none⟩) (n + 1) C (l ++ [x]) ∧ Below w.heap.size w w' := by
  obtain ⟨i0, hi, hz0, hz1, hz2⟩ := info_parts infoNl
  have hlen : (ncells l).length = n * i0.size := by rw [ncells_len, hn, hz1]
  have hold : (Builtin.firstCells i0.size n (.slice p n n)).run Try.prog w.drew = .ok (ncells l).toArray w.drew := by
    rcases Nat.eq_zero_or_pos n with h0 | h0
    · subst h0
      obtain rfl : l = [] := List.eq_nil_of_length_eq_zero hn
      rcases p with _ | a
      · exact run_firstCells_none w.drew _ _ _ _
      · exact run_firstCells_some w.drew i0.size 0 a 0 0 [] (by simp) (fun j v hv => by simp at hv)
    · obtain ⟨b, off, rfl, hcell⟩ := nls_src h n hn h0
      exact run_firstCells_some w.drew i0.size n ⟨b, off, none⟩ n n (ncells l) hlen hcell
  have hsrc : Src Try.prog i0.size 22 (.slice (some ⟨g, 0, none⟩) 1 1) 1 (nlC x) w := Src.ofSlice w Try.underlying22 ⟨g, 0, none⟩ 1 1 (nlC x) (by rw [hz1]; rfl) (fun j u hj => by
    have hjl : j < 3 := by
      rcases Nat.lt_or_ge j 3 with h' | h'
      · exact h'
      · rw [List.getElem?_eq_none (by simpa [nlC] using h')] at hj; cases hj
    rw [add_litN, Nat.zero_add, hc.cell j (by simpa [nlC] using hjl)]
    have : j = 0 ∨ j = 1 ∨ j = 2 := by omega
    rcases this with rfl | rfl | rfl <;> simpa [nlC] using hj) (nl_one x)
  have hr := run_append_grow_src (P := Try.prog) w 22 22 ty 41 i0 _ Try.underlying22 hi hz0 p n n (ncells l) hold _ 1 (nlC x) hsrc (by omega) (by omega) (growslice_fits (by omega) (by rw [hz2]; omega))
  have hge := grownCap_ge w (n + 1) n 41
  have hmx := grownCap_le_maxLen w (n + 1) n 41 (by unfold maxLen; omega)
  generalize grownCap w (n + 1) n 41 = C at *
  refine ⟨C, _, hr, ?_, newB2N _ _⟩
  obtain ⟨arr, harr⟩ : ∃ arr, ((ncells l ++ nlC x).toArray ++ Builtin.zeroCells (Value.agg #[.int .i64 0, .int .u32 0, .int .i64 0]).cells (C - (n + 1))) = arr := ⟨_, rfl⟩
  have hsz : arr.size = C * 3 := by
    rw [← harr, Array.size_append, size_zeroCells, show (Value.agg #[.int .i64 0, .int .u32 0, .int .i64 0]).cells.size = 3 from rfl]
    have : (ncells l ++ nlC x).length = (n + 1) * 3 := by rw [List.length_append, ncells_len, hn]; simp [nlC]; omega
    simp [this]
    omega
  have htk : arr.toList.take ((n + 1) * 3) = ncells (l ++ [x]) := by
    have hl2 : (ncells l ++ nlC x).length = (n + 1) * 3 := by rw [List.length_append, ncells_len, hn]; simp [nlC]; omega
    rw [← harr, ncells_snoc, ← hl2]
    simp only [Array.toList_append]
    exact List.take_left
  rw [harr]
  refine ⟨by rw [List.length_append, hn]; rfl, fun i hi => ?_, ⟨by rw [ncells_len, List.length_append, hn]; rfl, .inr ⟨w.heap.size, C, arr, rfl, Nat.le_refl _, World.alloc_heap_new w.drew _, hge, hmx, hsz, htk⟩⟩⟩
  rcases Nat.lt_or_ge i l.length with hlt | hge2
  · have := h.addr i hlt
    simpa [List.getD, List.getElem?_append_left hlt] using this
  · have : i = l.length := by simp at hi; omega
    subst this
    simpa [List.getD] using hx
end Go.Proofs.Ytgmcjejgginpjaa
