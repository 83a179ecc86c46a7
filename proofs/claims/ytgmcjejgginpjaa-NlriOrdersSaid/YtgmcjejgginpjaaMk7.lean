/- nlri: what must come of every program. -/
import Derived.Test.YtgmcjejgginpjaaMk6
import Derived.Test.YtgmcjejgginpjaaNlC
import Derived.Test.YtgmcjejgginpjaaNlB
import Derived.Deep.AppendSrc
namespace Go.Proofs.Ytgmcjejgginpjaa
open Go.RowKit

theorem ncells_len : ∀ (l : List Nl), (ncells l).length = l.length * 3
  | [] => rfl
  | x :: t => by
    have := ncells_len t
    unfold ncells at *
    rw [List.flatMap_cons, List.length_append, this]
    simp [nlC]; omega
theorem newB2N (w : World) (o : Obj) : Below w.heap.size w (w.drew.alloc o) := ((Below.refl w.heap.size w).drew).alloc (Nat.le_refl _) _
theorem nls_src {w : World} {p : Option Addr} {l : List Nl} (h : NlsAt w p l) (n : Nat) (hn : l.length = n) (hn0 : 0 < n) : ∃ b off, p = some ⟨b, off, none⟩ ∧ ∀ j v, (ncells l)[j]? = some v → w.cell? ((⟨b, off, none⟩ : Addr).add j) = some v := by
  rcases h.at_ with rfl | ⟨b, off, rfl, hc⟩
  · simp at hn; omega
  · refine ⟨b, off, rfl, fun j v hv => ?_⟩
    have hj : j < l.length * 3 := by
      rcases Nat.lt_or_ge j (l.length * 3) with hlt | hge
      · exact hlt
      · rw [List.getElem?_eq_none (by rw [ncells_len]; exact hge)] at hv; cases hv
    obtain ⟨e0, e1, e2⟩ := ncells_get l (j / 3) (by omega)
    obtain ⟨c0, c1, c2⟩ := hc (j / 3) (by omega)
    rw [add_litN]
    have hm : j % 3 = 0 ∨ j % 3 = 1 ∨ j % 3 = 2 := by omega
    rcases hm with hm | hm | hm
    · rw [show off + j = off + j / 3 * 3 by omega, c0, ← hv, ← e0]; congr 1; omega
    · rw [show off + j = off + j / 3 * 3 + 1 by omega, c1, ← hv, ← e1]; congr 1; omega
    · rw [show off + j = off + j / 3 * 3 + 2 by omega, c2, ← hv, ← e2]; congr 1; omega

/-- append of one, where there is no room: all of it is new. -/
theorem run_appFullN (w : World) (ty : TypeId) (p : Option Addr) (l : List Nl) (n : Nat) (h : NlsAt w p l) (hn : l.length = n) (hn0 : 0 < n) (hn1 : n ≤ 100000) (g : Nat) (x : Nl) (hx : InAddr x) (hc : Blk w g 41 (nlC x)) :
    ∃ C w', (Builtin.append_ #[22, 22] ty #[.slice p n n, .slice (some ⟨g, 0, none⟩) 1 1]).run Try.prog w = .ok (.slice (some ⟨w.heap.size, 0, none⟩) (n + 1) C) w' ∧ NlsAt w' (some ⟨w.heap.size, 0, none⟩) (l ++ [x]) ∧ Below w.heap.size w w' := by
  obtain ⟨i0, hi, hz0, hz1, hz2⟩ := info_parts infoNl
  obtain ⟨b, off, rfl, hcell⟩ := nls_src h n hn hn0
  have hlen : (ncells l).length = n * i0.size := by rw [ncells_len, hn, hz1]
  have hsrc : Src Try.prog i0.size 22 (.slice (some ⟨g, 0, none⟩) 1 1) 1 (nlC x) w := Src.ofSlice w Try.underlying22 ⟨g, 0, none⟩ 1 1 (nlC x) (by rw [hz1]; rfl) (fun j u hj => by
    have hjl : j < 3 := by
      rcases Nat.lt_or_ge j 3 with h' | h'
      · exact h'
      · rw [List.getElem?_eq_none (by simpa [nlC] using h')] at hj; cases hj
    rw [add_litN, Nat.zero_add, hc.cell j (by simpa [nlC] using hjl)]
    have : j = 0 ∨ j = 1 ∨ j = 2 := by omega
    rcases this with rfl | rfl | rfl <;> simpa [nlC] using hj) (nl_one x)
  have hr := run_append_grow_src (P := Try.prog) w 22 22 ty 41 i0 _ Try.underlying22 hi hz0 (some ⟨b, off, none⟩) n n (ncells l) (run_firstCells_some w.drew i0.size n ⟨b, off, none⟩ n n (ncells l) hlen hcell) _ 1 (nlC x) hsrc (by omega) (by omega) (growslice_fits (by omega) (by rw [hz2]; omega))
  have hge := grownCap_ge w (n + 1) n 41
  generalize grownCap w (n + 1) n 41 = C at *
  refine ⟨C, _, hr, ?_, newB2N _ _⟩
  obtain ⟨arr, harr⟩ : ∃ arr, ((ncells l ++ nlC x).toArray ++ Builtin.zeroCells (Value.agg #[.int .i64 0, .int .u32 0, .int .i64 0]).cells (C - (n + 1))) = arr := ⟨_, rfl⟩
  rw [harr]
  have hpre : ∀ j, j < (n + 1) * 3 → arr[j]? = (ncells (l ++ [x]))[j]? := fun j hj => by
    have hl2 : (ncells l ++ nlC x).length = (n + 1) * 3 := by rw [List.length_append, ncells_len, hn]; simp [nlC]; omega
    rw [← harr, Array.getElem?_append_left (by rw [List.size_toArray, hl2]; exact hj), List.getElem?_toArray, ncells_snoc]
  have hcl : ∀ j v, arr[j]? = some v → (w.drew.alloc (.cells arr 41)).cell? ⟨w.heap.size, j, none⟩ = some v := fun j v hv => by
    have hrow := World.rowIs_alloc w.drew arr 41 (fun j => arr.getD j undef) (fun j hj => by simp [Array.getD, hj])
    obtain ⟨hlt, hvv⟩ := Array.getElem?_eq_some_iff.1 hv
    refine (hrow.cell hlt).trans ?_
    simp [Array.getD, hlt, hvv]
  refine ⟨fun i hi => ?_, .inr ⟨w.heap.size, 0, rfl, fun i hi => ?_⟩⟩
  · rcases Nat.lt_or_ge i l.length with hlt | hge2
    · have := h.addr i hlt
      simpa [List.getD, List.getElem?_append_left hlt] using this
    · have : i = l.length := by simp at hi; omega
      subst this
      simpa [List.getD] using hx
  · have hi' : i < n + 1 := by simpa [hn] using hi
    obtain ⟨e0, e1, e2⟩ := ncells_get (l ++ [x]) i hi
    exact ⟨hcl _ _ (by rw [Nat.zero_add, hpre _ (by omega)]; exact e0), hcl _ _ (by rw [Nat.zero_add, hpre _ (by omega)]; exact e1), hcl _ _ (by rw [Nat.zero_add, hpre _ (by omega)]; exact e2)⟩
theorem wpList_appFullN {ops : Array Oper} {rest : List Oper} {o : Oper} {a : Act} {w : World} {Q : Exit → Act → World → Prop} (hgd : o.guard = none) (s x : Operand)
    (ho : o.op = .call { callee := .builtin .append, args := #[s, x], argTypes := #[22, 22] })
    (p : Option Addr) (l : List Nl) (n : Nat) (hl : NlsAt w p l) (hn : l.length = n) (hn0 : 0 < n) (hn1 : n ≤ 100000) (hs : a.eval s = .slice p n n)
    (g : Nat) (y : Nl) (hy : InAddr y) (hx : a.eval x = .slice (some ⟨g, 0, none⟩) 1 1) (hc : Blk w g 41 (nlC y))
    (h : ∀ C w', Hid (NlsAt w' (some ⟨w.heap.size, 0, none⟩) (l ++ [y])) → Hid (Below w.heap.size w w') → wpList Try.prog ops Q rest (a.put o.dst (.slice (some ⟨w.heap.size, 0, none⟩) (n + 1) C)) w') :
    wpList Try.prog ops Q (o :: rest) a w :=
  wpList_plain hgd fun K hK => by
    obtain ⟨C, w', hr, h2, h3⟩ := run_appFullN w o.type p l n hl hn hn0 hn1 g y hy hc
    unfold Oper.wp execOp
    simp only [ho, resolve, invoke, builtin, Sem.run_bind, Sem.run_pure, Result.andThen_ok, List.map_toArray, List.map_cons, List.map_nil, hs, hx, hr]
    exact hK _ _ (h C w' (Lib.hid h2) (Lib.hid h3))

def twoL : List Nl := [⟨5, 167772160, 8⟩, ⟨0, 0, 0⟩]
def twoB : List Int := [0, 0, 0, 5, 8, 10, 0, 0, 0, 0, 0]
theorem two_put : nlsL true twoL = twoB := by decide +kernel
theorem two_ok : okNls twoL true = true ∧ okNls twoL false = false := by decide +kernel
theorem two_get : getNls true twoB = some twoL := by
  rw [← two_put]
  unfold getNls
  exact getNl_put true twoL _ 0 (fun x hx => by
    simp [twoL] at hx
    rcases hx with rfl | rfl <;> exact ⟨by unfold InAddr; decide, by decide +kernel⟩) (by decide) (by omega)
theorem bad_get : getNls false [33] = none := by rfl
theorem two_size : sizeN ⟨5, 167772160, 8⟩ true = 6 := by decide +kernel
theorem two_cmp : cmpN ⟨5, 167772160, 8⟩ ⟨0, 0, 0⟩ = 1 := by decide +kernel
theorem two_text : strOfNums twoB = ⟨#[0, 0, 0, 5, 8, 10, 0, 0, 0, 0, 0]⟩ := by rfl
theorem three_okN : ∀ x ∈ twoL ++ [⟨5, 167772160, 8⟩], okN x := by
  intro x hx
  simp [twoL] at hx
  rcases hx with rfl | rfl | rfl <;> exact ⟨by decide, by decide, by decide⟩
theorem three_sorted {ss : List Nl} (h : Srt ss) (hm : ∀ x, x ∈ ss ↔ x ∈ twoL ++ [⟨5, 167772160, 8⟩]) : ss = [⟨0, 0, 0⟩, ⟨5, 167772160, 8⟩] := by
  refine Srt.unique h ?_ fun x => ?_
  · refine List.pairwise_cons.2 ⟨fun y hy => ?_, by simp⟩
    simp at hy; subst hy; unfold ltN; simp
  · rw [hm x]
    simp [twoL]
    exact fun h => .inr h

theorem lit_two (w : World) (g : Nat) (h : Blk w g 41 [.int .i64 5, .int .u32 167772160, .int .i64 8, .int .i64 0, .int .u32 0, .int .i64 0]) : NlsAt w (some ⟨g, 0, none⟩) twoL := by
  refine ⟨fun i hi => ?_, .inr ⟨g, 0, rfl, fun i hi => ?_⟩⟩
  · have : i = 0 ∨ i = 1 := by simp [twoL] at hi; omega
    rcases this with rfl | rfl <;> (unfold InAddr; decide)
  · have : i = 0 ∨ i = 1 := by simp [twoL] at hi; omega
    rcases this with rfl | rfl
    · exact ⟨h.cell 0 (by simp), h.cell 1 (by simp), h.cell 2 (by simp)⟩
    · exact ⟨h.cell 3 (by simp), h.cell 4 (by simp), h.cell 5 (by simp)⟩
theorem two_cells {w : World} {p : Option Addr} {a b : Nl} (h : NlsAt w p [a, b]) : ∃ bl off, p = some ⟨bl, off, none⟩ ∧ NlAt w bl off a ∧ NlAt w bl (off + 3) b := by
  rcases h.at_ with h0 | ⟨bl, off, rfl, hc⟩
  · cases h0
  · have h0 := hc 0 (by simp)
    have h1 := hc 1 (by simp)
    exact ⟨bl, off, rfl, by simpa using h0, by simpa using h1⟩

end Go.Proofs.Ytgmcjejgginpjaa
