/- Lists of the call's own: what an append leaves alone; where it lies; made with room. -/
import Derived.Test.YtljbebeaahcjaaaZa
import Derived.Laws.MakeOwn
namespace Go.Proofs.Ytljbebeaahcjaaa
open Go.RowKit Go.Maps
set_option linter.unusedVariables false
set_option linter.unusedSimpArgs false
set_option maxRecDepth 100000

section
variable {st et : TypeId} {α : Type} {c : α → List Value} {ok : α → Prop} {zero : α} {zv : Value} {sz by_ : Nat} {w w' : World} {p q q' : Option Addr} {l m : List α} {n k cap cap' B : Nat}
theorem LOwn.grown (h : LOwn et c ok sz w B q n cap l) {row : Option Nat} (hg : w.grownBy w' row) (hne : ∀ r off, q = some ⟨r, off, none⟩ → row ≠ some r) : LOwn et c ok sz w' B q n cap l :=
  ⟨h.len, h.ok, h.row.kept hg (by
    rcases h.row.2 with ⟨hv, _⟩ | ⟨g, cap2, cur, hv, hB, _⟩
    · rw [hv]; exact .inl rfl
    · simp only [Value.slice.injEq] at hv
      obtain ⟨rfl, _, rfl⟩ := hv
      refine .inr fun e => hne g 0 rfl ?_
      rw [← e]; rfl)⟩
/-- Where an appended list lies: where it lay, or in a new block. -/
theorem where_app (C : RowC st et c ok zero zv sz by_) (w : World) (ty : TypeId) (B : Nat) (q : Option Addr) (n cap : Nat) (l : List α) (h : LOwn et c ok sz w B q n cap l) (p : Option Addr) (c' m : Nat) (ys : List α) (hy : LAt c ok zero sz w p ys) (hm : ys.length = m) (hm0 : 0 < m) (h40 : n + m ≤ 34359738368)
    {q' : Option Addr} {cap' : Nat} {w' : World} (hr : (Builtin.append_ #[st, st] ty #[.slice q n cap, .slice p m c']).run Try.prog w = .ok (.slice q' (n + m) cap') w') : q' = q ∨ q' = some ⟨w.heap.size, 0, none⟩ := by
  obtain ⟨i0, hi, hz0, hz1, hz2⟩ := info_partsL C.info
  obtain ⟨b2, off2, rfl, hcell2⟩ := hy.src C hm hm0
  have hsrc : Src Try.prog i0.size st (.slice (some ⟨b2, off2, none⟩) m c') m (cellsL c ys) w := Src.ofSlice w C.under ⟨b2, off2, none⟩ m c' (cellsL c ys) (by rw [hz1, cellsL_len C, hm]) hcell2 (fun u hu => by
    unfold cellsL at hu
    obtain ⟨x, _, hx⟩ := List.mem_flatMap.1 hu
    exact C.one x u hx)
  have hby : (n + m) * by_ ≤ 140737488355328 := Nat.le_trans (Nat.mul_le_mul h40 C.byl) (by decide)
  by_cases hroom : n + m ≤ cap
  · left
    rcases h.row.2 with ⟨hv, h0⟩ | ⟨g, cap2, cur, hv, hB, hg, hnc, hcm, hcs, htake⟩
    · simp only [Value.slice.injEq] at hv
      omega
    · simp only [Value.slice.injEq] at hv
      obtain ⟨rfl, _, rfl⟩ := hv
      have hcl : ∀ j, j < (cellsL c ys).length → 0 + n * sz + j < cur.size := fun j hj => by
        rw [cellsL_len C, hm] at hj
        rw [hcs]
        have := Nat.mul_le_mul_right sz hroom
        rw [Nat.add_mul] at this
        omega
      have hr2 := run_append_room_src (P := Try.prog) w st st ty et i0 C.under hi g 0 n cap _ m (cellsL c ys) hsrc hroom (fun j hj => by
        have := hcl j hj
        rw [hz1]
        rw [Nat.zero_add] at this
        simp [World.cell?, hg, this]) (fun j hj => by
        have := hcl j hj
        rw [hz1]
        simp [World.frozen?, hg])
      rw [hr2] at hr
      injection hr with e1 e2
      injection e1 with e1
      exact e1.symm
  · right
    have hold : (Builtin.firstCells i0.size n (.slice q n cap)).run Try.prog w.drew = .ok (cellsL c l).toArray w.drew := by
      rcases h.row.2 with ⟨hv, h0⟩ | ⟨g, cap2, cur, hv, hB, hg, hnc, hcm, hcs, htake⟩
      · simp only [Value.slice.injEq] at hv
        obtain ⟨rfl, rfl, rfl⟩ := hv
        obtain rfl : l = [] := List.eq_nil_of_length_eq_zero h.len
        exact run_firstCells_none w.drew _ _ _ _
      · simp only [Value.slice.injEq] at hv
        obtain ⟨rfl, _, rfl⟩ := hv
        exact run_firstCells_some w.drew i0.size n ⟨g, 0, none⟩ n cap (cellsL c l) (by rw [cellsL_len C, h.len, hz1]) (fun j v hj => h.row.cells (g := g) rfl j v hj)
    have hr2 := run_append_grow_src (P := Try.prog) w st st ty et i0 _ C.under hi hz0 q n cap (cellsL c l) hold _ m (cellsL c ys) hsrc (by omega) (by omega) (growslice_fits (by omega) (by rw [hz2]; exact hby))
    rw [hr2] at hr
    injection hr with e1 e2
    injection e1 with e1
    exact e1.symm
/-- append to one of two. -/
theorem wpList_app2L (C : RowC st et c ok zero zv sz by_) {ops : Array Oper} {rest : List Oper} {o : Oper} {a : Act} {w : World} {Q : Exit → Act → World → Prop} (hw : Region.wanted o (yielded ops a.tmps) = true) (s x : Operand)
    (ho : o.op = .call { callee := .builtin .append, args := #[s, x], argTypes := #[st, st] })
    (B : Nat) (q : Option Addr) (n cap : Nat) (l : List α) (hown : LOwn et c ok sz w B q n cap l) (hs : a.eval s = .slice q n cap)
    (p : Option Addr) (m c' : Nat) (ys : List α) (hy : LAt c ok zero sz w p ys) (hm : ys.length = m) (hm0 : 0 < m) (hx : a.eval x = .slice p m c') (t : Nat) (ht : n + m = t) (h40 : t ≤ 34359738368) (hB : B ≤ w.heap.size)
    (h : ∀ q' cap' w', Hid (LOwn et c ok sz w' B q' t cap' (l ++ ys)) → Hid (w.grownBy w' (Value.slice q n cap).ownBlock) → Hid (q' = q ∨ q' = some ⟨w.heap.size, 0, none⟩) → wpList Try.prog ops Q rest (a.put o.dst (.slice q' t cap')) w') :
    wpList Try.prog ops Q (o :: rest) a w :=
  wpList_step fun K hK => by
    rw [if_pos hw]
    subst ht
    obtain ⟨i0, hi, hz0, hz1, hz2⟩ := info_partsL C.info
    obtain ⟨b, off, rfl, hcell⟩ := hy.src C hm hm0
    have hby : (n + m) * by_ ≤ 140737488355328 := Nat.le_trans (Nat.mul_le_mul h40 C.byl) (by decide)
    obtain ⟨v', w', hr, h2, h3, _⟩ := run_append_own (P := Try.prog) w B st o.type et i0 zv sz by_ C.under hi hz0 hz1 hz2 C.zs C.pos _ n _ hown.row ⟨b, off, none⟩ m c' (cellsL c ys) (by rw [cellsL_len C, hm]) hcell (fun u hu => by
      unfold cellsL at hu
      obtain ⟨x, _, hx⟩ := List.mem_flatMap.1 hu
      exact C.one x u hx) (by unfold maxLen; omega) hby hB
    obtain ⟨q', cap', rfl, _, _⟩ := rowL_form h2
    have hwh := where_app C w o.type B q n cap l hown (some ⟨b, off, none⟩) c' m ys hy hm hm0 h40 hr
    have hO : LOwn et c ok sz w' B q' (n + m) cap' (l ++ ys) := ⟨by rw [List.length_append, hown.len, hm], fun x hx => (List.mem_append.1 hx).elim (hown.ok x) (hy.ok x), by
      unfold cellsL at *
      rw [List.flatMap_append]
      exact h2⟩
    unfold Oper.wp execOp
    simp only [ho, resolve, invoke, builtin, Sem.run_bind, Sem.run_pure, Result.andThen_ok, List.map_toArray, List.map_cons, List.map_nil, hs, hx, hr]
    exact hK _ _ (h q' cap' w' (Lib.hid hO) (Lib.hid h3) (Lib.hid hwh))
/-- There is room: in place. -/
theorem room_app (C : RowC st et c ok zero zv sz by_) (w : World) (ty : TypeId) (B : Nat) (q : Option Addr) (n cap : Nat) (l : List α) (h : LOwn et c ok sz w B q n cap l) (p : Option Addr) (c' m : Nat) (ys : List α) (hy : LAt c ok zero sz w p ys) (hm : ys.length = m) (hm0 : 0 < m) (hroom : n + m ≤ cap)
    {q' : Option Addr} {cap' : Nat} {w' : World} (hr : (Builtin.append_ #[st, st] ty #[.slice q n cap, .slice p m c']).run Try.prog w = .ok (.slice q' (n + m) cap') w') : q' = q ∧ cap' = cap := by
  obtain ⟨i0, hi, hz0, hz1, hz2⟩ := info_partsL C.info
  obtain ⟨b2, off2, rfl, hcell2⟩ := hy.src C hm hm0
  have hsrc : Src Try.prog i0.size st (.slice (some ⟨b2, off2, none⟩) m c') m (cellsL c ys) w := Src.ofSlice w C.under ⟨b2, off2, none⟩ m c' (cellsL c ys) (by rw [hz1, cellsL_len C, hm]) hcell2 (fun u hu => by
    unfold cellsL at hu
    obtain ⟨x, _, hx⟩ := List.mem_flatMap.1 hu
    exact C.one x u hx)
  rcases h.row.2 with ⟨hv, h0⟩ | ⟨g, cap2, cur, hv, hB, hg, hnc, hcm, hcs, htake⟩
  · simp only [Value.slice.injEq] at hv
    omega
  · simp only [Value.slice.injEq] at hv
    obtain ⟨rfl, _, rfl⟩ := hv
    have hcl : ∀ j, j < (cellsL c ys).length → 0 + n * sz + j < cur.size := fun j hj => by
      rw [cellsL_len C, hm] at hj
      rw [hcs]
      have := Nat.mul_le_mul_right sz hroom
      rw [Nat.add_mul] at this
      omega
    have hr2 := run_append_room_src (P := Try.prog) w st st ty et i0 C.under hi g 0 n cap _ m (cellsL c ys) hsrc hroom (fun j hj => by
      have := hcl j hj
      rw [hz1]
      rw [Nat.zero_add] at this
      simp [World.cell?, hg, this]) (fun j hj => by
      have := hcl j hj
      rw [hz1]
      simp [World.frozen?, hg])
    rw [hr2] at hr
    injection hr with e1 e2
    injection e1 with e1 e3 e4
    exact ⟨e1.symm, e4.symm⟩
/-- append where there is room. -/
theorem wpList_appR (C : RowC st et c ok zero zv sz by_) {ops : Array Oper} {rest : List Oper} {o : Oper} {a : Act} {w : World} {Q : Exit → Act → World → Prop} (hw : Region.wanted o (yielded ops a.tmps) = true) (s x : Operand)
    (ho : o.op = .call { callee := .builtin .append, args := #[s, x], argTypes := #[st, st] })
    (B : Nat) (q : Option Addr) (n cap : Nat) (l : List α) (hown : LOwn et c ok sz w B q n cap l) (hs : a.eval s = .slice q n cap)
    (p : Option Addr) (m c' : Nat) (ys : List α) (hy : LAt c ok zero sz w p ys) (hm : ys.length = m) (hm0 : 0 < m) (hx : a.eval x = .slice p m c') (t : Nat) (ht : n + m = t) (h40 : t ≤ 34359738368) (hroom : t ≤ cap) (hB : B ≤ w.heap.size)
    (h : ∀ w', Hid (LOwn et c ok sz w' B q t cap (l ++ ys)) → Hid (w.grownBy w' (Value.slice q n cap).ownBlock) → wpList Try.prog ops Q rest (a.put o.dst (.slice q t cap)) w') :
    wpList Try.prog ops Q (o :: rest) a w :=
  wpList_step fun K hK => by
    rw [if_pos hw]
    subst ht
    obtain ⟨i0, hi, hz0, hz1, hz2⟩ := info_partsL C.info
    have hy0 := hy
    obtain ⟨b, off, rfl, hcell⟩ := hy.src C hm hm0
    have hby : (n + m) * by_ ≤ 140737488355328 := Nat.le_trans (Nat.mul_le_mul h40 C.byl) (by decide)
    obtain ⟨v', w', hr, h2, h3, _⟩ := run_append_own (P := Try.prog) w B st o.type et i0 zv sz by_ C.under hi hz0 hz1 hz2 C.zs C.pos _ n _ hown.row ⟨b, off, none⟩ m c' (cellsL c ys) (by rw [cellsL_len C, hm]) hcell (fun u hu => by
      unfold cellsL at hu
      obtain ⟨x, _, hx⟩ := List.mem_flatMap.1 hu
      exact C.one x u hx) (by unfold maxLen; omega) hby hB
    obtain ⟨q', cap', rfl, _, _⟩ := rowL_form h2
    obtain ⟨rfl, rfl⟩ := room_app C w o.type B q n cap l hown (some ⟨b, off, none⟩) c' m ys hy hm hm0 hroom hr
    have hO : LOwn et c ok sz w' B q' (n + m) cap' (l ++ ys) := ⟨by rw [List.length_append, hown.len, hm], fun x hx => (List.mem_append.1 hx).elim (hown.ok x) (hy.ok x), by
      unfold cellsL at *
      rw [List.flatMap_append]
      exact h2⟩
    unfold Oper.wp execOp
    simp only [ho, resolve, invoke, builtin, Sem.run_bind, Sem.run_pure, Result.andThen_ok, List.map_toArray, List.map_cons, List.map_nil, hs, hx, hr]
    exact hK _ _ (h w' (Lib.hid hO) (Lib.hid h3))
/-- make([]E, 0, n). -/
theorem LOwn.made (C : RowC st et c ok zero zv sz by_) (w : World) (n : Nat) (hn : n ≤ maxLen) : LOwn et c ok sz (w.alloc (.cells (madeCells zv.cells (n * sz)) et)) w.heap.size (some ⟨w.heap.size, 0, none⟩) 0 n ([] : List α) :=
  ⟨rfl, fun x hx => (by cases hx), ⟨by simp [cellsL], .inr ⟨w.heap.size, n, _, rfl, Nat.le_refl _, (by show (w.heap.push _)[w.heap.size]? = _; exact Array.getElem?_push_size), Nat.zero_le _, hn, size_madeCells _ _, by simp [cellsL]⟩⟩⟩
theorem run_make0L (C : RowC st et c ok zero zv sz by_) (n : Nat) (hn : n ≤ 34359738368) (w : World) : (Instr.makeSlice st (.int .i64 0) (.int .i64 (n : Int))).run Try.prog w = .ok (.slice (some ⟨w.heap.size, 0, none⟩) 0 n) (w.alloc (.cells (madeCells zv.cells (n * sz)) et)) := by
  obtain ⟨i, hi, hz, hs, hb⟩ := info_partsL C.info
  have hby : n * by_ ≤ 281474976710656 := Nat.le_trans (Nat.mul_le_mul hn C.byl) (by decide)
  have hr := run_make (P := Try.prog) w st et i zv C.under hi hz .i64 .i64 0 n (by omega) (by omega) (by
    rw [hb]
    have : ((by_ * n : Nat) : Int) ≤ 281474976710656 := by rw [Nat.mul_comm]; omega
    simpa using this) (by omega)
  simp only [Int.toNat_natCast, hs] at hr
  exact hr
end
end Go.Proofs.Ytljbebeaahcjaaa
