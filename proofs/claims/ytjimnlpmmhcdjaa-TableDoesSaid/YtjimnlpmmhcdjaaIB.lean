/- table: two lists of the call's own side by side; the document's Expire. -/
import Derived.Test.YtjimnlpmmhcdjaaIA
namespace Go.Proofs.Ytjimnlpmmhcdjaa
open Go.RowKit Go.Maps Go.Sort
set_option linter.unusedVariables false
set_option linter.unusedSimpArgs false
set_option maxRecDepth 100000

section
variable {st et : TypeId} {α : Type} {c : α → List Value} {ok : α → Prop} {zero : α} {zv : Value} {sz by_ : Nat} {w w' : World} {p q q' : Option Addr} {l m : List α} {n k cap cap' B : Nat}
theorem LOwn.grown (h : LOwn et c ok sz w B q n cap l) {row : Option Nat} (hg : w.grownBy w' row) (hne : ∀ r off, q = some ⟨r, off, none⟩ → row ≠ some r) : LOwn et c ok sz w' B q n cap l :=
  ⟨h.len, h.ok, h.row.kept hg (by
    rcases h.row.2 with ⟨hv, _⟩ | ⟨g, cap2, cur, hv, hB, _⟩
    · rw [hv]; exact .inl rfl
    · simp only [Value.slice.injEq] at hv
      obtain ⟨rfl, _, rfl⟩ := hv
      refine .inr fun e => hne g 0 rfl ?_
      rw [← e]; rfl)⟩
/-- Where an appended list lies: where it lay, or in a new block. -/
theorem where_app (C : RowC st et c ok zero zv sz by_) (w : World) (ty : TypeId) (B : Nat) (q : Option Addr) (n cap : Nat) (l : List α) (h : LOwn et c ok sz w B q n cap l) (p : Option Addr) (c' m : Nat) (ys : List α) (hy : LAt c ok zero sz w p ys) (hm : ys.length = m) (hm0 : 0 < m) (h40 : n + m ≤ 34359738368)
    {q' : Option Addr} {cap' : Nat} {w' : World} (hr : (Builtin.append_ #[st, st] ty #[.slice q n cap, .slice p m c']).run Try.prog w = .ok (.slice q' (n + m) cap') w') : q' = q ∨ q' = some ⟨w.heap.size, 0, none⟩ := by
  obtain ⟨i0, hi, hz0, hz1, hz2⟩ := info_partsL C.info
  obtain ⟨b2, off2, rfl, hcell2⟩ := hy.src C hm hm0
  have hsrc : Src Try.prog i0.size st (.slice (some ⟨b2, off2, none⟩) m c') m (cellsL c ys) w := Src.ofSlice w C.under ⟨b2, off2, none⟩ m c' (cellsL c ys) (by rw [hz1, cellsL_len C, hm]) hcell2 (fun u hu => by
    unfold cellsL at hu
    obtain ⟨x, _, hx⟩ := List.mem_flatMap.1 hu
    exact C.one x u hx)
  have hby : (n + m) * by_ ≤ 140737488355328 := Nat.le_trans (Nat.mul_le_mul h40 C.byl) (by decide)
  by_cases hroom : n + m ≤ cap
  · left
    rcases h.row.2 with ⟨hv, h0⟩ | ⟨g, cap2, cur, hv, hB, hg, hnc, hcm, hcs, htake⟩
    · simp only [Value.slice.injEq] at hv
      omega
    · simp only [Value.slice.injEq] at hv
      obtain ⟨rfl, _, rfl⟩ := hv
      have hcl : ∀ j, j < (cellsL c ys).length → 0 + n * sz + j < cur.size := fun j hj => by
        rw [cellsL_len C, hm] at hj
        rw [hcs]
        have := Nat.mul_le_mul_right sz hroom
        rw [Nat.add_mul] at this
        omega
      have hr2 := run_append_room_src (P := Try.prog) w st st ty et i0 C.under hi g 0 n cap _ m (cellsL c ys) hsrc hroom (fun j hj => by
        have := hcl j hj
        rw [hz1]
        rw [Nat.zero_add] at this
        simp [World.cell?, hg, this]) (fun j hj => by
        have := hcl j hj
        rw [hz1]
        simp [World.frozen?, hg])
      rw [hr2] at hr
      injection hr with e1 e2
      injection e1 with e1
      exact e1.symm
  · right
    have hold : (Builtin.firstCells i0.size n (.slice q n cap)).run Try.prog w.drew = .ok (cellsL c l).toArray w.drew := by
      rcases h.row.2 with ⟨hv, h0⟩ | ⟨g, cap2, cur, hv, hB, hg, hnc, hcm, hcs, htake⟩
      · simp only [Value.slice.injEq] at hv
        obtain ⟨rfl, rfl, rfl⟩ := hv
        obtain rfl : l = [] := List.eq_nil_of_length_eq_zero h.len
        exact run_firstCells_none w.drew _ _ _ _
      · simp only [Value.slice.injEq] at hv
        obtain ⟨rfl, _, rfl⟩ := hv
        exact run_firstCells_some w.drew i0.size n ⟨g, 0, none⟩ n cap (cellsL c l) (by rw [cellsL_len C, h.len, hz1]) (fun j v hj => h.row.cells (g := g) rfl j v hj)
    have hr2 := run_append_grow_src (P := Try.prog) w st st ty et i0 _ C.under hi hz0 q n cap (cellsL c l) hold _ m (cellsL c ys) hsrc (by omega) (by omega) (growslice_fits (by omega) (by rw [hz2]; exact hby))
    rw [hr2] at hr
    injection hr with e1 e2
    injection e1 with e1
    exact e1.symm
/-- append to one of two. -/
theorem wpList_app2L (C : RowC st et c ok zero zv sz by_) {ops : Array Oper} {rest : List Oper} {o : Oper} {a : Act} {w : World} {Q : Exit → Act → World → Prop} (hw : Region.wanted o (yielded ops a.tmps) = true) (s x : Operand)
    (ho : o.op = .call { callee := .builtin .append, args := #[s, x], argTypes := #[st, st] })
    (B : Nat) (q : Option Addr) (n cap : Nat) (l : List α) (hown : LOwn et c ok sz w B q n cap l) (hs : a.eval s = .slice q n cap)
    (p : Option Addr) (m c' : Nat) (ys : List α) (hy : LAt c ok zero sz w p ys) (hm : ys.length = m) (hm0 : 0 < m) (hx : a.eval x = .slice p m c') (t : Nat) (ht : n + m = t) (h40 : t ≤ 34359738368) (hB : B ≤ w.heap.size)
    (h : ∀ q' cap' w', Hid (LOwn et c ok sz w' B q' t cap' (l ++ ys)) → Hid (w.grownBy w' (Value.slice q n cap).ownBlock) → Hid (q' = q ∨ q' = some ⟨w.heap.size, 0, none⟩) → wpList Try.prog ops Q rest (a.put o.dst (.slice q' t cap')) w') :
    wpList Try.prog ops Q (o :: rest) a w :=
  wpList_step fun K hK => by
    rw [if_pos hw]
    subst ht
    obtain ⟨i0, hi, hz0, hz1, hz2⟩ := info_partsL C.info
    obtain ⟨b, off, rfl, hcell⟩ := hy.src C hm hm0
    have hby : (n + m) * by_ ≤ 140737488355328 := Nat.le_trans (Nat.mul_le_mul h40 C.byl) (by decide)
    obtain ⟨v', w', hr, h2, h3, _⟩ := run_append_own (P := Try.prog) w B st o.type et i0 zv sz by_ C.under hi hz0 hz1 hz2 C.zs C.pos _ n _ hown.row ⟨b, off, none⟩ m c' (cellsL c ys) (by rw [cellsL_len C, hm]) hcell (fun u hu => by
      unfold cellsL at hu
      obtain ⟨x, _, hx⟩ := List.mem_flatMap.1 hu
      exact C.one x u hx) (by unfold maxLen; omega) hby hB
    obtain ⟨q', cap', rfl, _, _⟩ := rowL_form h2
    have hwh := where_app C w o.type B q n cap l hown (some ⟨b, off, none⟩) c' m ys hy hm hm0 h40 hr
    have hO : LOwn et c ok sz w' B q' (n + m) cap' (l ++ ys) := ⟨by rw [List.length_append, hown.len, hm], fun x hx => (List.mem_append.1 hx).elim (hown.ok x) (hy.ok x), by
      unfold cellsL at *
      rw [List.flatMap_append]
      exact h2⟩
    unfold Oper.wp execOp
    simp only [ho, resolve, invoke, builtin, Sem.run_bind, Sem.run_pure, Result.andThen_ok, List.map_toArray, List.map_cons, List.map_nil, hs, hx, hr]
    exact hK _ _ (h q' cap' w' (Lib.hid hO) (Lib.hid h3) (Lib.hid hwh))
end
theorem own_blk (q : Option Addr) (n cap : Nat) {r : Nat} {off : Nat} (h : q = some ⟨r, off, none⟩) (k : Nat) (hk : (Value.slice q n cap).ownBlock = some k) : k = r := by
  subst h
  simpa [Value.ownBlock] using hk.symm
/-- Two lists apart. -/
def ApartQ (q q2 : Option Addr) : Prop := ∀ r off off2, q = some ⟨r, off, none⟩ → q2 ≠ some ⟨r, off2, none⟩
theorem ApartQ.symm {q q2 : Option Addr} (h : ApartQ q q2) : ApartQ q2 q := fun r off off2 e e2 => h r off2 off e2 e
/-- One of two grows. -/
theorem apart_step {w w' : World} {B2 : Nat} {q q2 q' : Option Addr} {n n2 cap cap2 : Nat} {l2 : List Dt} (hO : DtsOwn w B2 q2 n2 cap2 l2) (hA : ApartQ q q2) (hq : ∀ k, (Value.slice q n cap).ownBlock = some k → ∃ off, q = some ⟨k, off, none⟩) (hg : w.grownBy w' (Value.slice q n cap).ownBlock) (hw : q' = q ∨ q' = some ⟨w.heap.size, 0, none⟩) :
    DtsOwn w' B2 q2 n2 cap2 l2 ∧ ApartQ q' q2 := by
  refine ⟨hO.grown hg fun r off e e2 => ?_, fun r off off2 e e2 => ?_⟩
  · obtain ⟨off3, h3⟩ := hq r e2
    exact hA r off3 off h3 e
  · rcases hw with rfl | rfl
    · exact hA r off off2 e e2
    · simp only [Option.some.injEq, Addr.mk.injEq, and_true] at e
      obtain ⟨rfl, _⟩ := e
      rcases hO.row.2 with ⟨hv, _⟩ | ⟨g, cap3, cur, hv, hB, hh, _⟩
      · rw [e2] at hv; cases hv
      · rw [e2] at hv
        simp only [Value.slice.injEq, Option.some.injEq, Addr.mk.injEq, and_true] at hv
        obtain ⟨⟨rfl, _⟩, _⟩ := hv
        have := (Array.getElem?_eq_some_iff.1 hh).1
        omega
theorem own_form {w : World} {B : Nat} {q : Option Addr} {n cap : Nat} {l : List Dt} (hO : DtsOwn w B q n cap l) : ∀ k, (Value.slice q n cap).ownBlock = some k → B ≤ k ∧ ∃ off, q = some ⟨k, off, none⟩ := by
  intro k hk
  rcases hO.row.2 with ⟨hv, _⟩ | ⟨g, cap3, cur, hv, hB, hh, _⟩
  · rw [hv] at hk; cases hk
  · simp only [Value.slice.injEq] at hv
    obtain ⟨rfl, _, rfl⟩ := hv
    have : g = k := by simpa [Value.ownBlock] using hk
    subst this
    exact ⟨hB, 0, rfl⟩
theorem overD_step (L : List Dt) (now : Int) (k : Nat) (hk : k < L.length) : overD now (L.take (k + 1)) = overD now (L.take k) ++ (if (L.getD k Dt.zero).u < now then [L.getD k Dt.zero] else []) := by
  have e : L.take (k + 1) = L.take k ++ [L.getD k Dt.zero] := by rw [List.take_add_one]; simp [List.getD, hk]
  rw [e]
  generalize L.getD k Dt.zero = x
  unfold overD
  rw [List.filter_append]
  by_cases h : x.u < now <;> simp [h]
theorem leftD_step (L : List Dt) (now : Int) (k : Nat) (hk : k < L.length) : leftD now (L.take (k + 1)) = leftD now (L.take k) ++ (if (L.getD k Dt.zero).u < now then [] else [L.getD k Dt.zero]) := by
  have e : L.take (k + 1) = L.take k ++ [L.getD k Dt.zero] := by rw [List.take_add_one]; simp [List.getD, hk]
  rw [e]
  generalize L.getD k Dt.zero = x
  unfold leftD
  rw [List.filter_append]
  by_cases h : x.u < now <;> simp [h]
set_option maxHeartbeats 16000000 in
theorem rexpireD_any (w : World) (g : Nat) (q : Option Addr) (c : Nat) (L : List Dt) (H : RtAt w g q c L) (now : Int) (hn : L.length ≤ 1000000) :
    Calls Try.prog 15 #[.pointer (some ⟨g, 0, none⟩), .int .i64 now] w fun e w' => ∃ q2 c2, e = .returned (.slice q2 (overD now L).length c2) ∧ DtsAt w' q2 (overD now L) ∧ (overD now L).length ≤ c2 ∧ c2 ≤ maxLen ∧ RtTo w w' g (leftD now L) ∧ ∀ r off, q2 = some ⟨r, off, none⟩ → w.heap.size ≤ r := by
  obtain ⟨n, hnn⟩ : ∃ n, L.length = n := ⟨_, rfl⟩
  have HN := Lib.hid hnn
  have HH := Lib.hid H
  have hn9 : n ≤ 1000000 := by rw [← hnn]; exact hn
  have hlc : n ≤ c := by have := H.le; rw [hnn] at this; exact this
  have hcx := H.max
  unfold maxLen at hcx
  clear H hn hnn
  go_enter Try.func15, Try.ntmps15
  go_wp2_with fail
  go_loopw [5, 6, 7] (fun v5 v6 v7 wr => ∃ k : Nat, k ≤ n ∧ v7 = .int .i64 k ∧ Below w.heap.size w wr ∧ ∃ q5 n5 c5 q6 n6 c6, v5 = .slice q5 n5 c5 ∧ v6 = .slice q6 n6 c6 ∧ DtsOwn wr w.heap.size q5 n5 c5 (overD now (L.take k)) ∧ DtsOwn wr w.heap.size q6 n6 c6 (leftD now (L.take k)) ∧ ApartQ q5 q6) (fun _ _ v7 _ => n - (intOf v7).toNat)
  case atStart => exact ⟨0, Nat.zero_le _, rfl, Below.refl _ _, none, 0, 0, none, 0, 0, rfl, rfl, by rw [List.take_zero]; exact LOwn.nil _ _ _ _ _ _, by rw [List.take_zero]; exact LOwn.nil _ _ _ _ _ _, fun r off off2 e => by cases e⟩
  case round =>
    obtain ⟨k, hk, rfl, hB, q5, n5, c5, q6, n6, c6, rfl, rfl, hO5, hO6, hA⟩ := hrel
    have HB := Lib.hid hB
    have HO5 := Lib.hid hO5
    have HO6 := Lib.hid hO6
    have HA := Lib.hid hA
    have X0 := (HH.out.next hB).at0 HN.out
    have hn5 : n5 ≤ 1000000 := by rw [← hO5.len]; exact Nat.le_trans (List.length_filter_le _ _) (by rw [List.length_take]; omega)
    have hn6 : n6 ≤ 1000000 := by rw [← hO6.len]; exact Nat.le_trans (List.length_filter_le _ _) (by rw [List.length_take]; omega)
    have HN5 := Lib.hid (show n5 + 1 ≤ 34359738368 by omega)
    have HN6 := Lib.hid (show n6 + 1 ≤ 34359738368 by omega)
    clear hB hO5 hO6 hA hn5 hn6
    by_cases hlt : k < n
    · have hltI : (k : Int) < (n : Int) := by omega
      obtain ⟨b, off, rfl, e0, e1, e2, e3, e4⟩ := dt_cell (HH.out.at_.below HB.out) HN.out hlt
      obtain ⟨x, hx⟩ : ∃ x, L.getD k Dt.zero = x := ⟨_, rfl⟩
      have HS5 := Lib.hid (show overD now (L.take (k + 1)) = overD now (L.take k) ++ (if x.u < now then [x] else []) from by rw [← hx]; exact overD_step L now k (by rw [HN.out]; exact hlt))
      have HS6 := Lib.hid (show leftD now (L.take (k + 1)) = leftD now (L.take k) ++ (if x.u < now then [] else [x]) from by rw [← hx]; exact leftD_step L now k (by rw [HN.out]; exact hlt))
      have HIN := Lib.hid (show InDt x from by rw [← hx]; exact HH.out.ok _ (by simp [List.getD, show k < L.length by rw [HN.out]; exact hlt]))
      rw [hx] at e0 e1 e2 e3 e4
      obtain ⟨x0, ⟨x1, x2⟩, x3, x4⟩ := x
      dsimp only at e0 e1 e2 e3 e4
      dsimp only at HS5 HS6
      have LIT := Lib.hid (dt_lit wr ⟨x0, ⟨x1, x2⟩, x3, x4⟩ HIN.out)
      have hb4 := newB wr (.cells #[.int .i64 x0, .int .u32 x1, .int .i64 x2, .int .i64 x3, .int .i64 x4] 36)
      have HB4 := Lib.hid hb4
      have HSZ := Lib.hid (show w.heap.size ≤ (wr.alloc (.cells #[.int .i64 x0, .int .u32 x1, .int .i64 x2, .int .i64 x3, .int .i64 x4] 36)).heap.size from Nat.le_trans HB.out.size hb4.size)
      have OW5 := Lib.hid (HO5.out.below hb4)
      have OW6 := Lib.hid (HO6.out.below hb4)
      have HBW := Lib.hid (HB.out.trans (hb4.mono HB.out.size))
      clear hx hb4
      by_cases hu : x4 < now
      · have t1 : decide (x4 < now) = true := decide_eq_true hu
        have HE5 := Lib.hid (show overD now (L.take (k + 1)) = overD now (L.take k) ++ [⟨x0, ⟨x1, x2⟩, x3, x4⟩] from by rw [HS5.out, if_pos hu])
        have HE6 := Lib.hid (show leftD now (L.take (k + 1)) = leftD now (L.take k) from by rw [HS6.out, if_pos hu, List.append_nil])
        clear hu
        go_wp2_with (refine wpList_app2L (o := ⟨some 36, _, _, _, _, _⟩) rowDt (by kernel_rfl) (.tmp 27) (.tmp 35) rfl w.heap.size q5 n5 c5 _ OW5.out rfl (some ⟨wr.heap.size, 0, none⟩) 1 1 [⟨x0, ⟨x1, x2⟩, x3, x4⟩] LIT.out rfl (by omega) rfl (n5 + 1) rfl HN5.out HSZ.out ?_; intro q7 c7 w7 h7 g7 a7)
        have HST := Lib.hid (apart_step OW6.out HA.out (fun k hk => (own_form OW5.out k hk).2) g7.out a7.out)
        have HBE := Lib.hid (HBW.out.grown g7.out HBW.out.size (fun k e => (own_form OW5.out k e).1))
        go_roundw
        case rel => exact ⟨k + 1, by omega, by go_num, HBE.out, q7, n5 + 1, c7, q6, n6, c6, rfl, rfl, by rw [HE5.out]; exact h7.out, by rw [HE6.out]; exact HST.out.1, HST.out.2⟩
        case measure => simp [intOf]; omega
      · have t1 : decide (x4 < now) = false := decide_eq_false hu
        have HE5 := Lib.hid (show overD now (L.take (k + 1)) = overD now (L.take k) from by rw [HS5.out, if_neg hu, List.append_nil])
        have HE6 := Lib.hid (show leftD now (L.take (k + 1)) = leftD now (L.take k) ++ [⟨x0, ⟨x1, x2⟩, x3, x4⟩] from by rw [HS6.out, if_neg hu])
        clear hu
        go_wp2_with (refine wpList_app2L (o := ⟨some 46, _, _, _, _, _⟩) rowDt (by kernel_rfl) (.tmp 37) (.tmp 45) rfl w.heap.size q6 n6 c6 _ OW6.out rfl (some ⟨wr.heap.size, 0, none⟩) 1 1 [⟨x0, ⟨x1, x2⟩, x3, x4⟩] LIT.out rfl (by omega) rfl (n6 + 1) rfl HN6.out HSZ.out ?_; intro q7 c7 w7 h7 g7 a7)
        have HST := Lib.hid (apart_step OW5.out HA.out.symm (fun k hk => (own_form OW6.out k hk).2) g7.out a7.out)
        have HBE := Lib.hid (HBW.out.grown g7.out HBW.out.size (fun k e => (own_form OW6.out k e).1))
        go_roundw
        case rel => exact ⟨k + 1, by omega, by go_num, HBE.out, q5, n5, c5, q7, n6 + 1, c7, rfl, rfl, by rw [HE5.out]; exact HST.out.1, by rw [HE6.out]; exact h7.out, HST.out.2.symm⟩
        case measure => simp [intOf]; omega
    · obtain rfl : k = n := by omega
      have e9 : L.take k = L := List.take_of_length_le (by rw [HN.out]; exact Nat.le_refl _)
      have ho5 := HO5.out
      have ho6 := HO6.out
      rw [e9] at ho5 ho6
      have HO5 := Lib.hid ho5
      have HO6 := Lib.hid ho6
      have hfz := (HH.out.next HB.out).blk.f 0
      clear ho5 ho6 e9
      go_wp2_with fail
      go_ret
      have hl5 := HO5.out.len
      subst hl5
      have hgb : g < w.heap.size := HH.out.blk.lt
      have hs : Turns (fun k => k = g) wr (wr.setCell ⟨g, 0, none⟩ (.slice q6 n6 c6)) := Turns.setCell (S := fun k => k = g) (Turns.refl _ wr) (p := ⟨g, 0, none⟩) (.inl rfl) _
      refine ⟨q5, c5, rfl, (HO5.out.at rowDt).turns hs (fun b off e => by have := HO5.out.lo b off e; omega), HO5.out.cap_.1, HO5.out.cap_.2, rt_end HH.out.blk (Below.refl _ w) HB.out HO6.out (HH.out.srt.filter _) (fun x hx => HH.out.ok x (List.mem_filter.1 hx).1), HO5.out.lo⟩
end Go.Proofs.Ytjimnlpmmhcdjaa
