/- timer: Stop; nil ones. -/
import Derived.Test.YtlcciifoddcbdaaTk4
namespace Go.Proofs.Ytlcciifoddcbdaa
open Go.RowKit Go.Maps

theorem step_delT {ops : Array Oper} {o : Oper} {a : Act} {w : World} {K : Act → World → Prop} {Q : Exit → Act → World → Prop} {E : Prop} (hgd : o.guard = none) (m x : Operand)
    (ho : o.op = .call { callee := .builtin .delete, args := #[m, x], argTypes := #[49, 31] })
    (g b n : Nat) (D : DataW Unit) (k : Tk) (hok : okT k) (hm : a.eval m = .map (some b)) (hx : a.eval x = tkV k) (h : TmP w g b n D)
    (hK : ∀ w', Hid (TmP w' g b n (D.del (litT k))) → Hid (w.grownBy w' (some b)) → K (a.put o.dst (.tuple #[])) w') :
    if Region.wanted o (yielded ops a.tmps) = true then Oper.wp Try.prog o a w K Q else E := by
  have hw : Region.wanted o (yielded ops a.tmps) = true := by simp [Region.wanted, hgd]
  rw [if_pos hw]
  obtain ⟨w', hrun, h2, h3⟩ := h.map.drop tk_keyed Try.underlying49 (keyT_mk k hok) o.type
  unfold Oper.wp execOp
  simp only [ho, resolve, invoke, builtin, Sem.run_bind, Sem.run_pure, Result.andThen_ok, List.map_toArray, List.map_cons, List.map_nil, hm, hx, hrun]
  exact hK w' (Lib.hid (h.turn h3.grown h2)) (Lib.hid h3.grown)
theorem step_delNil {ops : Array Oper} {o : Oper} {a : Act} {w : World} {K : Act → World → Prop} {Q : Exit → Act → World → Prop} {E : Prop} (hgd : o.guard = none) (m x : Operand)
    (ho : o.op = .call { callee := .builtin .delete, args := #[m, x], argTypes := #[49, 31] })
    (k : Tk) (hok : okT k) (hm : a.eval m = .map none) (hx : a.eval x = tkV k)
    (hK : K (a.put o.dst (.tuple #[])) w) :
    if Region.wanted o (yielded ops a.tmps) = true then Oper.wp Try.prog o a w K Q else E := by
  have hw : Region.wanted o (yielded ops a.tmps) = true := by simp [Region.wanted, hgd]
  rw [if_pos hw]
  have hrun := Maps.drop_nil (w := w) tk_keyed Try.underlying49 (keyT_mk k hok) o.type
  unfold Oper.wp execOp
  simp only [ho, resolve, invoke, builtin, Sem.run_bind, Sem.run_pure, Result.andThen_ok, List.map_toArray, List.map_cons, List.map_nil, hm, hx, hrun]
  exact hK

theorem tstop_any (w : World) (g b n : Nat) (D : DataW Unit) (h : TmP w g b n D) (p k : Int) (hok : okT ⟨p, k⟩) :
    Calls Try.prog 11 #[.pointer (some ⟨g, 0, none⟩), .agg #[.int .i64 p, .int .i64 k]] w fun e w' => e = .returned (.bool (has D (litT ⟨p, k⟩))) ∧ TmP w' g b n (D.del (litT ⟨p, k⟩)) ∧ w.grownBy w' (some b) := by
  have hA := (newB w (.cells #[.int .i64 p, .int .i64 k] 31)).drew
  have H := Lib.hid (h.next hA)
  have HA := Lib.hid hA
  have HLT := Lib.hid h.blk.lt
  have HBG := Lib.hid h.lt
  obtain ⟨V, hV⟩ : ∃ V, w.alloc (.cells #[.int .i64 p, .int .i64 k] 31) = V := ⟨_, rfl⟩
  have hX : Blk V w.heap.size 31 [.int .i64 p, .int .i64 k] := hV ▸ Blk.new w 31 [.int .i64 p, .int .i64 k]
  have hsz : V.heap.size = w.heap.size + 1 := hV ▸ sz_alloc w _
  rw [hV] at H HA
  obtain ⟨HAS, hhas⟩ : ∃ x, has D (litT ⟨p, k⟩) = x := ⟨_, rfl⟩
  obtain ⟨c, _, hr⟩ := tlook H.out.map ⟨p, k⟩ hok
  rw [hhas] at hr ⊢
  unfold tkV at hr
  have HV := Lib.hid hV
  have HSZ := Lib.hid hsz
  have hS : V.drew.cell? ⟨w.heap.size, 0, none⟩ = some (.int .i64 p) ∧ V.drew.cell? ⟨w.heap.size, 1, none⟩ = some (.int .i64 k) ∧ (Instr.lookup 49 (.map (some b)) (.agg #[.int .i64 p, .int .i64 k]) true).run Try.prog V.drew = .ok (.tuple #[.int .i64 c, .bool HAS]) V.drew := ⟨hX.cell 0 (by simp), hX.cell 1 (by simp), hr⟩
  have P := Lib.hid (tall_any V.drew g b n D H.out)
  have H2 := Lib.hid (H.out.next (Below.refl V.drew.heap.size V.drew).drew)
  have d0 : V.drew.drew.cell? ⟨w.heap.size, 0, none⟩ = some (.int .i64 p) := hS.1
  have d1 : V.drew.drew.cell? ⟨w.heap.size, 1, none⟩ = some (.int .i64 k) := hS.2.1
  have P2 := Lib.hid (tall_any V.drew.drew g b n D H2.out)
  have HOK := Lib.hid hok
  have BX : Hid (Blk V.drew.drew w.heap.size 31 [.int .i64 p, .int .i64 k]) := Lib.hid hX
  have hS2 := And.intro d0 d1
  have HXL : Hid (w.heap.size < V.drew.drew.heap.size) := Lib.hid (by show w.heap.size < V.heap.size; omega)
  have HNE : Hid (some w.heap.size ≠ some b) := Lib.hid (fun e => by have := h.blk.lt; have := h.lt; simp at e; omega)
  clear h hA hX hhas hr hV hsz hok
  go_enter Try.func11, Try.ntmps11
  go_wp2_with fail
  rw [HV.out]
  go_region_held_law (fun w' => w'.cell? ⟨w.heap.size, 0, none⟩ = some (.int .i64 p) ∧ w'.cell? ⟨w.heap.size, 1, none⟩ = some (.int .i64 k) ∧ (Instr.lookup 49 (.map (some b)) (.agg #[.int .i64 p, .int .i64 k]) true).run Try.prog w' = .ok (.tuple #[.int .i64 c, .bool HAS]) w') (with_reducible assumption) (first
    | (go_at_call 21; refine P.out.mono ?_; rintro e w' ⟨rfl, rfl⟩))
  go_wp2_with fail
  go_region_held_law (fun w' => w'.cell? ⟨w.heap.size, 0, none⟩ = some (.int .i64 p) ∧ w'.cell? ⟨w.heap.size, 1, none⟩ = some (.int .i64 k)) (first | (with_reducible assumption) | exact ⟨(BX.out.of_same (HG.out.block _ HXL.out HNE.out)).cell 0 (by simp), (BX.out.of_same (HG.out.block _ HXL.out HNE.out)).cell 1 (by simp)⟩) (first
    | (go_at_call 21; refine P2.out.mono ?_; rintro e w' ⟨rfl, rfl⟩)
    | (refine step_delT rfl _ _ rfl g b n D ⟨p, k⟩ HOK.out rfl rfl H2.out ?_; intro w2 HT HG))
  all_goals
    go_wp2_with fail
    exact bodyPost_ret (v := .bool HAS) (by simp [results, Try.results11, go_sem]) rfl ⟨rfl, HT.out, (gb_belowT HA.out.drew).andThen HG.out (fun k e => by cases e; exact Or.inr rfl)⟩
end Go.Proofs.Ytlcciifoddcbdaa
