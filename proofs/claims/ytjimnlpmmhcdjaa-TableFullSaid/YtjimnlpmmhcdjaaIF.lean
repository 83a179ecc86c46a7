/- table: nil ones; TableFull's walk. -/
import Derived.Test.YtjimnlpmmhcdjaaIE
import Derived.Laws.IdiomRangeMap
namespace Go.Proofs.Ytjimnlpmmhcdjaa
open Go.RowKit Go.Maps Go.Sort
set_option linter.unusedVariables false
set_option linter.unusedSimpArgs false
set_option maxRecDepth 100000

theorem those_nil (w : World) (fv : Value) :
    Calls Try.prog 27 #[.pointer none, fv] w fun e w' => e = .returned (.slice none 0 0) ∧ Below w.heap.size w w' := by
  have hrg := run_range_nilMap (P := Try.prog) w 53 32 36 Try.underlying53
  have hnx : ∀ ty, (Instr.next (.pointer (some ⟨w.heap.size, 0, none⟩)) false ty).run Try.prog (w.alloc (.mapIter none 0 #[] 0)) = _ := fun ty => run_next_nilMap w ty 0 0 #[]
  have P := Lib.hid (tball_nil w)
  have Q := Lib.hid (fun (u : World) (g : Value) => sort_noneD none 0 g u)
  go_enter Try.func27, Try.ntmps27
  go_wp2_with (go_at_call 23; refine P.out.mono ?_; rintro e w' ⟨rfl, rfl⟩)
  refine wp_loop_rounds 1 ?_
  rw [rounds_succ]
  go_wp2_with (go_at_call 33; refine (Q.out _ _).mono ?_; rintro e w' ⟨rfl, rfl⟩)
  go_ret
  exact ⟨rfl, newB _ _⟩
theorem all_nilT (w : World) :
    Calls Try.prog 19 #[.pointer none] w fun e w' => e = .returned (.slice none 0 0) ∧ Below w.heap.size w w' := by
  go_enter Try.func19, Try.ntmps19
  go_wp2_with (go_at_call 27; refine (those_nil _ _).mono ?_; rintro e w' ⟨rfl, hb⟩)
  go_ret
  exact ⟨rfl, hb⟩
theorem run_clear_nilT (w : World) (ty : TypeId) : (Builtin.clear_ #[53] ty #[.map none]).run Try.prog w = .ok (.tuple #[]) w := by
  simp [Builtin.clear_, run_underlying Try.underlying53, Result.andThen]
theorem clear_nilT (w : World) :
    Calls Try.prog 16 #[.pointer none] w fun e w' => e = .returned (.slice none 0 0) ∧ Below w.heap.size w w' := by
  have hc := run_clear_nilT
  go_enter Try.func16, Try.ntmps16
  go_wp2_with (first | (go_at_call 19; refine (all_nilT _).mono ?_; rintro e w' ⟨rfl, hb⟩) | (go_at_call 23; refine (tball_nil _).mono ?_; rintro e w' ⟨rfl, rfl⟩))
  go_ret
  exact ⟨rfl, hb⟩
theorem expire_nilT (w : World) (now : Int) :
    Calls Try.prog 14 #[.pointer none, .int .i64 now] w fun e w' => e = .returned (.slice none 0 0) ∧ Below w.heap.size w w' := by
  have hb0 := newB w (.cells #[.int .i64 now] 3)
  have HB := Lib.hid hb0
  clear hb0
  go_enter Try.func14, Try.ntmps14
  go_wp2_with fail
  refine (those_nil _ _).mono ?_
  rintro e w1 ⟨rfl, hb⟩
  go_wp2_with fail
  refine wp_loop_rounds 1 ?_
  rw [rounds_succ]
  go_wp2_with fail
  go_ret
  exact ⟨rfl, HB.out.trans (hb.mono HB.out.size)⟩
theorem step_delNilT {ops : Array Oper} {o : Oper} {a : Act} {w : World} {K : Act → World → Prop} {Q : Exit → Act → World → Prop} {E : Prop} (hgd : o.guard = none) (m x : Operand)
    (ho : o.op = .call { callee := .builtin .delete, args := #[m, x], argTypes := #[53, 32] })
    (k : Pf) (hok : InPf k) (hm : a.eval m = .map none) (hx : a.eval x = pfV k)
    (hK : K (a.put o.dst (.tuple #[])) w) :
    if Region.wanted o (yielded ops a.tmps) = true then Oper.wp Try.prog o a w K Q else E := by
  have hw : Region.wanted o (yielded ops a.tmps) = true := by simp [Region.wanted, hgd]
  rw [if_pos hw]
  have hrun := Maps.drop_nil (w := w) pk_keyed Try.underlying53 (keyP_mk k hok) o.type
  unfold Oper.wp execOp
  simp only [ho, resolve, invoke, builtin, Sem.run_bind, Sem.run_pure, Result.andThen_ok, List.map_toArray, List.map_cons, List.map_nil, hm, hx, hrun]
  exact hK
set_option maxHeartbeats 4000000 in
theorem del_nilT (w : World) (p : Pf) (hp : InPf p) :
    Calls Try.prog 11 #[.pointer none, pfV p] w fun e w' => e = .returned (.bool false) ∧ Below w.heap.size w w' := by
  obtain ⟨xa, xn⟩ := p
  have hb0 := newB w (.cells #[.int .u32 xa, .int .i64 xn] 32)
  have hX := Blk.new w 32 [.int .u32 xa, .int .i64 xn]
  obtain ⟨P, hP⟩ : ∃ P, w.heap.size = P := ⟨_, rfl⟩
  obtain ⟨V, hV⟩ : ∃ V, w.alloc (.cells #[.int .u32 xa, .int .i64 xn] 32) = V := ⟨_, rfl⟩
  rw [hV] at hb0 hX
  rw [hP] at hX
  have HB0 := Lib.hid hb0
  have HX := Lib.hid hX
  have HPP := Lib.hid hp
  have HVE := Lib.hid hV
  have HPE := Lib.hid hP
  have HALL := Lib.hid (fun (W : World) (hW : Below V.heap.size V W) => show W.cell? ⟨P, 0, none⟩ = some (.int .u32 xa) ∧ W.cell? ⟨P, 1, none⟩ = some (.int .i64 xn) ∧ (Instr.lookup 53 (.map none) (.agg #[.int .u32 xa, .int .i64 xn]) true).run Try.prog W = .ok (.tuple #[.agg #[.int .i64 0, .int .u32 0, .int .i64 0, .int .i64 0, .int .i64 0], .bool false]) W from by
    have h1 : (Instr.lookup 53 (.map none) (pfV ⟨xa, xn⟩) true).run Try.prog W = .ok (.tuple #[dtV Dt.zero, .bool false]) W := Maps.look_nil true pk_keyed Try.underlying53 (elDtC.zrun W) (keyP_mk _ hp)
    obtain ⟨x0, x1⟩ := pf_boxes (hX.next hW)
    exact ⟨x0, x1, h1⟩)
  clear hX hb0 hV hP hp
  go_enter Try.func11, Try.ntmps11
  go_wp2_with fail
  rw [HVE.out, HPE.out]
  go_region_held_law (fun W => W.cell? ⟨P, 0, none⟩ = some (.int .u32 xa) ∧ W.cell? ⟨P, 1, none⟩ = some (.int .i64 xn) ∧ (Instr.lookup 53 (.map none) (.agg #[.int .u32 xa, .int .i64 xn]) true).run Try.prog W = .ok (.tuple #[.agg #[.int .i64 0, .int .u32 0, .int .i64 0, .int .i64 0, .int .i64 0], .bool false]) W) (first | exact HALL.out _ (Below.refl _ _).drew | exact HALL.out _ ((Below.refl _ _).drew.alloc (Nat.le_refl _) _)) (first | (go_at_call 23; refine (tball_nil _).mono ?_; rintro e w' ⟨rfl, rfl⟩))
  all_goals
    have hb3 := (newB V (.cells #[.int .i64 0, .int .u32 0, .int .i64 0, .int .i64 0, .int .i64 0] 36)).drew
    obtain ⟨V2, hV2⟩ : ∃ V2, (V.alloc (.cells #[.int .i64 0, .int .u32 0, .int .i64 0, .int .i64 0, .int .i64 0] 36)).drew = V2 := ⟨_, rfl⟩
    rw [hV2] at hb3 ⊢
    have HB3 := Lib.hid (HB0.out.trans (hb3.mono HB0.out.size)).drew
    have hS2 : V2.drew.cell? ⟨P, 0, none⟩ = some (.int .u32 xa) ∧ V2.drew.cell? ⟨P, 1, none⟩ = some (.int .i64 xn) := by
      obtain ⟨x0, x1⟩ := pf_boxes ((HX.out.next hb3).next (Below.refl _ _).drew)
      exact ⟨x0, x1⟩
    clear hV2 hb3 HALL
    go_wp2_with fail
    go_region_held_law (fun W => W.cell? ⟨P, 0, none⟩ = some (.int .u32 xa) ∧ W.cell? ⟨P, 1, none⟩ = some (.int .i64 xn)) (with_reducible assumption) (first | (go_at_call 23; refine (tball_nil _).mono ?_; rintro e w' ⟨rfl, rfl⟩) | (refine step_delNilT rfl _ _ rfl ⟨xa, xn⟩ HPP.out rfl rfl ?_))
    all_goals
      go_wp2_with fail
      go_ret
      exact ⟨rfl, HB3.out⟩
/-- So many prefixes. -/
def nth (i : Nat) : Dt := ⟨0, ⟨(i : Int) * 65536, 16⟩, 0, 0⟩
def upto (n : Nat) : List Dt := (List.range n).map nth
theorem upto_snoc (n : Nat) : upto (n + 1) = upto n ++ [nth n] := by unfold upto; rw [List.range_succ, List.map_append]; rfl
theorem upto_mem {n : Nat} {x : Dt} (h : x ∈ upto n) : ∃ i, i < n ∧ x = nth i := by
  unfold upto at h
  obtain ⟨i, hi, rfl⟩ := List.mem_map.1 h
  exact ⟨i, List.mem_range.1 hi, rfl⟩
theorem upto_len (n : Nat) : (upto n).length = n := by unfold upto; simp
theorem cl_16 : decide ((16 : Int) = cl 16) = true := by decide
theorem nth_ok (i : Nat) (hi : i < 65536) : okP (nth i).p.a (nth i).p.n = true := by
  have e := mk_div (i * 65536) 16 (by omega) (by omega)
  have e2 : ((i : Int) * 65536) = ((i * 65536 : Nat) : Int) := by omega
  have e3 : i * 65536 / 2 ^ (32 - 16) * 2 ^ (32 - 16) = i * 65536 := by omega
  rw [e3] at e
  unfold okP nth
  dsimp only
  rw [e2, show ((16 : Int)) = ((16 : Nat) : Int) from rfl, e, Bool.and_eq_true]
  exact ⟨by simp, cl_16⟩
theorem nth_in (i : Nat) (hi : i < 65536) : InDt (nth i) := ten_in _ (by show 0 ≤ (i : Int) * 65536; omega) (by show (i : Int) * 65536 < 4294967296; omega)
theorem look_upto {n i : Nat} (h : n ≤ i) : lookD (upto n) (nth i).p = none := lookD_none.2 fun x hx e => by
  obtain ⟨j, hj, rfl⟩ := upto_mem hx
  have : (j : Int) * 65536 = (i : Int) * 65536 := congrArg Pf.a e
  omega
theorem setD_upto (n : Nat) : setD (nth n) (upto n) = upto (n + 1) := by
  unfold setD
  rw [List.filter_eq_self.2 (fun x hx => by
    obtain ⟨j, hj, rfl⟩ := upto_mem hx
    exact decide_eq_true (Or.inl (show (j : Int) * 65536 < (n : Int) * 65536 by omega))), List.filter_eq_nil_iff.2 (fun x hx => by
    obtain ⟨j, hj, rfl⟩ := upto_mem hx
    simp only [decide_eq_true_eq]
    intro h
    have h : (n : Int) * 65536 < (j : Int) * 65536 ∨ (n : Int) * 65536 = (j : Int) * 65536 ∧ _ := h
    omega), upto_snoc]
theorem setR_upto (k : Nat) (hk : k ≤ 4200) : setR (nth k) (upto (min k 4096)) = (if 4096 ≤ k then 2 else 0, upto (min (k + 1) 4096)) := by
  unfold setR
  rw [if_neg (by rw [nth_ok k (by omega)]; simp), look_upto (Nat.min_le_left _ _), upto_len]
  by_cases h : 4096 ≤ k
  · rw [if_pos ⟨rfl, by omega⟩, if_pos h, show min (k + 1) 4096 = min k 4096 by omega]
  · rw [if_neg (by rintro ⟨_, h2⟩; omega), if_neg h, show min k 4096 = k by omega, show min (k + 1) 4096 = k + 1 by omega, setD_upto]
end Go.Proofs.Ytjimnlpmmhcdjaa
