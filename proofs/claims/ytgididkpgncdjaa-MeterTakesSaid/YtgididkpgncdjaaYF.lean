/- MeterTakes: its arguments. -/
import Derived.Test.YtgididkpgncdjaaYE
namespace Go.Proofs.Ytgididkpgncdjaa
open Go.ChangeShapes Go.WideShapes Go.ChangeAt Go.RowKit Go.Joins Go.Deep Go.Maps
set_option linter.unusedVariables false
set_option linter.unusedSimpArgs false

theorem pf_cells : Try.prog.cellsOf 25 = 2 := by kernel_rfl
theorem pf_flds : (Try.prog.fieldsOf 25).toList.map (fun f => (f.type, f.offset, f.name != "_")) = [(23, 0, true), (3, 1, true)] := by kernel_rfl
theorem pf_und : Try.prog.underlying 25 = some (.struct (Try.prog.fieldsOf 25)) := by kernel_rfl
set_option maxRecDepth 100000 in
theorem pf_trod {H : Type} {enc : TypeId × Value → H} {w : World} {base : Nat} {spare : Nat → Bool} {held : Bool} {fuel : Nat} {c0 c1 : Value} {x : DataW H × List MemPlace}
    (h : DataW.trod enc Try.prog w base spare held fuel 25 [c0, c1] = some x) : ∃ a n : Int, c0 = .int .u32 a ∧ c1 = .int .i64 n ∧ (Lit.int .u32 a).wf = true ∧ (Lit.int .i64 n).wf = true := by
  have hu2 := pf_und
  have hf2 := pf_flds
  obtain ⟨k0, k1, hkk⟩ := array2 (cs := Try.prog.fieldsOf 25) (by simpa using congrArg List.length hf2)
  rw [hkk] at hf2 hu2
  simp only [List.map_cons, List.map_nil, List.cons.injEq, Prod.mk.injEq, and_true] at hf2
  obtain ⟨⟨t2, o2, _⟩, t3, o3, _⟩ := hf2
  obtain ⟨z0, z1, n2, _, _, r0, r1⟩ := trod_struct2 hu2 h
  rw [t2, o2, u32_cells] at r0
  rw [t3, o3, int_cells] at r1
  simp only [List.drop_zero, List.drop_succ_cons, List.take_succ_cons, List.take_zero] at r0 r1
  obtain ⟨a, e1, _, w1⟩ := DataW.trod_int Try.underlying23 r0
  obtain ⟨m, e2, _, w2⟩ := DataW.trod_int Try.underlying3 r1
  simp only [List.cons.injEq, and_true] at e1 e2
  exact ⟨a, m, e1, e2, w1, w2⟩
set_option maxRecDepth 100000 in
theorem open_pfx {H : Type} {enc : TypeId × Value → H} {w : World} {base b0 : Nat} {spare : Nat → Bool} {held : Bool} {r : Reach} {v : Value} {d : DataW H} {p : List MemPlace} (hv : Value.okWide Try.prog w r b0 25 v) (h : DataW.Trod enc Try.prog w base spare held 25 v d p) :
    ∃ a n : Int, v = .agg #[.int .u32 a, .int .i64 n] ∧ (Lit.int .u32 a).wf = true ∧ (Lit.int .i64 n).wf = true := by
  obtain ⟨cs, rfl, hsz⟩ := okWide_struct pf_und hv
  obtain ⟨c0, c1, rfl⟩ := array2 (cs := cs) (by rw [hsz, pf_cells])
  obtain ⟨fuel, hf⟩ := h
  obtain ⟨a, n, rfl, rfl, w1, w2⟩ := pf_trod (show DataW.trod enc Try.prog w base spare held fuel 25 [c0, c1] = some (d, p) from hf)
  exact ⟨a, n, rfl, w1, w2⟩
theorem takes_arg (w : World) (y : Option Addr × List Qt × Nat) (hy : QtsArg w y) (a n : Int) (wa : (Lit.int .u32 a).wf = true) (wn : (Lit.int .i64 n).wf = true) :
    Calls Try.prog 3 #[.slice y.1 y.2.1.length y.2.2, .agg #[.int .u32 a, .int .i64 n]] w fun e w' => e = .returned (.bool true) ∧ Below w.heap.size w w' :=
  takes_walk w y.1 y.2.1 _ _ hy.at_ hy.ok rfl (Nat.le_trans hy.le hy.max) ⟨a, n⟩ ⟨wa, wn⟩
end Go.Proofs.Ytgididkpgncdjaa
