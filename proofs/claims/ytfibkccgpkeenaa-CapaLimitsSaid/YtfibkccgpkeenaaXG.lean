/- CapaLimits, as its frame takes it. -/
import Derived.Test.YtfibkccgpkeenaaXF
import Derived.Test.YtfibkccgpkeenaaWG
namespace Go.Proofs.Ytfibkccgpkeenaa
open Go.ChangeShapes Go.WideShapes Go.ChangeAt Go.RowKit Go.Joins Go.Deep
set_option linter.unusedVariables false
set_option linter.unusedSimpArgs false
set_option maxRecDepth 100000 in
theorem open_if {H : Type} {enc : TypeId × Value → H} {w : World} {base b0 : Nat} {spare : Nat → Bool} {held : Bool} {r : Reach} {v : Value} {d : DataW H} {p : List MemPlace} (hv : Value.okWide Try.prog w r b0 34 v) (h : DataW.Trod enc Try.prog w base spare held 34 v d p) :
    ∃ x : Ifc, v = .agg #[.int .i64 x.id, .int .i64 x.r, .int .u32 x.a, .int .i64 x.n, .int .i64 x.c] ∧ WfIf x := by
  obtain ⟨cs, rfl, hsz⟩ := okWide_struct ifa_und hv
  rw [ifa_cells] at hsz
  obtain ⟨c0, c1, c2, c3, c4, rfl⟩ : ∃ c0 c1 c2 c3 c4, cs = #[c0, c1, c2, c3, c4] := by
    obtain ⟨l⟩ := cs
    match l, hsz with
    | [c0, c1, c2, c3, c4], _ => exact ⟨c0, c1, c2, c3, c4, rfl⟩
  obtain ⟨fuel, hf⟩ := h
  obtain ⟨x, hx, rfl, rfl, rfl, rfl, rfl⟩ := ifa_trod (show DataW.trod enc Try.prog w base spare held fuel 34 [c0, c1, c2, c3, c4] = some (d, p) from hf)
  exact ⟨x, rfl, hx⟩
theorem limits_arg (w : World) (x : Ifc) (hx : WfIf x) (a : Int) (_ : (Lit.int .i64 a).wf = true) (b : Int) (_ : (Lit.int .i64 b).wf = true) (d : Bool) :
    Calls Try.prog 6 #[.agg #[.int .i64 x.id, .int .i64 x.r, .int .u32 x.a, .int .i64 x.n, .int .i64 x.c], .int .i64 a, .int .i64 b, .bool d] w fun e w' => e = .returned (.bool true) ∧ Below w.heap.size w w' :=
  limits_walk w x.id x.r x.a x.n x.c hx.in_ a b d
end Go.Proofs.Ytfibkccgpkeenaa
