/- HopShorter, as its frame takes it. -/
import Derived.Test.YtbblcieafmpfgaaWJ
import Derived.SizedLaws
namespace Go.Proofs.Ytbblcieafmpfgaa
open Go.ChangeShapes Go.WideShapes Go.ChangeAt Go.RowKit Go.Joins Go.Deep
set_option linter.unusedVariables false
set_option linter.unusedSimpArgs false

theorem ifa_bytes : Try.prog.bytesOf 34 = 40 := by kernel_rfl
/-- A list that comes in is no longer than memory bears. -/
theorem ifs_sized {H : Type} {enc : TypeId × Value → H} {w : World} {base : Nat} {spare : Nat → Bool} {held : Bool} {q : Option Addr} {n c : Nat} {d : DataW H} {p : List MemPlace} (h : DataW.Trod enc Try.prog w base spare held 22 (.slice q n c) d p)
    (hs : ∀ el sp, d = .slice el sp → (el.length + sp.length) * Try.prog.bytesOf 34 ≤ reachBytes) : n ≤ 3518437208780 := by
  obtain ⟨fuel, hf⟩ := h
  rcases open_slice Try.underlying22 hf with ⟨hcs, _⟩ | ⟨a, l, c, m, k, D, Pl, hcs, _, hl, hm, hmm, hx, _⟩
  · simp [Value.cells] at hcs
    omega
  · simp [Value.cells] at hcs
    obtain ⟨rfl, rfl, rfl⟩ := hcs
    have h1 := hs _ _ (congrArg Prod.fst hx)
    rw [ifa_bytes] at h1
    simp only [List.length_map, List.length_range] at h1
    unfold reachBytes at h1
    omega
theorem hshorter_arg (w : World) (x : Option Addr × List Ifc × Nat) (hx : IfsArg w x) (hs : x.2.1.length ≤ 3518437208780) (id : Int) (hid : (Lit.int .i64 id).wf = true) (r : Int) (_ : (Lit.int .i64 r).wf = true) (a : Int) (a0 : 0 ≤ a) (a1 : a ≤ 4294967295) :
    Calls Try.prog 5 #[.slice x.1 x.2.1.length x.2.2, .int .i64 id, .int .i64 r, .int .u32 a] w fun e w' => e = .returned (.bool true) ∧ Below w.heap.size w w' :=
  hshorter_walk w x.1 x.2.1 _ _ hx.at_ rfl hs id hid r a a0 (by omega)
end Go.Proofs.Ytbblcieafmpfgaa
