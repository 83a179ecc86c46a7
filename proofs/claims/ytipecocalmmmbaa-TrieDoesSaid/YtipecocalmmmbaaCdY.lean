/- What the frames of trie's laws have in common: prefixes, and lists of them, that come as arguments. -/
import Derived.Test.YtipecocalmmmbaaTP
import Derived.ProofKit
import Derived.OpenShut
import Derived.ShutString
import Derived.ChangeOld
import Derived.Deep.DeepHandedRow
import Derived.Lib.SmallJoins
import Derived.Below
import Derived.Deep.Slices
import Derived.Deep.Fields
namespace Go.Proofs.Ytipecocalmmmbaa
open Go.ChangeShapes Go.WideShapes Go.ChangeAt Go.RowKit Go.Joins Go.Deep
set_option linter.unusedVariables false
set_option linter.unusedSimpArgs false

theorem ownKnobs : ownKnob Try.prog.godebug = none := by kernel_rfl
theorem laidOut : laidOutB Try.prog = true := by kernel_rfl
theorem pf_cells : Try.prog.cellsOf 32 = 2 := by kernel_rfl
theorem pf_flds : (Try.prog.fieldsOf 32).toList.map (fun f => (f.type, f.offset, f.name != "_")) = [(23, 0, true), (3, 1, true)] := by kernel_rfl
theorem pf_und : Try.prog.underlying 32 = some (.struct (Try.prog.fieldsOf 32)) := by kernel_rfl
theorem int_cells : Try.prog.cellsOf 3 = 1 := by kernel_rfl
theorem u32_cells : Try.prog.cellsOf 23 = 1 := by kernel_rfl
theorem u32_range {a : Int} (h : (Lit.int .u32 a).wf = true) : 0 ≤ a ∧ a ≤ 4294967295 := by
  have h : IntKind.u32.min ≤ a ∧ a ≤ IntKind.u32.max := by simpa [Lit.wf] using h
  rw [show IntKind.u32.min = 0 from rfl, show IntKind.u32.max = 4294967295 from rfl] at h
  omega
set_option maxRecDepth 100000 in
theorem pf_trod {H : Type} {enc : TypeId × Value → H} {w : World} {base : Nat} {spare : Nat → Bool} {held : Bool} {fuel : Nat} {c0 c1 : Value} {x : DataW H × List MemPlace}
    (h : DataW.trod enc Try.prog w base spare held fuel 32 [c0, c1] = some x) : ∃ a n : Int, c0 = .int .u32 a ∧ c1 = .int .i64 n ∧ (Lit.int .u32 a).wf = true ∧ (Lit.int .i64 n).wf = true := by
  have hu2 := pf_und
  have hf2 := pf_flds
  obtain ⟨k0, k1, hkk⟩ := array2 (cs := Try.prog.fieldsOf 32) (by simpa using congrArg List.length hf2)
  rw [hkk] at hf2 hu2
  simp only [List.map_cons, List.map_nil, List.cons.injEq, Prod.mk.injEq, and_true] at hf2
  obtain ⟨⟨t2, o2, _⟩, t3, o3, _⟩ := hf2
  obtain ⟨z0, z1, n2, _, _, r0, r1⟩ := trod_struct2 hu2 h
  rw [t2, o2, u32_cells] at r0
  rw [t3, o3, int_cells] at r1
  simp only [List.drop_zero, List.drop_succ_cons, List.take_succ_cons, List.take_zero] at r0 r1
  obtain ⟨a, e1, _, w1⟩ := DataW.trod_int Try.underlying23 r0
  obtain ⟨m, e2, _, w2⟩ := DataW.trod_int Try.underlying3 r1
  simp only [List.cons.injEq, and_true] at e1 e2
  exact ⟨a, m, e1, e2, w1, w2⟩
set_option maxRecDepth 100000 in
theorem open_pfx {H : Type} {enc : TypeId × Value → H} {w : World} {base b0 : Nat} {spare : Nat → Bool} {held : Bool} {r : Reach} {v : Value} {d : DataW H} {p : List MemPlace} (hv : Value.okWide Try.prog w r b0 32 v) (h : DataW.Trod enc Try.prog w base spare held 32 v d p) :
    ∃ a n : Int, v = .agg #[.int .u32 a, .int .i64 n] ∧ (Lit.int .u32 a).wf = true ∧ (Lit.int .i64 n).wf = true := by
  obtain ⟨cs, rfl, hsz⟩ := okWide_struct pf_und hv
  obtain ⟨c0, c1, rfl⟩ := array2 (cs := cs) (by rw [hsz, pf_cells])
  obtain ⟨fuel, hf⟩ := h
  obtain ⟨a, n, rfl, rfl, w1, w2⟩ := pf_trod (show DataW.trod enc Try.prog w base spare held fuel 32 [c0, c1] = some (d, p) from hf)
  exact ⟨a, n, rfl, w1, w2⟩
theorem choose_list {α : Type} (P : Nat → α → Prop) : ∀ (n : Nat), (∀ i, i < n → ∃ m, P i m) → ∃ ms : List α, ms.length = n ∧ ∀ (i : Nat) (m : α), ms[i]? = some m → P i m
  | 0, _ => ⟨[], rfl, fun i m h => by simp at h⟩
  | n + 1, h => by
    obtain ⟨ms, hl, hp⟩ := choose_list P n (fun i hi => h i (by omega))
    obtain ⟨m, hm⟩ := h n (by omega)
    refine ⟨ms ++ [m], by simp [hl], fun i x hx => ?_⟩
    rcases Nat.lt_or_ge i n with hi | hi
    · rw [List.getElem?_append_left (by omega)] at hx
      exact hp i x hx
    · rw [List.getElem?_append_right (by omega), hl] at hx
      have : i = n := by
        have := (List.getElem?_eq_some_iff.1 hx).1
        simp at this; omega
      subst this
      simp at hx
      exact hx ▸ hm
theorem add_litP (b off j : Nat) : (⟨b, off, none⟩ : Addr).add j = ⟨b, off + j, none⟩ := by unfold Addr.add; split <;> simp_all
/-- A list of them, as it comes. -/
structure PfsArg (w : World) (x : Option Addr × List (Int × Int) × Nat) : Prop where
  at_ : PAt w x.1 x.2.1
  ok : ∀ m ∈ x.2.1, 0 ≤ m.1 ∧ m.1 ≤ 4294967295
set_option maxRecDepth 100000 in
theorem open_pfs {H : Type} {enc : TypeId × Value → H} {w : World} {base b0 : Nat} {spare : Nat → Bool} {held : Bool} {r : Reach} {v : Value} {d : DataW H} {p : List MemPlace} (hv : Value.okWide Try.prog w r b0 41 v) (h : DataW.Trod enc Try.prog w base spare held 41 v d p) :
    ∃ x : Option Addr × List (Int × Int) × Nat, v = .slice x.1 x.2.1.length x.2.2 ∧ PfsArg w x := by
  obtain ⟨a0, len0, cap0, rfl⟩ := okWide_slice Try.underlying41 hv
  obtain ⟨fuel, hf⟩ := h
  rcases open_slice Try.underlying41 hf with ⟨hcs, _⟩ | ⟨a, l, c, m, n, D, Pl, hcs, _, hl, hm, hmm, _, hi⟩
  · simp [Value.cells] at hcs
    obtain ⟨rfl, rfl, rfl⟩ := hcs
    exact ⟨(none, [], 0), rfl, .inl rfl, fun m h => by simp at h⟩
  · simp [Value.cells] at hcs
    obtain ⟨rfl, rfl, rfl⟩ := hcs
    have hlm : len0 ≤ m := by rw [hmm]; split <;> omega
    obtain ⟨ms, hml, hmp⟩ := choose_list (fun i (x : Int × Int) => (0 ≤ x.1 ∧ x.1 ≤ 4294967295) ∧ w.cell? ((a.add (i * 2)).add 0) = some (.int .u32 x.1) ∧ w.cell? ((a.add (i * 2)).add 1) = some (.int .i64 x.2)) len0 (fun i hil => by
      obtain ⟨cs', hc', ht'⟩ := hi i (by omega)
      rw [pf_cells] at hc'
      obtain ⟨_, hlen, hat⟩ := World.cells?_some hc'
      obtain ⟨c0, c1, rfl⟩ : ∃ c0 c1, cs' = [c0, c1] := by
        match cs', hlen with
        | [c0, c1], _ => exact ⟨c0, c1, rfl⟩
      obtain ⟨x, n, rfl, rfl, w1, _⟩ := pf_trod ht'
      exact ⟨(x, n), u32_range w1, hat 0 (by omega), hat 1 (by omega)⟩)
    have hokm : ∀ x ∈ ms, 0 ≤ x.1 ∧ x.1 ≤ 4294967295 := fun x hx => by
      obtain ⟨i, hi', he⟩ := List.getElem_of_mem hx
      exact (hmp i x (by rw [List.getElem?_eq_getElem hi', he])).1
    refine ⟨(some a, ms, cap0), by rw [hml], ?_, hokm⟩
    rcases ms with _ | ⟨m0, t⟩
    · exact .inl rfl
    · right
      obtain ⟨b, off, spot⟩ := a
      have h0 := (hmp 0 m0 rfl).2.1
      have hspot : spot = none := by
        have := World.cell?_spot h0
        simpa [Addr.add] using this
      subst hspot
      refine ⟨b, off, rfl, fun i x hx => ?_⟩
      have hx := hmp i x hx
      rw [add_litP, add_litP, add_litP] at hx
      exact hx.2
end Go.Proofs.Ytipecocalmmmbaa
