/- What the frames of hop's laws have in common: interfaces that come as arguments. -/
import Derived.Test.YtlkpalaakncicaaW6
import Derived.ProofKit
import Derived.OpenShut
import Derived.ShutString
import Derived.ChangeOld
import Derived.Deep.DeepHandedRow
import Derived.Lib.SmallJoins
import Derived.Below
import Derived.Deep.Slices
import Derived.Deep.Fields
namespace Go.Proofs.Ytlkpalaakncicaa
open Go.ChangeShapes Go.WideShapes Go.ChangeAt Go.RowKit Go.Joins Go.Deep
set_option linter.unusedVariables false
set_option linter.unusedSimpArgs false

theorem ownKnobs : ownKnob Try.prog.godebug = none := by kernel_rfl
theorem laidOut : laidOutB Try.prog = true := by kernel_rfl
theorem ifa_cells : Try.prog.cellsOf 34 = 5 := by kernel_rfl
theorem pfa_cells : Try.prog.cellsOf 32 = 2 := by kernel_rfl
theorem ifa_flds : (Try.prog.fieldsOf 34).toList.map (fun f => (f.type, f.offset, f.name != "_")) = [(3, 0, true), (3, 1, true), (32, 2, true), (3, 4, true)] := by kernel_rfl
theorem pfa_flds : (Try.prog.fieldsOf 32).toList.map (fun f => (f.type, f.offset, f.name != "_")) = [(23, 0, true), (3, 1, true)] := by kernel_rfl
theorem ifa_und : Try.prog.underlying 34 = some (.struct (Try.prog.fieldsOf 34)) := by kernel_rfl
theorem pfa_und : Try.prog.underlying 32 = some (.struct (Try.prog.fieldsOf 32)) := by kernel_rfl
theorem inta_cells : Try.prog.cellsOf 3 = 1 := by kernel_rfl
theorem u32a_cells : Try.prog.cellsOf 23 = 1 := by kernel_rfl
theorem u32_range {a : Int} (h : (Lit.int .u32 a).wf = true) : 0 ≤ a ∧ a ≤ 4294967295 := by
  have h : IntKind.u32.min ≤ a ∧ a ≤ IntKind.u32.max := by simpa [Lit.wf] using h
  rw [show IntKind.u32.min = 0 from rfl, show IntKind.u32.max = 4294967295 from rfl] at h
  omega
/-- Numbers that an interface has, as it comes. -/
structure WfIf (x : Ifc) : Prop where
  id : (Lit.int .i64 x.id).wf = true
  r : (Lit.int .i64 x.r).wf = true
  a : (Lit.int .u32 x.a).wf = true
  n : (Lit.int .i64 x.n).wf = true
  c : (Lit.int .i64 x.c).wf = true
theorem WfIf.in_ {x : Ifc} (h : WfIf x) : InIf x := ⟨h.id, (u32_range h.a).1, by have := (u32_range h.a).2; omega⟩
theorem array4 {α : Type} {cs : Array α} (h : cs.size = 4) : ∃ a b c d, cs = #[a, b, c, d] := by
  obtain ⟨l⟩ := cs
  match l, h with
  | [a, b, c, d], _ => exact ⟨a, b, c, d, rfl⟩
set_option maxRecDepth 100000 in
theorem ifa_trod {H : Type} {enc : TypeId × Value → H} {w : World} {base : Nat} {spare : Nat → Bool} {held : Bool} {fuel : Nat} {c0 c1 c2 c3 c4 : Value} {x : DataW H × List MemPlace}
    (h : DataW.trod enc Try.prog w base spare held fuel 34 [c0, c1, c2, c3, c4] = some x) : ∃ m : Ifc, WfIf m ∧ c0 = .int .i64 m.id ∧ c1 = .int .i64 m.r ∧ c2 = .int .u32 m.a ∧ c3 = .int .i64 m.n ∧ c4 = .int .i64 m.c := by
  have hu := ifa_und
  have hf := ifa_flds
  obtain ⟨f0, f1, f2, f3, hff⟩ := array4 (cs := Try.prog.fieldsOf 34) (by simpa using congrArg List.length hf)
  rw [hff] at hf hu
  simp only [List.map_cons, List.map_nil, List.cons.injEq, Prod.mk.injEq, and_true] at hf
  obtain ⟨⟨t0, o0, _⟩, ⟨t1, o1, _⟩, ⟨t2, o2, _⟩, t3, o3, _⟩ := hf
  obtain ⟨y0, y1, y2, y3, n, _, _, g0, g1, g2, g3⟩ := Go.Joins.trod_struct4 hu h
  rw [t0, o0, inta_cells] at g0
  rw [t1, o1, inta_cells] at g1
  rw [t2, o2, pfa_cells] at g2
  rw [t3, o3, inta_cells] at g3
  simp only [List.drop_zero, List.drop_succ_cons, List.take_succ_cons, List.take_zero] at g0 g1 g2 g3
  have hu2 := pfa_und
  have hf2 := pfa_flds
  obtain ⟨k0, k1, hkk⟩ := array2 (cs := Try.prog.fieldsOf 32) (by simpa using congrArg List.length hf2)
  rw [hkk] at hf2 hu2
  simp only [List.map_cons, List.map_nil, List.cons.injEq, Prod.mk.injEq, and_true] at hf2
  obtain ⟨⟨t4, o4, _⟩, t5, o5, _⟩ := hf2
  obtain ⟨z0, z1, n2, _, _, r0, r1⟩ := trod_struct2 hu2 g2
  rw [t4, o4, u32a_cells] at r0
  rw [t5, o5, inta_cells] at r1
  simp only [List.drop_zero, List.drop_succ_cons, List.take_succ_cons, List.take_zero] at r0 r1
  obtain ⟨i, e0, _, w0⟩ := DataW.trod_int Try.underlying3 g0
  obtain ⟨ro, e1, _, w1⟩ := DataW.trod_int Try.underlying3 g1
  obtain ⟨a, e2, _, w2⟩ := DataW.trod_int Try.underlying23 r0
  obtain ⟨m, e3, _, w3⟩ := DataW.trod_int Try.underlying3 r1
  obtain ⟨c, e4, _, w4⟩ := DataW.trod_int Try.underlying3 g3
  simp only [List.cons.injEq, and_true] at e0 e1 e2 e3 e4
  exact ⟨⟨i, ro, a, m, c⟩, ⟨w0, w1, w2, w3, w4⟩, e0, e1, e2, e3, e4⟩
theorem choose_listI {α : Type} (P : Nat → α → Prop) : ∀ (n : Nat), (∀ i, i < n → ∃ m, P i m) → ∃ ms : List α, ms.length = n ∧ ∀ (i : Nat) (m : α), ms[i]? = some m → P i m
  | 0, _ => ⟨[], rfl, fun i m h => by simp at h⟩
  | n + 1, h => by
    obtain ⟨ms, hl, hp⟩ := choose_listI P n (fun i hi => h i (by omega))
    obtain ⟨m, hm⟩ := h n (by omega)
    refine ⟨ms ++ [m], by simp [hl], fun i x hx => ?_⟩
    rcases Nat.lt_or_ge i n with hi | hi
    · rw [List.getElem?_append_left (by omega)] at hx
      exact hp i x hx
    · rw [List.getElem?_append_right (by omega), hl] at hx
      have : i = n := by
        have := (List.getElem?_eq_some_iff.1 hx).1
        simp at this; omega
      subst this
      simp at hx
      exact hx ▸ hm
theorem add_litI (b off j : Nat) : (⟨b, off, none⟩ : Addr).add j = ⟨b, off + j, none⟩ := by unfold Addr.add; split <;> simp_all
/-- A list of them, as it comes. -/
structure IfsArg (w : World) (x : Option Addr × List Ifc × Nat) : Prop where
  at_ : IfsAt w x.1 x.2.1
  ok : ∀ m ∈ x.2.1, WfIf m
  le : x.2.1.length ≤ x.2.2
  max : x.2.2 ≤ maxLen
set_option maxRecDepth 100000 in
theorem open_ifs {H : Type} {enc : TypeId × Value → H} {w : World} {base b0 : Nat} {spare : Nat → Bool} {held : Bool} {r : Reach} {v : Value} {d : DataW H} {p : List MemPlace} (hv : Value.okWide Try.prog w r b0 22 v) (h : DataW.Trod enc Try.prog w base spare held 22 v d p) :
    ∃ x : Option Addr × List Ifc × Nat, v = .slice x.1 x.2.1.length x.2.2 ∧ IfsArg w x := by
  obtain ⟨a0, len0, cap0, rfl⟩ := okWide_slice Try.underlying22 hv
  obtain ⟨fuel, hf⟩ := h
  rcases open_slice Try.underlying22 hf with ⟨hcs, _⟩ | ⟨a, l, c, m, n, D, Pl, hcs, _, hl, hm, hmm, _, hi⟩
  · simp [Value.cells] at hcs
    obtain ⟨rfl, rfl, rfl⟩ := hcs
    exact ⟨(none, [], 0), rfl, IfsAt.nil _ _, fun m h => by simp at h, Nat.le_refl _, Nat.zero_le _⟩
  · simp [Value.cells] at hcs
    obtain ⟨rfl, rfl, rfl⟩ := hcs
    have hlm : len0 ≤ m := by rw [hmm]; split <;> omega
    obtain ⟨ms, hml, hmp⟩ := choose_listI (fun i (x : Ifc) => WfIf x ∧ w.cell? ((a.add (i * 5)).add 0) = some (.int .i64 x.id) ∧ w.cell? ((a.add (i * 5)).add 1) = some (.int .i64 x.r) ∧ w.cell? ((a.add (i * 5)).add 2) = some (.int .u32 x.a) ∧ w.cell? ((a.add (i * 5)).add 3) = some (.int .i64 x.n) ∧ w.cell? ((a.add (i * 5)).add 4) = some (.int .i64 x.c)) len0 (fun i hil => by
      obtain ⟨cs', hc', ht'⟩ := hi i (by omega)
      rw [ifa_cells] at hc'
      obtain ⟨_, hlen, hat⟩ := World.cells?_some hc'
      obtain ⟨c0, c1, c2, c3, c4, rfl⟩ : ∃ c0 c1 c2 c3 c4, cs' = [c0, c1, c2, c3, c4] := by
        match cs', hlen with
        | [c0, c1, c2, c3, c4], _ => exact ⟨c0, c1, c2, c3, c4, rfl⟩
      obtain ⟨x, hx, rfl, rfl, rfl, rfl, rfl⟩ := ifa_trod ht'
      exact ⟨x, hx, hat 0 (by omega), hat 1 (by omega), hat 2 (by omega), hat 3 (by omega), hat 4 (by omega)⟩)
    have hokm : ∀ x ∈ ms, WfIf x := fun x hx => by
      obtain ⟨i, hi', he⟩ := List.getElem_of_mem hx
      exact (hmp i x (by rw [List.getElem?_eq_getElem hi', he])).1
    refine ⟨(some a, ms, cap0), by rw [hml], ⟨⟨fun x hx => (hokm x hx).in_, ?_⟩, hokm, by simpa [hml] using hl, hm⟩⟩
    rcases ms with _ | ⟨m0, t⟩
    · exact .inl rfl
    · right
      obtain ⟨b, off, spot⟩ := a
      have h0 := (hmp 0 m0 rfl).2.1
      have hspot : spot = none := by
        have := World.cell?_spot h0
        simpa [Addr.add] using this
      subst hspot
      refine ⟨b, off, rfl, fun i hi' => ?_⟩
      have hx := hmp i ((m0 :: t).getD i Ifc.zero) (by simp only [List.getD]; rw [List.getElem?_eq_getElem hi']; rfl)
      simp only [add_litI, Nat.add_assoc, Nat.add_zero] at hx
      exact hx.2
end Go.Proofs.Ytlkpalaakncicaa
