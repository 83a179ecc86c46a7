/- What the frames of meter's laws have in common: reports that come as arguments. -/
import Derived.Test.YtgididkpgncdjaaZN
import Derived.ProofKit
import Derived.OpenShut
import Derived.ShutString
import Derived.ChangeOld
import Derived.Deep.DeepHandedRow
import Derived.Lib.SmallJoins
import Derived.Below
import Derived.Deep.Slices
import Derived.Deep.Fields
import Derived.Deep.Strs
namespace Go.Proofs.Ytgididkpgncdjaa
open Go.ChangeShapes Go.WideShapes Go.ChangeAt Go.RowKit Go.Joins Go.Deep
set_option linter.unusedVariables false
set_option linter.unusedSimpArgs false
set_option maxRecDepth 100000

set_option linter.unusedVariables false
set_option linter.unusedSimpArgs false
theorem ownKnobs : ownKnob Try.prog.godebug = none := by kernel_rfl
theorem laidOut : laidOutB Try.prog = true := by kernel_rfl
theorem inta_cells : Try.prog.cellsOf 3 = 1 := by kernel_rfl
theorem u32a_cells : Try.prog.cellsOf 23 = 1 := by kernel_rfl
theorem u32_range {a : Int} (h : (Lit.int .u32 a).wf = true) : 0 ≤ a ∧ a ≤ 4294967295 := by
  have h : IntKind.u32.min ≤ a ∧ a ≤ IntKind.u32.max := by simpa [Lit.wf] using h
  rw [show IntKind.u32.min = 0 from rfl, show IntKind.u32.max = 4294967295 from rfl] at h
  omega
theorem choose_listI {α : Type} (P : Nat → α → Prop) : ∀ (n : Nat), (∀ i, i < n → ∃ m, P i m) → ∃ ms : List α, ms.length = n ∧ ∀ (i : Nat) (m : α), ms[i]? = some m → P i m
  | 0, _ => ⟨[], rfl, fun i m h => by simp at h⟩
  | n + 1, h => by
    obtain ⟨ms, hl, hp⟩ := choose_listI P n (fun i hi => h i (by omega))
    obtain ⟨m, hm⟩ := h n (by omega)
    refine ⟨ms ++ [m], by simp [hl], fun i x hx => ?_⟩
    rcases Nat.lt_or_ge i n with hi | hi
    · rw [List.getElem?_append_left (by omega)] at hx
      exact hp i x hx
    · rw [List.getElem?_append_right (by omega), hl] at hx
      have : i = n := by
        have := (List.getElem?_eq_some_iff.1 hx).1
        simp at this; omega
      subst this
      simp at hx
      exact hx ▸ hm
set_option linter.unusedVariables false
set_option linter.unusedSimpArgs false
set_option maxRecDepth 100000
theorem add_addL (b off i j : Nat) : ((⟨b, off, none⟩ : Addr).add i).add j = ⟨b, off + i + j, none⟩ := by rw [add_litL, add_litL]
/-- A list of any kind of elements, as it comes. -/
theorem open_listL {st et : TypeId} {α : Type} {c : α → List Value} {ok : α → Prop} {zero : α} {zv : Value} {sz by_ : Nat} (C : RowC st et c ok zero zv sz by_) (hcells : Try.prog.cellsOf et = sz) {okA : α → Prop} (hok : ∀ m, okA m → ok m)
    {H : Type} {enc : TypeId × Value → H} {w : World} {base : Nat} {spare : Nat → Bool} {held : Bool}
    (hrd : ∀ (fuel : Nat) (cs : List Value) (y : DataW H × List MemPlace), cs.length = sz → DataW.trod enc Try.prog w base spare held fuel et cs = some y → ∃ m, okA m ∧ cs = c m)
    {fuel : Nat} {v : Value} {y : DataW H × List MemPlace} (hf : DataW.trod enc Try.prog w base spare held fuel st [v] = some y) :
    ∃ x : Option Addr × List α × Nat, v = .slice x.1 x.2.1.length x.2.2 ∧ LAt c ok zero sz w x.1 x.2.1 ∧ (∀ m ∈ x.2.1, okA m) ∧ x.2.1.length ≤ x.2.2 ∧ x.2.2 ≤ maxLen := by
  rcases open_slice C.under hf with ⟨hcs, _⟩ | ⟨a, l, cc, m, n, D, Pl, hcs, _, hl, hm, hmm, _, hi⟩
  · obtain rfl : v = .slice none 0 0 := by simpa using hcs
    exact ⟨(none, [], 0), rfl, LAt.nil _ _ _ _ _ _, fun m h => by simp at h, Nat.le_refl _, Nat.zero_le _⟩
  · obtain rfl : v = .slice (some a) l cc := by simpa using hcs
    have hlm : l ≤ m := by rw [hmm]; split <;> omega
    obtain ⟨ms, hml, hmp⟩ := choose_listI (fun i (x : α) => okA x ∧ ∀ j u, (c x)[j]? = some u → w.cell? ((a.add (i * sz)).add j) = some u) l (fun i hil => by
      obtain ⟨cs', hc', ht'⟩ := hi i (by omega)
      rw [hcells] at hc'
      obtain ⟨_, hlen, hat⟩ := World.cells?_some hc'
      obtain ⟨x, hx, rfl⟩ := hrd _ _ _ hlen ht'
      refine ⟨x, hx, fun j u hj => ?_⟩
      have hjl : j < sz := by
        rw [← C.len x]
        exact (List.getElem?_eq_some_iff.1 hj).1
      rw [hat j hjl, hj])
    have hokm : ∀ x ∈ ms, okA x := fun x hx => by
      obtain ⟨i, hi', he⟩ := List.getElem_of_mem hx
      exact (hmp i x (by rw [List.getElem?_eq_getElem hi', he])).1
    refine ⟨(some a, ms, cc), by rw [hml], ⟨fun x hx => hok x (hokm x hx), ?_⟩, hokm, by simpa [hml] using hl, hm⟩
    rcases ms with _ | ⟨m0, t⟩
    · exact .inl rfl
    · right
      obtain ⟨b, off, spot⟩ := a
      have hp := C.pos
      have hl0 := C.len m0
      obtain ⟨u0, hu0⟩ : ∃ u, (c m0)[0]? = some u := ⟨_, List.getElem?_eq_getElem (by omega)⟩
      have h0 := (hmp 0 m0 rfl).2 0 u0 hu0
      have hspot : spot = none := by
        have := World.cell?_spot h0
        simpa [Addr.add] using this
      subst hspot
      refine ⟨b, off, rfl, fun i hi' j u hj => ?_⟩
      have hx := hmp i ((m0 :: t).getD i zero) (by simp only [List.getD]; rw [List.getElem?_eq_getElem hi']; rfl)
      have := hx.2 j u hj
      rw [add_addL] at this
      exact this
theorem array3Y {α : Type} {cs : Array α} (h : cs.size = 3) : ∃ a b c, cs = #[a, b, c] := by
  obtain ⟨l⟩ := cs
  match l, h with
  | [a, b, c], _ => exact ⟨a, b, c, rfl⟩

theorem cta_cells : Try.prog.cellsOf 67 = 3 := by kernel_rfl
theorem cta_flds : (Try.prog.fieldsOf 67).toList.map (fun f => (f.type, f.offset, f.name != "_")) = [(25, 0, true), (3, 2, true)] := by kernel_rfl
theorem cta_trod {H : Type} {enc : TypeId × Value → H} {w : World} {base : Nat} {spare : Nat → Bool} {held : Bool} {fuel : Nat} {cs : List Value} {x : DataW H × List MemPlace} (hl : cs.length = 3)
    (h : DataW.trod enc Try.prog w base spare held fuel 67 cs = some x) : ∃ m : Ct, InCt m ∧ cs = ctC m := by
  obtain ⟨c0, c1, c2, rfl⟩ : ∃ c0 c1 c2, cs = [c0, c1, c2] := by
    match cs, hl with
    | [c0, c1, c2], _ => exact ⟨c0, c1, c2, rfl⟩
  have hu := ct_under
  have hf := cta_flds
  obtain ⟨f0, f1, hff⟩ := array2 (cs := Try.prog.fieldsOf 67) (by simpa using congrArg List.length hf)
  rw [hff] at hf hu
  simp only [List.map_cons, List.map_nil, List.cons.injEq, Prod.mk.injEq, and_true] at hf
  obtain ⟨⟨t0, o0, _⟩, t1, o1, _⟩ := hf
  obtain ⟨y0, y1, n, _, _, g0, g1⟩ := trod_struct2 hu h
  rw [t0, o0, pk_cells] at g0
  rw [t1, o1, inta_cells] at g1
  simp only [List.drop_zero, List.drop_succ_cons, List.take_succ_cons, List.take_zero] at g0 g1
  have hu2 := pk_und
  have hf2 := pk_flds
  obtain ⟨k0, k1, hkk⟩ := array2 (cs := Try.prog.fieldsOf 25) (by simpa using congrArg List.length hf2)
  rw [hkk] at hf2 hu2
  simp only [List.map_cons, List.map_nil, List.cons.injEq, Prod.mk.injEq, and_true] at hf2
  obtain ⟨⟨t2, o2, _⟩, t3, o3, _⟩ := hf2
  obtain ⟨z0, z1, n2, _, _, r0, r1⟩ := trod_struct2 hu2 g0
  rw [t2, o2, u32a_cells] at r0
  rw [t3, o3, inta_cells] at r1
  simp only [List.drop_zero, List.drop_succ_cons, List.take_succ_cons, List.take_zero] at r0 r1
  obtain ⟨a, e0, _, w0⟩ := DataW.trod_int Try.underlying23 r0
  obtain ⟨m, e1, _, w1⟩ := DataW.trod_int Try.underlying3 r1
  obtain ⟨cc, e2, _, _⟩ := DataW.trod_int Try.underlying3 g1
  simp only [List.cons.injEq, and_true] at e0 e1 e2
  exact ⟨⟨⟨a, m⟩, cc⟩, ⟨w0, w1⟩, by rw [e0, e1, e2]; rfl⟩
/-- A report, as it comes. -/
structure Rt where
  intro ::
  src : Int
  seq : Int
  p : Option Addr
  L : List Ct
  cap : Nat
structure RtAt (w : World) (o : Rt) : Prop where
  at_ : CtsAt w o.p o.L
  le : o.L.length ≤ o.cap
  max : o.cap ≤ maxLen
theorem RtAt.below {w w' : World} {o : Rt} (h : RtAt w o) (hb : Below w.heap.size w w') : RtAt w' o := ⟨h.at_.below hb, h.le, h.max⟩
def rtC (o : Rt) : List Value := [.int .i64 o.src, .int .i64 o.seq, .slice o.p o.L.length o.cap]
theorem rta_cells : Try.prog.cellsOf 31 = 3 := by kernel_rfl
theorem sla_cells : Try.prog.cellsOf 29 = 1 := by kernel_rfl
theorem rta_flds : (Try.prog.fieldsOf 31).toList.map (fun f => (f.type, f.offset, f.name != "_")) = [(3, 0, true), (3, 1, true), (29, 2, true)] := by kernel_rfl
theorem rta_und : Try.prog.underlying 31 = some (.struct (Try.prog.fieldsOf 31)) := by kernel_rfl
theorem rta_trod {H : Type} {enc : TypeId × Value → H} {w : World} {base : Nat} {spare : Nat → Bool} {held : Bool} {fuel : Nat} {cs : List Value} {x : DataW H × List MemPlace} (hl : cs.length = 3)
    (h : DataW.trod enc Try.prog w base spare held fuel 31 cs = some x) : ∃ m : Rt, RtAt w m ∧ cs = rtC m := by
  obtain ⟨c0, c1, c2, rfl⟩ : ∃ c0 c1 c2, cs = [c0, c1, c2] := by
    match cs, hl with
    | [c0, c1, c2], _ => exact ⟨c0, c1, c2, rfl⟩
  have hu2 := rta_und
  have hf2 := rta_flds
  obtain ⟨k0, k1, k2, hkk⟩ := array3Y (cs := Try.prog.fieldsOf 31) (by simpa using congrArg List.length hf2)
  rw [hkk] at hf2 hu2
  simp only [List.map_cons, List.map_nil, List.cons.injEq, Prod.mk.injEq, and_true] at hf2
  obtain ⟨⟨t2, o2, _⟩, ⟨t3, o3, _⟩, t4, o4, _⟩ := hf2
  obtain ⟨z0, z1, z2, n2, _, _, r0, r1, r2⟩ := trod_struct3 hu2 h
  rw [t2, o2, inta_cells] at r0
  rw [t3, o3, inta_cells] at r1
  rw [t4, o4, sla_cells] at r2
  simp only [List.drop_zero, List.drop_succ_cons, List.take_succ_cons, List.take_zero] at r0 r1 r2
  obtain ⟨s, e0, _, _⟩ := DataW.trod_int Try.underlying3 r0
  obtain ⟨q, e1, _, _⟩ := DataW.trod_int Try.underlying3 r1
  obtain ⟨x3, e2, hat, _, hle, hmx⟩ := open_listL rowCt cta_cells (okA := InCt) (fun _ h => h) (fun fuel cs y hl h => cta_trod hl h) r2
  simp only [List.cons.injEq, and_true] at e0 e1
  exact ⟨⟨s, q, x3.1, x3.2.1, x3.2.2⟩, ⟨hat, hle, hmx⟩, by rw [e0, e1, e2]; rfl⟩
theorem open_rep {H : Type} {enc : TypeId × Value → H} {w : World} {base b0 : Nat} {spare : Nat → Bool} {held : Bool} {r : Reach} {v : Value} {d : DataW H} {p : List MemPlace} (hv : Value.okWide Try.prog w r b0 31 v) (h : DataW.Trod enc Try.prog w base spare held 31 v d p) :
    ∃ x : Rt, v = .agg #[.int .i64 x.src, .int .i64 x.seq, .slice x.p x.L.length x.cap] ∧ RtAt w x := by
  obtain ⟨cs, rfl, hsz⟩ := okWide_struct rta_und hv
  rw [rta_cells] at hsz
  obtain ⟨fuel, hf⟩ := h
  obtain ⟨x, hx, hc⟩ := rta_trod (cs := cs.toList) (by simpa using hsz) (show DataW.trod enc Try.prog w base spare held fuel 31 cs.toList = some (d, p) from hf)
  refine ⟨x, ?_, hx⟩
  obtain ⟨l⟩ := cs
  simp only at hc
  rw [hc]; rfl
end Go.Proofs.Ytgididkpgncdjaa
