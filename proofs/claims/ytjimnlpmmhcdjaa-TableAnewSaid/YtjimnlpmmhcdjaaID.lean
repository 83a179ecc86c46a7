/- What the frames of table's laws have in common: detours that come as arguments. -/
import Derived.Test.YtjimnlpmmhcdjaaIC
import Derived.ProofKit
import Derived.OpenShut
import Derived.ShutString
import Derived.ChangeOld
import Derived.Deep.DeepHandedRow
import Derived.Lib.SmallJoins
import Derived.Below
import Derived.Deep.Slices
import Derived.Deep.Fields
import Derived.Deep.Strs
namespace Go.Proofs.Ytjimnlpmmhcdjaa
open Go.ChangeShapes Go.WideShapes Go.ChangeAt Go.RowKit Go.Joins Go.Deep
set_option linter.unusedVariables false
set_option linter.unusedSimpArgs false
set_option maxRecDepth 100000

theorem ownKnobs : ownKnob Try.prog.godebug = none := by kernel_rfl
theorem laidOut : laidOutB Try.prog = true := by kernel_rfl
theorem inta_cells : Try.prog.cellsOf 3 = 1 := by kernel_rfl
theorem u32a_cells : Try.prog.cellsOf 30 = 1 := by kernel_rfl
theorem u32_range {a : Int} (h : (Lit.int .u32 a).wf = true) : 0 ≤ a ∧ a ≤ 4294967295 := by
  have h : IntKind.u32.min ≤ a ∧ a ≤ IntKind.u32.max := by simpa [Lit.wf] using h
  rw [show IntKind.u32.min = 0 from rfl, show IntKind.u32.max = 4294967295 from rfl] at h
  omega
theorem choose_listI {α : Type} (P : Nat → α → Prop) : ∀ (n : Nat), (∀ i, i < n → ∃ m, P i m) → ∃ ms : List α, ms.length = n ∧ ∀ (i : Nat) (m : α), ms[i]? = some m → P i m
  | 0, _ => ⟨[], rfl, fun i m h => by simp at h⟩
  | n + 1, h => by
    obtain ⟨ms, hl, hp⟩ := choose_listI P n (fun i hi => h i (by omega))
    obtain ⟨m, hm⟩ := h n (by omega)
    refine ⟨ms ++ [m], by simp [hl], fun i x hx => ?_⟩
    rcases Nat.lt_or_ge i n with hi | hi
    · rw [List.getElem?_append_left (by omega)] at hx
      exact hp i x hx
    · rw [List.getElem?_append_right (by omega), hl] at hx
      have : i = n := by
        have := (List.getElem?_eq_some_iff.1 hx).1
        simp at this; omega
      subst this
      simp at hx
      exact hx ▸ hm
set_option linter.unusedVariables false
set_option linter.unusedSimpArgs false
set_option maxRecDepth 100000
theorem add_addL (b off i j : Nat) : ((⟨b, off, none⟩ : Addr).add i).add j = ⟨b, off + i + j, none⟩ := by rw [add_litL, add_litL]
/-- A list of any kind of elements, as it comes. -/
theorem open_listL {st et : TypeId} {α : Type} {c : α → List Value} {ok : α → Prop} {zero : α} {zv : Value} {sz by_ : Nat} (C : RowC st et c ok zero zv sz by_) (hcells : Try.prog.cellsOf et = sz) {okA : α → Prop} (hok : ∀ m, okA m → ok m)
    {H : Type} {enc : TypeId × Value → H} {w : World} {base : Nat} {spare : Nat → Bool} {held : Bool}
    (hrd : ∀ (fuel : Nat) (cs : List Value) (y : DataW H × List MemPlace), cs.length = sz → DataW.trod enc Try.prog w base spare held fuel et cs = some y → ∃ m, okA m ∧ cs = c m)
    {fuel : Nat} {v : Value} {y : DataW H × List MemPlace} (hf : DataW.trod enc Try.prog w base spare held fuel st [v] = some y) :
    ∃ x : Option Addr × List α × Nat, v = .slice x.1 x.2.1.length x.2.2 ∧ LAt c ok zero sz w x.1 x.2.1 ∧ (∀ m ∈ x.2.1, okA m) ∧ x.2.1.length ≤ x.2.2 ∧ x.2.2 ≤ maxLen := by
  rcases open_slice C.under hf with ⟨hcs, _⟩ | ⟨a, l, cc, m, n, D, Pl, hcs, _, hl, hm, hmm, _, hi⟩
  · obtain rfl : v = .slice none 0 0 := by simpa using hcs
    exact ⟨(none, [], 0), rfl, LAt.nil _ _ _ _ _ _, fun m h => by simp at h, Nat.le_refl _, Nat.zero_le _⟩
  · obtain rfl : v = .slice (some a) l cc := by simpa using hcs
    have hlm : l ≤ m := by rw [hmm]; split <;> omega
    obtain ⟨ms, hml, hmp⟩ := choose_listI (fun i (x : α) => okA x ∧ ∀ j u, (c x)[j]? = some u → w.cell? ((a.add (i * sz)).add j) = some u) l (fun i hil => by
      obtain ⟨cs', hc', ht'⟩ := hi i (by omega)
      rw [hcells] at hc'
      obtain ⟨_, hlen, hat⟩ := World.cells?_some hc'
      obtain ⟨x, hx, rfl⟩ := hrd _ _ _ hlen ht'
      refine ⟨x, hx, fun j u hj => ?_⟩
      have hjl : j < sz := by
        rw [← C.len x]
        exact (List.getElem?_eq_some_iff.1 hj).1
      rw [hat j hjl, hj])
    have hokm : ∀ x ∈ ms, okA x := fun x hx => by
      obtain ⟨i, hi', he⟩ := List.getElem_of_mem hx
      exact (hmp i x (by rw [List.getElem?_eq_getElem hi', he])).1
    refine ⟨(some a, ms, cc), by rw [hml], ⟨fun x hx => hok x (hokm x hx), ?_⟩, hokm, by simpa [hml] using hl, hm⟩
    rcases ms with _ | ⟨m0, t⟩
    · exact .inl rfl
    · right
      obtain ⟨b, off, spot⟩ := a
      have hp := C.pos
      have hl0 := C.len m0
      obtain ⟨u0, hu0⟩ : ∃ u, (c m0)[0]? = some u := ⟨_, List.getElem?_eq_getElem (by omega)⟩
      have h0 := (hmp 0 m0 rfl).2 0 u0 hu0
      have hspot : spot = none := by
        have := World.cell?_spot h0
        simpa [Addr.add] using this
      subst hspot
      refine ⟨b, off, rfl, fun i hi' j u hj => ?_⟩
      have hx := hmp i ((m0 :: t).getD i zero) (by simp only [List.getD]; rw [List.getElem?_eq_getElem hi']; rfl)
      have := hx.2 j u hj
      rw [add_addL] at this
      exact this
/-- A field of a struct that is read. -/
theorem field_ofN {H : Type} {enc : TypeId × Value → H} {w : World} {base : Nat} {spare : Nat → Bool} {held : Bool} {fuel : Nat} {t : TypeId} {cs : List Value} {x : DataW H × List MemPlace} {FL : List (TypeId × Nat)}
    (hu : Try.prog.underlying t = some (.struct (Try.prog.fieldsOf t))) (hf : (Try.prog.fieldsOf t).toList.map (fun f => (f.type, f.offset)) = FL) (h : DataW.trod enc Try.prog w base spare held fuel t cs = some x) {j : Nat} {ty : TypeId} {off : Nat} (hj : FL[j]? = some (ty, off)) :
    ∃ n y, DataW.trod enc Try.prog w base spare held n ty ((cs.drop off).take (Try.prog.cellsOf ty)) = some y := by
  obtain ⟨xs, n, _, rfl, _, hlen, hx⟩ := DataW.trod_struct hu h
  rw [← hf, List.getElem?_map] at hj
  obtain ⟨f, hfj, he⟩ := Option.map_eq_some_iff.1 hj
  simp only [Prod.mk.injEq] at he
  obtain ⟨rfl, rfl⟩ := he
  rw [Array.getElem?_toList] at hfj
  have h1 := hx j f hfj
  have hjl : j < xs.length := by
    rw [hlen]
    obtain ⟨h, _⟩ := Array.getElem?_eq_some_iff.1 hfj
    exact h
  rw [List.getElem?_eq_getElem hjl] at h1
  exact ⟨n, _, h1⟩
theorem c_pfx : Try.prog.cellsOf 32 = 2 := by kernel_rfl
theorem c_key : Try.prog.cellsOf 34 = 4 := by kernel_rfl
theorem c_over : Try.prog.cellsOf 36 = 5 := by kernel_rfl
theorem f_pfx : (Try.prog.fieldsOf 32).toList.map (fun f => (f.type, f.offset)) = [(30, 0), (3, 1)] := by kernel_rfl
theorem f_key : (Try.prog.fieldsOf 34).toList.map (fun f => (f.type, f.offset)) = [(3, 0), (32, 1), (3, 3)] := by kernel_rfl
theorem f_over : (Try.prog.fieldsOf 36).toList.map (fun f => (f.type, f.offset)) = [(34, 0), (3, 4)] := by kernel_rfl
section
variable {H : Type} {enc : TypeId × Value → H} {w : World} {base : Nat} {spare : Nat → Bool} {held : Bool} {fuel : Nat}
theorem rd_int {c : Value} {y : DataW H × List MemPlace} (h : DataW.trod enc Try.prog w base spare held fuel 3 [c] = some y) : ∃ a, c = .int .i64 a ∧ (Lit.int .i64 a).wf = true := by
  obtain ⟨a, e0, _, w0⟩ := DataW.trod_int Try.underlying3 h
  simp only [List.cons.injEq, and_true] at e0
  exact ⟨a, e0, w0⟩
theorem rd_pfx {c0 c1 : Value} {y : DataW H × List MemPlace} (h : DataW.trod enc Try.prog w base spare held fuel 32 [c0, c1] = some y) : ∃ p : Pf, c0 = .int .u32 p.a ∧ c1 = .int .i64 p.n ∧ InPf p := by
  obtain ⟨n0, y0, g0⟩ := field_ofN pk_und f_pfx h (j := 0) rfl
  obtain ⟨n1, y1, g1⟩ := field_ofN pk_und f_pfx h (j := 1) rfl
  rw [u32a_cells] at g0
  rw [inta_cells] at g1
  obtain ⟨a, e0, _, w0⟩ := DataW.trod_int Try.underlying30 g0
  obtain ⟨b, e1, w1⟩ := rd_int (show DataW.trod enc Try.prog w base spare held n1 3 [c1] = some y1 from g1)
  have e0 : [c0] = [Value.int .u32 a] := e0
  simp only [List.cons.injEq, and_true] at e0
  exact ⟨⟨a, b⟩, e0, e1, w0, w1⟩
theorem rd_over {cs : List Value} {y : DataW H × List MemPlace} (hl : cs.length = 5) (h : DataW.trod enc Try.prog w base spare held fuel 36 cs = some y) : ∃ m : Dt, InDt m ∧ cs = dtC m := by
  obtain ⟨c0, c1, c2, c3, c4, rfl⟩ : ∃ c0 c1 c2 c3 c4, cs = [c0, c1, c2, c3, c4] := by
    match cs, hl with
    | [c0, c1, c2, c3, c4], _ => exact ⟨c0, c1, c2, c3, c4, rfl⟩
  obtain ⟨n0, y0, g0⟩ := field_ofN dt_under f_over h (j := 0) rfl
  obtain ⟨n1, y1, g1⟩ := field_ofN dt_under f_over h (j := 1) rfl
  rw [c_key] at g0
  rw [inta_cells] at g1
  obtain ⟨n2, y2, g2⟩ := field_ofN ke_under f_key g0 (j := 0) rfl
  obtain ⟨n3, y3, g3⟩ := field_ofN ke_under f_key g0 (j := 1) rfl
  obtain ⟨n4, y4, g4⟩ := field_ofN ke_under f_key g0 (j := 2) rfl
  rw [inta_cells] at g2 g4
  rw [c_pfx] at g3
  obtain ⟨r, rfl, _⟩ := rd_int (show DataW.trod enc Try.prog w base spare held n2 3 [c0] = some y2 from g2)
  obtain ⟨p, rfl, rfl, hp⟩ := rd_pfx (show DataW.trod enc Try.prog w base spare held n3 32 [c1, c2] = some y3 from g3)
  obtain ⟨d, rfl, _⟩ := rd_int (show DataW.trod enc Try.prog w base spare held n4 3 [c3] = some y4 from g4)
  obtain ⟨u, rfl, _⟩ := rd_int (show DataW.trod enc Try.prog w base spare held n1 3 [c4] = some y1 from g1)
  exact ⟨⟨r, p, d, u⟩, hp, rfl⟩
end
structure DtArg (x : Dt) : Prop where
  ok : InDt x
theorem open_dt {H : Type} {enc : TypeId × Value → H} {w : World} {base b0 : Nat} {spare : Nat → Bool} {held : Bool} {r : Reach} {v : Value} {d : DataW H} {p : List MemPlace} (hv : Value.okWide Try.prog w r b0 36 v) (h : DataW.Trod enc Try.prog w base spare held 36 v d p) :
    ∃ x : Dt, v = .agg #[.int .i64 x.r, .int .u32 x.p.a, .int .i64 x.p.n, .int .i64 x.d, .int .i64 x.u] ∧ DtArg x := by
  obtain ⟨cs, rfl, hsz⟩ := okWide_struct dt_under hv
  rw [c_over] at hsz
  obtain ⟨fuel, hf⟩ := h
  obtain ⟨x, hx, hc⟩ := rd_over (cs := cs.toList) (by simpa using hsz) (show DataW.trod enc Try.prog w base spare held fuel 36 cs.toList = some (d, p) from hf)
  refine ⟨x, ?_, ⟨hx⟩⟩
  obtain ⟨l⟩ := cs
  simp only at hc
  rw [hc]; rfl
structure DtsArg (w : World) (x : Option Addr × List Dt × Nat) : Prop where
  at_ : DtsAt w x.1 x.2.1
  le : x.2.1.length ≤ x.2.2
  max : x.2.2 ≤ maxLen
theorem open_dts {H : Type} {enc : TypeId × Value → H} {w : World} {base b0 : Nat} {spare : Nat → Bool} {held : Bool} {r : Reach} {v : Value} {d : DataW H} {p : List MemPlace} (hv : Value.okWide Try.prog w r b0 26 v) (h : DataW.Trod enc Try.prog w base spare held 26 v d p) :
    ∃ x : Option Addr × List Dt × Nat, v = .slice x.1 x.2.1.length x.2.2 ∧ DtsArg w x := by
  obtain ⟨a0, len0, cap0, rfl⟩ := okWide_slice Try.underlying26 hv
  obtain ⟨fuel, hf⟩ := h
  obtain ⟨x, e, h1, _, h3, h4⟩ := open_listL rowDt c_over (okA := InDt) (fun _ h => h) (fun fuel cs y hl h => rd_over hl h) (show DataW.trod enc Try.prog w base spare held fuel 26 [.slice a0 len0 cap0] = some (d, p) from hf)
  exact ⟨x, e, h1, h3, h4⟩
/-- One call of a table, as it comes. -/
structure Oq where
  intro ::
  k : Int
  o : Dt
  n : Int
def oqC (x : Oq) : List Value := [.int .i64 x.k, .int .i64 x.o.r, .int .u32 x.o.p.a, .int .i64 x.o.p.n, .int .i64 x.o.d, .int .i64 x.o.u, .int .i64 x.n]
def Oq.zero : Oq := ⟨0, Dt.zero, 0⟩
def InOq (x : Oq) : Prop := InDt x.o
theorem rowOq : RowC 22 38 oqC InOq Oq.zero (.agg #[.int .i64 0, .int .i64 0, .int .u32 0, .int .i64 0, .int .i64 0, .int .i64 0, .int .i64 0]) 7 56 where
  len x := rfl
  pos := by omega
  zs := rfl
  byl := by omega
  info := by kernel_rfl
  under := Try.underlying22
  elem := by kernel_rfl
  size w := by kernel_rfl
  one x u hu := by
    simp [oqC] at hu
    rcases hu with rfl | rfl | rfl | rfl | rfl | rfl | rfl <;> rfl
theorem u_oq : Try.prog.underlying 38 = some (.struct (Try.prog.fieldsOf 38)) := by kernel_rfl
theorem c_oq : Try.prog.cellsOf 38 = 7 := by kernel_rfl
theorem f_oq : (Try.prog.fieldsOf 38).toList.map (fun f => (f.type, f.offset)) = [(3, 0), (36, 1), (3, 6)] := by kernel_rfl
theorem rd_oq {H : Type} {enc : TypeId × Value → H} {w : World} {base : Nat} {spare : Nat → Bool} {held : Bool} {fuel : Nat} {cs : List Value} {y : DataW H × List MemPlace} (hl : cs.length = 7) (h : DataW.trod enc Try.prog w base spare held fuel 38 cs = some y) : ∃ m : Oq, InOq m ∧ cs = oqC m := by
  obtain ⟨c0, c1, c2, c3, c4, c5, c6, rfl⟩ : ∃ c0 c1 c2 c3 c4 c5 c6, cs = [c0, c1, c2, c3, c4, c5, c6] := by
    match cs, hl with
    | [c0, c1, c2, c3, c4, c5, c6], _ => exact ⟨c0, c1, c2, c3, c4, c5, c6, rfl⟩
  obtain ⟨n0, y0, g0⟩ := field_ofN u_oq f_oq h (j := 0) rfl
  obtain ⟨n1, y1, g1⟩ := field_ofN u_oq f_oq h (j := 1) rfl
  obtain ⟨n2, y2, g2⟩ := field_ofN u_oq f_oq h (j := 2) rfl
  rw [inta_cells] at g0 g2
  rw [c_over] at g1
  obtain ⟨k, rfl, _⟩ := rd_int (show DataW.trod enc Try.prog w base spare held n0 3 [c0] = some y0 from g0)
  obtain ⟨o, ho, hoc⟩ := rd_over (cs := [c1, c2, c3, c4, c5]) rfl (show DataW.trod enc Try.prog w base spare held n1 36 [c1, c2, c3, c4, c5] = some y1 from g1)
  obtain ⟨n, rfl, _⟩ := rd_int (show DataW.trod enc Try.prog w base spare held n2 3 [c6] = some y2 from g2)
  refine ⟨⟨k, o, n⟩, ho, ?_⟩
  unfold dtC at hoc
  simp only [List.cons.injEq, and_true] at hoc
  obtain ⟨rfl, rfl, rfl, rfl, rfl⟩ := hoc
  rfl
structure OqsArg (w : World) (x : Option Addr × List Oq × Nat) : Prop where
  at_ : LAt oqC InOq Oq.zero 7 w x.1 x.2.1
  le : x.2.1.length ≤ x.2.2
  max : x.2.2 ≤ maxLen
theorem open_oqs {H : Type} {enc : TypeId × Value → H} {w : World} {base b0 : Nat} {spare : Nat → Bool} {held : Bool} {r : Reach} {v : Value} {d : DataW H} {p : List MemPlace} (hv : Value.okWide Try.prog w r b0 22 v) (h : DataW.Trod enc Try.prog w base spare held 22 v d p) :
    ∃ x : Option Addr × List Oq × Nat, v = .slice x.1 x.2.1.length x.2.2 ∧ OqsArg w x := by
  obtain ⟨a0, len0, cap0, rfl⟩ := okWide_slice Try.underlying22 hv
  obtain ⟨fuel, hf⟩ := h
  obtain ⟨x, e, h1, _, h3, h4⟩ := open_listL rowOq c_oq (okA := InOq) (fun _ h => h) (fun fuel cs y hl h => rd_oq hl h) (show DataW.trod enc Try.prog w base spare held fuel 22 [.slice a0 len0 cap0] = some (d, p) from hf)
  exact ⟨x, e, h1, h3, h4⟩
end Go.Proofs.Ytjimnlpmmhcdjaa
