/- capa: what comes as an argument (lists, by any kind of elements; what sources say); lists under turns; what is told of All once more. -/
import Derived.Test.YtlkpalaakncicaaXF
import Derived.Test.YtlkpalaakncicaaWG
import Derived.Deep.Strs
namespace Go.Proofs.Ytlkpalaakncicaa
open Go.ChangeShapes Go.WideShapes Go.ChangeAt Go.RowKit Go.Joins Go.Deep
set_option linter.unusedVariables false
set_option linter.unusedSimpArgs false
set_option maxRecDepth 100000

theorem add_addL (b off i j : Nat) : ((⟨b, off, none⟩ : Addr).add i).add j = ⟨b, off + i + j, none⟩ := by rw [add_litL, add_litL]
/-- A list of any kind of elements, as it comes. -/
theorem open_listL {st et : TypeId} {α : Type} {c : α → List Value} {ok : α → Prop} {zero : α} {zv : Value} {sz by_ : Nat} (C : RowC st et c ok zero zv sz by_) (hcells : Try.prog.cellsOf et = sz) {okA : α → Prop} (hok : ∀ m, okA m → ok m)
    {H : Type} {enc : TypeId × Value → H} {w : World} {base : Nat} {spare : Nat → Bool} {held : Bool}
    (hrd : ∀ (fuel : Nat) (cs : List Value) (y : DataW H × List MemPlace), cs.length = sz → DataW.trod enc Try.prog w base spare held fuel et cs = some y → ∃ m, okA m ∧ cs = c m)
    {fuel : Nat} {v : Value} {y : DataW H × List MemPlace} (hf : DataW.trod enc Try.prog w base spare held fuel st [v] = some y) :
    ∃ x : Option Addr × List α × Nat, v = .slice x.1 x.2.1.length x.2.2 ∧ LAt c ok zero sz w x.1 x.2.1 ∧ (∀ m ∈ x.2.1, okA m) ∧ x.2.1.length ≤ x.2.2 ∧ x.2.2 ≤ maxLen := by
  rcases open_slice C.under hf with ⟨hcs, _⟩ | ⟨a, l, cc, m, n, D, Pl, hcs, _, hl, hm, hmm, _, hi⟩
  · obtain rfl : v = .slice none 0 0 := by simpa using hcs
    exact ⟨(none, [], 0), rfl, LAt.nil _ _ _ _ _ _, fun m h => by simp at h, Nat.le_refl _, Nat.zero_le _⟩
  · obtain rfl : v = .slice (some a) l cc := by simpa using hcs
    have hlm : l ≤ m := by rw [hmm]; split <;> omega
    obtain ⟨ms, hml, hmp⟩ := choose_listI (fun i (x : α) => okA x ∧ ∀ j u, (c x)[j]? = some u → w.cell? ((a.add (i * sz)).add j) = some u) l (fun i hil => by
      obtain ⟨cs', hc', ht'⟩ := hi i (by omega)
      rw [hcells] at hc'
      obtain ⟨_, hlen, hat⟩ := World.cells?_some hc'
      obtain ⟨x, hx, rfl⟩ := hrd _ _ _ hlen ht'
      refine ⟨x, hx, fun j u hj => ?_⟩
      have hjl : j < sz := by
        rw [← C.len x]
        exact (List.getElem?_eq_some_iff.1 hj).1
      rw [hat j hjl, hj])
    have hokm : ∀ x ∈ ms, okA x := fun x hx => by
      obtain ⟨i, hi', he⟩ := List.getElem_of_mem hx
      exact (hmp i x (by rw [List.getElem?_eq_getElem hi', he])).1
    refine ⟨(some a, ms, cc), by rw [hml], ⟨fun x hx => hok x (hokm x hx), ?_⟩, hokm, by simpa [hml] using hl, hm⟩
    rcases ms with _ | ⟨m0, t⟩
    · exact .inl rfl
    · right
      obtain ⟨b, off, spot⟩ := a
      have hp := C.pos
      have hl0 := C.len m0
      obtain ⟨u0, hu0⟩ : ∃ u, (c m0)[0]? = some u := ⟨_, List.getElem?_eq_getElem (by omega)⟩
      have h0 := (hmp 0 m0 rfl).2 0 u0 hu0
      have hspot : spot = none := by
        have := World.cell?_spot h0
        simpa [Addr.add] using this
      subst hspot
      refine ⟨b, off, rfl, fun i hi' j u hj => ?_⟩
      have hx := hmp i ((m0 :: t).getD i zero) (by simp only [List.getD]; rw [List.getElem?_eq_getElem hi']; rfl)
      have := hx.2 j u hj
      rw [add_addL] at this
      exact this
theorem LAt.turns {α : Type} {c : α → List Value} {ok : α → Prop} {zero : α} {sz : Nat} {w w' : World} {p : Option Addr} {l : List α} (h : LAt c ok zero sz w p l) {S : Nat → Prop} (hT : Turns S w w') (hp : ∀ b off, p = some ⟨b, off, none⟩ → ¬ S b) : LAt c ok zero sz w' p l :=
  ⟨h.ok, h.cells.imp id fun ⟨b, off, e, hc⟩ => ⟨b, off, e, fun i hi j u hv => by
    have h1 := hc i hi j u hv
    exact cell_same h1 (hT.block b (World.block_lt_of_cell? w _ h1) (hp b off e))⟩⟩
theorem LAt.lt {st et : TypeId} {α : Type} {c : α → List Value} {ok : α → Prop} {zero : α} {zv : Value} {sz by_ : Nat} (C : RowC st et c ok zero zv sz by_) {w : World} {p : Option Addr} {l : List α} (h : LAt c ok zero sz w p l) (hl : l ≠ []) {b off : Nat} (hp : p = some ⟨b, off, none⟩) : b < w.heap.size := by
  rcases h.cells with rfl | ⟨b', off', e, hc⟩
  · exact absurd rfl hl
  · rw [hp] at e
    simp only [Option.some.injEq, Addr.mk.injEq, and_true] at e
    obtain ⟨rfl, rfl⟩ := e
    have h0 : 0 < l.length := by cases l with | nil => exact absurd rfl hl | cons _ _ => simp
    have hp := C.pos
    have hl0 := C.len (l.getD 0 zero)
    obtain ⟨u0, hu0⟩ : ∃ u, (c (l.getD 0 zero))[0]? = some u := ⟨_, List.getElem?_eq_getElem (by omega)⟩
    exact World.block_lt_of_cell? w _ (hc 0 h0 0 u0 hu0)
theorem LOwn.lo {et : TypeId} {α : Type} {c : α → List Value} {ok : α → Prop} {sz : Nat} {w : World} {B n cap : Nat} {q : Option Addr} {l : List α} (h : LOwn et c ok sz w B q n cap l) : ∀ b off, q = some ⟨b, off, none⟩ → B ≤ b := by
  intro b off e
  rcases h.row.2 with ⟨hv, _⟩ | ⟨g, cap', cur, hv, hB, _⟩
  · rw [e] at hv; cases hv
  · rw [e] at hv
    simp only [Value.slice.injEq, Option.some.injEq, Addr.mk.injEq, and_true] at hv
    obtain ⟨⟨rfl, _⟩, _⟩ := hv
    exact hB
/-- What interfaces carry, as it comes. -/
theorem cya_cells : Try.prog.cellsOf 67 = 3 := by kernel_rfl
theorem cya_flds : (Try.prog.fieldsOf 67).toList.map (fun f => (f.type, f.offset, f.name != "_")) = [(3, 0, true), (3, 1, true), (4, 2, true)] := by kernel_rfl
theorem boola_cells : Try.prog.cellsOf 4 = 1 := by kernel_rfl
theorem array3Y {α : Type} {cs : Array α} (h : cs.size = 3) : ∃ a b c, cs = #[a, b, c] := by
  obtain ⟨l⟩ := cs
  match l, h with
  | [a, b, c], _ => exact ⟨a, b, c, rfl⟩
theorem cya_trod {H : Type} {enc : TypeId × Value → H} {w : World} {base : Nat} {spare : Nat → Bool} {held : Bool} {fuel : Nat} {cs : List Value} {x : DataW H × List MemPlace} (hl : cs.length = 3)
    (h : DataW.trod enc Try.prog w base spare held fuel 67 cs = some x) : ∃ m : Cy, InCy m ∧ cs = cyC m := by
  obtain ⟨c0, c1, c2, rfl⟩ : ∃ c0 c1 c2, cs = [c0, c1, c2] := by
    match cs, hl with
    | [c0, c1, c2], _ => exact ⟨c0, c1, c2, rfl⟩
  have hu := cy_under
  have hf := cya_flds
  obtain ⟨f0, f1, f2, hff⟩ := array3Y (cs := Try.prog.fieldsOf 67) (by simpa using congrArg List.length hf)
  rw [hff] at hf hu
  simp only [List.map_cons, List.map_nil, List.cons.injEq, Prod.mk.injEq, and_true] at hf
  obtain ⟨⟨t0, o0, _⟩, ⟨t1, o1, _⟩, t2, o2, _⟩ := hf
  obtain ⟨y0, y1, y2, n, _, _, g0, g1, g2⟩ := trod_struct3 hu h
  rw [t0, o0, inta_cells] at g0
  rw [t1, o1, inta_cells] at g1
  rw [t2, o2, boola_cells] at g2
  simp only [List.drop_zero, List.drop_succ_cons, List.take_succ_cons, List.take_zero] at g0 g1 g2
  obtain ⟨i, e0, _, w0⟩ := DataW.trod_int Try.underlying3 g0
  obtain ⟨cc, e1, _, w1⟩ := DataW.trod_int Try.underlying3 g1
  obtain ⟨d, e2, _⟩ := DataW.trod_bool Try.underlying4 g2
  simp only [List.cons.injEq, and_true] at e0 e1 e2
  exact ⟨⟨i, cc, d⟩, w0, by rw [e0, e1, e2]; rfl⟩
/-- What a source says at a moment, as it stands in memory. -/
structure Ot where
  intro ::
  src : Int
  seq : Int
  p : Option Addr
  L : List Cy
  cap : Nat
  now : Int
def otC (o : Ot) : List Value := [.int .i64 o.src, .int .i64 o.seq, .slice o.p o.L.length o.cap, .int .i64 o.now]
abbrev otV (o : Ot) : Value := .agg #[.int .i64 o.src, .int .i64 o.seq, .slice o.p o.L.length o.cap, .int .i64 o.now]
def Ot.zero : Ot := ⟨0, 0, none, [], 0, 0⟩
/-- .. in a world. -/
structure OtAt (w : World) (o : Ot) : Prop where
  at_ : CysAt w o.p o.L
  le : o.L.length ≤ o.cap
  max : o.cap ≤ maxLen
theorem OtAt.below {w w' : World} {o : Ot} (h : OtAt w o) (hb : Below w.heap.size w w') : OtAt w' o := ⟨h.at_.below hb, h.le, h.max⟩
theorem rowOt : RowC 45 55 otC (fun _ => True) Ot.zero (.agg #[.int .i64 0, .int .i64 0, .slice none 0 0, .int .i64 0]) 4 48 where
  len x := rfl
  pos := by omega
  zs := rfl
  byl := by omega
  info := by kernel_rfl
  under := Try.underlying45
  elem := by kernel_rfl
  size w := by kernel_rfl
  one x u hu := by
    simp [otC] at hu
    rcases hu with rfl | rfl | rfl | rfl <;> rfl
theorem ota_cells : Try.prog.cellsOf 55 = 4 := by kernel_rfl
theorem cara_cells : Try.prog.cellsOf 53 = 3 := by kernel_rfl
theorem sla_cells : Try.prog.cellsOf 51 = 1 := by kernel_rfl
theorem ota_flds : (Try.prog.fieldsOf 55).toList.map (fun f => (f.type, f.offset, f.name != "_")) = [(53, 0, true), (3, 3, true)] := by kernel_rfl
theorem cara_flds : (Try.prog.fieldsOf 53).toList.map (fun f => (f.type, f.offset, f.name != "_")) = [(3, 0, true), (3, 1, true), (51, 2, true)] := by kernel_rfl
theorem ota_und : Try.prog.underlying 55 = some (.struct (Try.prog.fieldsOf 55)) := by kernel_rfl
theorem cara_und : Try.prog.underlying 53 = some (.struct (Try.prog.fieldsOf 53)) := by kernel_rfl
theorem ota_trod {H : Type} {enc : TypeId × Value → H} {w : World} {base : Nat} {spare : Nat → Bool} {held : Bool} {fuel : Nat} {cs : List Value} {x : DataW H × List MemPlace} (hl : cs.length = 4)
    (h : DataW.trod enc Try.prog w base spare held fuel 55 cs = some x) : ∃ m : Ot, OtAt w m ∧ cs = otC m := by
  obtain ⟨c0, c1, c2, c3, rfl⟩ : ∃ c0 c1 c2 c3, cs = [c0, c1, c2, c3] := by
    match cs, hl with
    | [c0, c1, c2, c3], _ => exact ⟨c0, c1, c2, c3, rfl⟩
  have hu := ota_und
  have hf := ota_flds
  obtain ⟨f0, f1, hff⟩ := array2 (cs := Try.prog.fieldsOf 55) (by simpa using congrArg List.length hf)
  rw [hff] at hf hu
  simp only [List.map_cons, List.map_nil, List.cons.injEq, Prod.mk.injEq, and_true] at hf
  obtain ⟨⟨t0, o0, _⟩, t1, o1, _⟩ := hf
  obtain ⟨y0, y1, n, _, _, g0, g1⟩ := trod_struct2 hu h
  rw [t0, o0, cara_cells] at g0
  rw [t1, o1, inta_cells] at g1
  simp only [List.drop_zero, List.drop_succ_cons, List.take_succ_cons, List.take_zero] at g0 g1
  have hu2 := cara_und
  have hf2 := cara_flds
  obtain ⟨k0, k1, k2, hkk⟩ := array3Y (cs := Try.prog.fieldsOf 53) (by simpa using congrArg List.length hf2)
  rw [hkk] at hf2 hu2
  simp only [List.map_cons, List.map_nil, List.cons.injEq, Prod.mk.injEq, and_true] at hf2
  obtain ⟨⟨t2, o2, _⟩, ⟨t3, o3, _⟩, t4, o4, _⟩ := hf2
  obtain ⟨z0, z1, z2, n2, _, _, r0, r1, r2⟩ := trod_struct3 hu2 g0
  rw [t2, o2, inta_cells] at r0
  rw [t3, o3, inta_cells] at r1
  rw [t4, o4, sla_cells] at r2
  simp only [List.drop_zero, List.drop_succ_cons, List.take_succ_cons, List.take_zero] at r0 r1 r2
  obtain ⟨s, e0, _, _⟩ := DataW.trod_int Try.underlying3 r0
  obtain ⟨q, e1, _, _⟩ := DataW.trod_int Try.underlying3 r1
  obtain ⟨x3, e2, hat, _, hle, hmx⟩ := open_listL rowCy cya_cells (okA := InCy) (fun _ h => h) (fun fuel cs y hl h => cya_trod hl h) r2
  obtain ⟨nw, e3, _, _⟩ := DataW.trod_int Try.underlying3 g1
  simp only [List.cons.injEq, and_true] at e0 e1 e3
  exact ⟨⟨s, q, x3.1, x3.2.1, x3.2.2, nw⟩, ⟨hat, hle, hmx⟩, by rw [e0, e1, e2, e3]; rfl⟩
/-- A list of them, as it comes. -/
structure OtsArg (w : World) (x : Option Addr × List Ot × Nat) : Prop where
  at_ : LAt otC (fun _ => True) Ot.zero 4 w x.1 x.2.1
  ok : ∀ o ∈ x.2.1, OtAt w o
  le : x.2.1.length ≤ x.2.2
  max : x.2.2 ≤ maxLen
theorem open_ots {H : Type} {enc : TypeId × Value → H} {w : World} {base b0 : Nat} {spare : Nat → Bool} {held : Bool} {r : Reach} {v : Value} {d : DataW H} {p : List MemPlace} (hv : Value.okWide Try.prog w r b0 45 v) (h : DataW.Trod enc Try.prog w base spare held 45 v d p) :
    ∃ x : Option Addr × List Ot × Nat, v = .slice x.1 x.2.1.length x.2.2 ∧ OtsArg w x := by
  obtain ⟨a0, len0, cap0, rfl⟩ := okWide_slice Try.underlying45 hv
  obtain ⟨fuel, hf⟩ := h
  obtain ⟨x, e, h1, h2, h3, h4⟩ := open_listL rowOt ota_cells (okA := OtAt w) (fun _ _ => trivial) (fun fuel cs y hl h => ota_trod hl h) (show DataW.trod enc Try.prog w base spare held fuel 45 [.slice a0 len0 cap0] = some (d, p) from hf)
  exact ⟨x, e, h1, h2, h3, h4⟩
theorem open_ot {H : Type} {enc : TypeId × Value → H} {w : World} {base b0 : Nat} {spare : Nat → Bool} {held : Bool} {r : Reach} {v : Value} {d : DataW H} {p : List MemPlace} (hv : Value.okWide Try.prog w r b0 55 v) (h : DataW.Trod enc Try.prog w base spare held 55 v d p) :
    ∃ x : Ot, v = .agg #[.int .i64 x.src, .int .i64 x.seq, .slice x.p x.L.length x.cap, .int .i64 x.now] ∧ OtAt w x := by
  obtain ⟨cs, rfl, hsz⟩ := okWide_struct ota_und hv
  rw [ota_cells] at hsz
  obtain ⟨fuel, hf⟩ := h
  obtain ⟨x, hx, hc⟩ := ota_trod (cs := cs.toList) (by simpa using hsz) (show DataW.trod enc Try.prog w base spare held fuel 55 cs.toList = some (d, p) from hf)
  refine ⟨x, ?_, hx⟩
  obtain ⟨l⟩ := cs
  simp only at hc
  rw [hc]; rfl
end Go.Proofs.Ytlkpalaakncicaa
