/- best: routes as an argument, with all that they hold, no longer than memory bears. -/
import Derived.Test.YtljbebeaahcjaaaBL
import Derived.Test.YtljbebeaahcjaaaBMa
import Derived.SizedLaws
namespace Go.Proofs.Ytljbebeaahcjaaa
open Go.ChangeShapes Go.WideShapes Go.ChangeAt Go.RowKit Go.Joins Go.Deep
set_option linter.unusedVariables false
set_option linter.unusedSimpArgs false
set_option maxRecDepth 100000

/-- What a datum holds is no longer than memory bears. -/
def Bnd {H : Type} (t : TypeId) (d : DataW H) : Prop := ∀ m ∈ d.weights Try.prog t, m ≤ reachBytes
theorem bnd_field {H : Type} {t : TypeId} {fs : Array Field} {parts : List (DataW H)} (hu : Try.prog.underlying t = some (.struct fs)) (h : Bnd t (.agg parts)) {j : Nat} {ty : TypeId} {d : DataW H} (hj : (fs.toList.map (·.type))[j]? = some ty) (hd : parts[j]? = some d) : Bnd ty d :=
  fun m hm => h m (by rw [show DataW.weights Try.prog t (.agg parts) = DataW.weightsEach Try.prog (fs.toList.map (·.type)) parts by rw [DataW.weights]; simp only [hu]]; exact DataW.weights_mem_each hj hd m hm)
theorem weights_all {H : Type} {e : TypeId} : ∀ {l : List (DataW H)} {d : DataW H}, d ∈ l → ∀ m ∈ d.weights Try.prog e, m ∈ DataW.weightsAll Try.prog e l
  | [], _, h, _, _ => by simp at h
  | x :: t, d, h, m, hm => by
    rw [DataW.weightsAll, List.mem_append]
    rcases List.mem_cons.1 h with e | h
    · exact .inl (e ▸ hm)
    · exact .inr (weights_all h m hm)
theorem bnd_slice {H : Type} {t e : TypeId} {els sp : List (DataW H)} (hu : Try.prog.underlying t = some (.slice e)) (h : Bnd t (.slice els sp)) : (els.length + sp.length) * Try.prog.bytesOf e ≤ reachBytes ∧ ∀ d ∈ els, Bnd e d := by
  have hw : DataW.weights Try.prog t (.slice els sp) = (els.length + sp.length) * Try.prog.bytesOf e :: (DataW.weightsAll Try.prog e els ++ DataW.weightsAll Try.prog e sp) := by rw [DataW.weights]; simp only [hu]
  refine ⟨h _ (by rw [hw]; simp), fun d hd m hm => h m ?_⟩
  rw [hw]
  exact List.mem_cons_of_mem _ (List.mem_append_left _ (weights_all hd m hm))
/-- A field of a struct that is read. -/
theorem field_of {H : Type} {enc : TypeId × Value → H} {w : World} {base : Nat} {spare : Nat → Bool} {held : Bool} {fuel : Nat} {t : TypeId} {cs : List Value} {x : DataW H × List MemPlace} {FL : List (TypeId × Nat)}
    (hu : Try.prog.underlying t = some (.struct (Try.prog.fieldsOf t))) (hf : (Try.prog.fieldsOf t).toList.map (fun f => (f.type, f.offset)) = FL) (h : DataW.trod enc Try.prog w base spare held fuel t cs = some x) (hb : Bnd t x.1) {j : Nat} {ty : TypeId} {off : Nat} (hj : FL[j]? = some (ty, off)) :
    ∃ n y, DataW.trod enc Try.prog w base spare held n ty ((cs.drop off).take (Try.prog.cellsOf ty)) = some y ∧ Bnd ty y.1 := by
  obtain ⟨xs, n, _, rfl, _, hlen, hx⟩ := DataW.trod_struct hu h
  rw [← hf, List.getElem?_map] at hj
  obtain ⟨f, hfj, he⟩ := Option.map_eq_some_iff.1 hj
  simp only [Prod.mk.injEq] at he
  obtain ⟨rfl, rfl⟩ := he
  rw [Array.getElem?_toList] at hfj
  have h1 := hx j f hfj
  have hjl : j < xs.length := by
    rw [hlen]
    obtain ⟨h, _⟩ := Array.getElem?_eq_some_iff.1 hfj
    exact h
  rw [List.getElem?_eq_getElem hjl] at h1
  refine ⟨n, _, h1, bnd_field (j := j) hu hb ?_ ?_⟩
  · rw [List.getElem?_map, Array.getElem?_toList, hfj]; rfl
  · rw [List.getElem?_map, List.getElem?_eq_getElem hjl]; rfl
/-- A list of any kind of elements, as it comes, and no longer than memory bears. -/
theorem open_listW {st et : TypeId} {α : Type} {c : α → List Value} {ok : α → Prop} {zero : α} {zv : Value} {sz by_ : Nat} (C : RowC st et c ok zero zv sz by_) (hcells : Try.prog.cellsOf et = sz) (hbytes : Try.prog.bytesOf et = by_) {okA : α → Prop} (hok : ∀ m, okA m → ok m)
    {H : Type} {enc : TypeId × Value → H} {w : World} {base : Nat} {spare : Nat → Bool} {held : Bool}
    (hrd : ∀ (fuel : Nat) (cs : List Value) (y : DataW H × List MemPlace), cs.length = sz → DataW.trod enc Try.prog w base spare held fuel et cs = some y → Bnd et y.1 → ∃ m, okA m ∧ cs = c m)
    {fuel : Nat} {v : Value} {y : DataW H × List MemPlace} (hf : DataW.trod enc Try.prog w base spare held fuel st [v] = some y) (hb : Bnd st y.1) :
    ∃ x : Option Addr × List α × Nat, v = .slice x.1 x.2.1.length x.2.2 ∧ LAt c ok zero sz w x.1 x.2.1 ∧ (∀ m ∈ x.2.1, okA m) ∧ SlOk x.1 x.2.1.length x.2.2 by_ := by
  rcases open_slice C.under hf with ⟨hcs, _⟩ | ⟨a, l, cc, m, n, D, Pl, hcs, _, hl, hm, hmm, hx, hi⟩
  · obtain rfl : v = .slice none 0 0 := by simpa using hcs
    exact ⟨(none, [], 0), rfl, LAt.nil _ _ _ _ _ _, fun m h => by simp at h, ⟨Nat.le_refl _, Nat.zero_le _, by simp, fun _ => ⟨rfl, rfl⟩⟩⟩
  · obtain rfl : v = .slice (some a) l cc := by simpa using hcs
    have hlm : l ≤ m := by rw [hmm]; split <;> omega
    rw [hx] at hb
    obtain ⟨hb1, hb2⟩ := bnd_slice C.under hb
    rw [hbytes] at hb1
    simp only [List.length_map, List.length_range] at hb1
    obtain ⟨ms, hml, hmp⟩ := choose_listI (fun i (x : α) => okA x ∧ ∀ j u, (c x)[j]? = some u → w.cell? ((a.add (i * sz)).add j) = some u) l (fun i hil => by
      obtain ⟨cs', hc', ht'⟩ := hi i (by omega)
      rw [hcells] at hc'
      obtain ⟨_, hlen, hat⟩ := World.cells?_some hc'
      obtain ⟨x, hx, rfl⟩ := hrd _ _ _ hlen ht' (hb2 _ (List.mem_map.2 ⟨i, List.mem_range.2 hil, rfl⟩))
      refine ⟨x, hx, fun j u hj => ?_⟩
      have hjl : j < sz := by
        rw [← C.len x]
        exact (List.getElem?_eq_some_iff.1 hj).1
      rw [hat j hjl, hj])
    have hokm : ∀ x ∈ ms, okA x := fun x hx => by
      obtain ⟨i, hi', he⟩ := List.getElem_of_mem hx
      exact (hmp i x (by rw [List.getElem?_eq_getElem hi', he])).1
    have hsl : SlOk (some a) ms.length cc by_ := ⟨by rw [hml]; exact hl, hm, by
      rw [hml]
      have h1 : l * by_ ≤ (l + (m - l)) * by_ := Nat.mul_le_mul_right _ (by omega)
      unfold reachBytes at hb1
      omega, fun e => by cases e⟩
    refine ⟨(some a, ms, cc), by rw [hml], ⟨fun x hx => hok x (hokm x hx), ?_⟩, hokm, hsl⟩
    rcases ms with _ | ⟨m0, t⟩
    · exact .inl rfl
    · right
      obtain ⟨b, off, spot⟩ := a
      have hp := C.pos
      have hl0 := C.len m0
      obtain ⟨u0, hu0⟩ : ∃ u, (c m0)[0]? = some u := ⟨_, List.getElem?_eq_getElem (by omega)⟩
      have h0 := (hmp 0 m0 rfl).2 0 u0 hu0
      have hspot : spot = none := by
        have := World.cell?_spot h0
        simpa [Addr.add] using this
      subst hspot
      refine ⟨b, off, rfl, fun i hi' j u hj => ?_⟩
      have hx := hmp i ((m0 :: t).getD i zero) (by simp only [List.getD]; rw [List.getElem?_eq_getElem hi']; rfl)
      have := hx.2 j u hj
      rw [add_addL] at this
      exact this
theorem c_int : Try.prog.cellsOf 3 = 1 := by kernel_rfl
theorem c_u32 : Try.prog.cellsOf 25 = 1 := by kernel_rfl
theorem c_bool : Try.prog.cellsOf 4 = 1 := by kernel_rfl
theorem c_ints : Try.prog.cellsOf 31 = 1 := by kernel_rfl
theorem c_segs : Try.prog.cellsOf 30 = 1 := by kernel_rfl
theorem c_seg : Try.prog.cellsOf 42 = 2 := by kernel_rfl
theorem c_pfx : Try.prog.cellsOf 27 = 2 := by kernel_rfl
theorem c_key : Try.prog.cellsOf 29 = 4 := by kernel_rfl
theorem c_att : Try.prog.cellsOf 33 = 6 := by kernel_rfl
theorem c_rt : Try.prog.cellsOf 35 = 10 := by kernel_rfl
theorem b_int : Try.prog.bytesOf 3 = 8 := by kernel_rfl
theorem b_seg : Try.prog.bytesOf 42 = 32 := by kernel_rfl
theorem u_seg : Try.prog.underlying 42 = some (.struct (Try.prog.fieldsOf 42)) := by kernel_rfl
theorem u_pfx : Try.prog.underlying 27 = some (.struct (Try.prog.fieldsOf 27)) := by kernel_rfl
theorem u_att : Try.prog.underlying 33 = some (.struct (Try.prog.fieldsOf 33)) := by kernel_rfl
theorem u_rt : Try.prog.underlying 35 = some (.struct (Try.prog.fieldsOf 35)) := by kernel_rfl
theorem f_seg : (Try.prog.fieldsOf 42).toList.map (fun f => (f.type, f.offset)) = [(4, 0), (31, 1)] := by kernel_rfl
theorem f_pfx : (Try.prog.fieldsOf 27).toList.map (fun f => (f.type, f.offset)) = [(25, 0), (3, 1)] := by kernel_rfl
theorem f_key : (Try.prog.fieldsOf 29).toList.map (fun f => (f.type, f.offset)) = [(3, 0), (27, 1), (3, 3)] := by kernel_rfl
theorem f_att : (Try.prog.fieldsOf 33).toList.map (fun f => (f.type, f.offset)) = [(3, 0), (30, 1), (25, 2), (3, 3), (3, 4), (31, 5)] := by kernel_rfl
theorem f_rt : (Try.prog.fieldsOf 35).toList.map (fun f => (f.type, f.offset)) = [(29, 0), (33, 4)] := by kernel_rfl
section
variable {H : Type} {enc : TypeId × Value → H} {w : World} {base : Nat} {spare : Nat → Bool} {held : Bool} {fuel : Nat}
theorem rd_ints {v : Value} {y : DataW H × List MemPlace} (h : DataW.trod enc Try.prog w base spare held fuel 31 [v] = some y) (hb : Bnd 31 y.1) : ∃ q n c A, v = .slice q n c ∧ IsAt w q A ∧ A.length = n ∧ SlOk q n c 8 := by
  obtain ⟨x, e, h1, _, h3⟩ := open_listW rowIn c_int b_int (okA := InI) (fun _ h => h) (fun fuel cs y hl h _ => by
    obtain ⟨c0, rfl⟩ : ∃ c0, cs = [c0] := by
      match cs, hl with
      | [c0], _ => exact ⟨c0, rfl⟩
    obtain ⟨a, e0, _, w0⟩ := DataW.trod_int Try.underlying3 h
    exact ⟨a, w0, e0⟩) h hb
  exact ⟨x.1, _, x.2.2, x.2.1, e, h1, rfl, h3⟩
theorem rd_seg {cs : List Value} {y : DataW H × List MemPlace} (hl : cs.length = 2) (h : DataW.trod enc Try.prog w base spare held fuel 42 cs = some y) (hb : Bnd 42 y.1) : ∃ m : Sg, (InSg m ∧ IsAt w m.q m.A) ∧ cs = sgC m := by
  obtain ⟨c0, c1, rfl⟩ : ∃ c0 c1, cs = [c0, c1] := by
    match cs, hl with
    | [c0, c1], _ => exact ⟨c0, c1, rfl⟩
  obtain ⟨n0, y0, g0, _⟩ := field_of u_seg f_seg h hb (j := 0) rfl
  obtain ⟨n1, y1, g1, b1⟩ := field_of u_seg f_seg h hb (j := 1) rfl
  rw [c_bool] at g0
  rw [c_ints] at g1
  simp only [List.drop_zero, List.drop_succ_cons, List.take_succ_cons, List.take_zero] at g0 g1
  obtain ⟨k, e0, _⟩ := DataW.trod_bool Try.underlying4 g0
  obtain ⟨q, n, c, A, rfl, hA, hn, hs⟩ := rd_ints g1 b1
  simp only [List.cons.injEq, and_true] at e0
  subst e0
  exact ⟨⟨k, q, n, c, A⟩, ⟨⟨hn, hs⟩, hA⟩, rfl⟩
theorem rd_segs {v : Value} {y : DataW H × List MemPlace} (h : DataW.trod enc Try.prog w base spare held fuel 30 [v] = some y) (hb : Bnd 30 y.1) : ∃ q n c L, v = .slice q n c ∧ SgsAt w q L ∧ L.length = n ∧ SlOk q n c 32 := by
  obtain ⟨x, e, h1, h2, h3⟩ := open_listW rowSg c_seg b_seg (okA := fun m => InSg m ∧ IsAt w m.q m.A) (fun _ h => h.1) (fun fuel cs y hl h hb => rd_seg hl h hb) h hb
  exact ⟨x.1, _, x.2.2, x.2.1, e, ⟨h1, fun m hm => (h2 m hm).2⟩, rfl, h3⟩
theorem rd_int {cs : List Value} {y : DataW H × List MemPlace} (h : DataW.trod enc Try.prog w base spare held fuel 3 cs = some y) : ∃ a : Int, cs = [.int .i64 a] ∧ (Lit.int .i64 a).wf = true := by
  obtain ⟨a, e, _, hw⟩ := DataW.trod_int Try.underlying3 h
  exact ⟨a, e, hw⟩
theorem rd_u32 {cs : List Value} {y : DataW H × List MemPlace} (h : DataW.trod enc Try.prog w base spare held fuel 25 cs = some y) : ∃ a : Int, cs = [.int .u32 a] ∧ 0 ≤ a ∧ a ≤ 4294967295 := by
  obtain ⟨a, e, _, hw⟩ := DataW.trod_int Try.underlying25 h
  exact ⟨a, e, u32_range hw⟩
theorem rd_att {c0 c1 c2 c3 c4 c5 : Value} {y : DataW H × List MemPlace} (h : DataW.trod enc Try.prog w base spare held fuel 33 [c0, c1, c2, c3, c4, c5] = some y) (hb : Bnd 33 y.1) :
    ∃ x : Ao, AoAt w x ∧ (Lit.int .i64 x.og).wf = true ∧ (Lit.int .i64 x.md).wf = true ∧ (Lit.int .i64 x.pf).wf = true ∧ c0 = .int .i64 x.og ∧ c1 = .slice x.p1 x.n1 x.c1 ∧ c2 = .int .u32 x.nx ∧ c3 = .int .i64 x.md ∧ c4 = .int .i64 x.pf ∧ c5 = .slice x.p2 x.n2 x.c2 := by
  obtain ⟨_, _, g0, _⟩ := field_of u_att f_att h hb (j := 0) rfl
  obtain ⟨_, _, g1, b1⟩ := field_of u_att f_att h hb (j := 1) rfl
  obtain ⟨_, _, g2, _⟩ := field_of u_att f_att h hb (j := 2) rfl
  obtain ⟨_, _, g3, _⟩ := field_of u_att f_att h hb (j := 3) rfl
  obtain ⟨_, _, g4, _⟩ := field_of u_att f_att h hb (j := 4) rfl
  obtain ⟨_, _, g5, b5⟩ := field_of u_att f_att h hb (j := 5) rfl
  rw [c_int] at g0 g3 g4
  rw [c_segs] at g1
  rw [c_u32] at g2
  rw [c_ints] at g5
  simp only [List.drop_zero, List.drop_succ_cons, List.take_succ_cons, List.take_zero] at g0 g1 g2 g3 g4 g5
  obtain ⟨og, e0, wo⟩ := rd_int g0
  obtain ⟨p1, n1, c1', L, e1, hL, hl, hs1⟩ := rd_segs g1 b1
  obtain ⟨nx, e2, u0, u1⟩ := rd_u32 g2
  obtain ⟨md, e3, wm⟩ := rd_int g3
  obtain ⟨pf, e4, wp⟩ := rd_int g4
  obtain ⟨p2, n2, c2', K, e5, hK, hk, hs2⟩ := rd_ints g5 b5
  simp only [List.cons.injEq, and_true] at e0 e2 e3 e4
  exact ⟨⟨og, p1, n1, c1', L, nx, md, pf, p2, n2, c2', K⟩, ⟨hL, hl, hs1, hK, hk, hs2, u0, u1⟩, wo, wm, wp, e0, e1, e2, e3, e4, e5⟩
theorem rd_rt {cs : List Value} {y : DataW H × List MemPlace} (hl : cs.length = 10) (h : DataW.trod enc Try.prog w base spare held fuel 35 cs = some y) (hb : Bnd 35 y.1) : ∃ o : Rv, (InRv o ∧ AoAt w o.x) ∧ cs = rvC o := by
  obtain ⟨c0, c1, c2, c3, c4, c5, c6, c7, c8, c9, rfl⟩ : ∃ c0 c1 c2 c3 c4 c5 c6 c7 c8 c9, cs = [c0, c1, c2, c3, c4, c5, c6, c7, c8, c9] := by
    match cs, hl with
    | [c0, c1, c2, c3, c4, c5, c6, c7, c8, c9], _ => exact ⟨c0, c1, c2, c3, c4, c5, c6, c7, c8, c9, rfl⟩
  obtain ⟨_, _, gk, bk⟩ := field_of u_rt f_rt h hb (j := 0) rfl
  obtain ⟨_, _, ga, ba⟩ := field_of u_rt f_rt h hb (j := 1) rfl
  rw [c_key] at gk
  rw [c_att] at ga
  simp only [List.drop_zero, List.drop_succ_cons, List.take_succ_cons, List.take_zero] at gk ga
  obtain ⟨_, _, k0, _⟩ := field_of key_under f_key gk bk (j := 0) rfl
  obtain ⟨_, _, k1, bp⟩ := field_of key_under f_key gk bk (j := 1) rfl
  obtain ⟨_, _, k2, _⟩ := field_of key_under f_key gk bk (j := 2) rfl
  rw [c_int] at k0 k2
  rw [c_pfx] at k1
  simp only [List.drop_zero, List.drop_succ_cons, List.take_succ_cons, List.take_zero] at k0 k1 k2
  obtain ⟨_, _, m0, _⟩ := field_of u_pfx f_pfx k1 bp (j := 0) rfl
  obtain ⟨_, _, m1, _⟩ := field_of u_pfx f_pfx k1 bp (j := 1) rfl
  rw [c_u32] at m0
  rw [c_int] at m1
  simp only [List.drop_zero, List.drop_succ_cons, List.take_succ_cons, List.take_zero] at m0 m1
  obtain ⟨x, hx, hwo, hwm, hwp, e4, e5, e6, e7, e8, e9⟩ := rd_att ga ba
  obtain ⟨r, er, hwr⟩ := rd_int k0
  obtain ⟨a, ea, _⟩ := rd_u32 m0
  obtain ⟨n, en, _⟩ := rd_int m1
  obtain ⟨i, ei, hwi⟩ := rd_int k2
  simp only [List.cons.injEq, and_true] at er ea en ei
  exact ⟨⟨r, a, n, i, x⟩, ⟨⟨hwr, hwi, hwo, hwm, hwp⟩, hx⟩, by rw [er, ea, en, ei, e4, e5, e6, e7, e8, e9]; rfl⟩
end
structure RtsArg (w : World) (x : Option Addr × List Rv × Nat) : Prop where
  intro ::
  at_ : RvsAt w x.1 x.2.1
  le : x.2.1.length ≤ x.2.2
  max : x.2.2 ≤ maxLen
theorem b_rt : Try.prog.bytesOf 35 = 112 := by kernel_rfl
theorem open_rts {H : Type} {enc : TypeId × Value → H} {w : World} {base b0 : Nat} {spare : Nat → Bool} {held : Bool} {r : Reach} {v : Value} {d : DataW H} {p : List MemPlace} (hv : Value.okWide Try.prog w r b0 22 v) (h : DataW.Trod enc Try.prog w base spare held 22 v d p) (hb : Bnd 22 d) :
    ∃ x : Option Addr × List Rv × Nat, v = .slice x.1 x.2.1.length x.2.2 ∧ RtsArg w x := by
  obtain ⟨a0, len0, cap0, rfl⟩ := okWide_slice Try.underlying22 hv
  obtain ⟨fuel, hf⟩ := h
  obtain ⟨x, e, h1, h2, h3⟩ := open_listW rowRv c_rt b_rt (okA := fun x => InRv x ∧ AoAt w x.x) (fun _ h => h.1) (fun fuel cs y hl h hb => rd_rt hl h hb) (show DataW.trod enc Try.prog w base spare held fuel 22 [.slice a0 len0 cap0] = some (d, p) from hf) hb
  exact ⟨x, e, ⟨h1, fun y hy => (h2 y hy).2⟩, h3.le, h3.max⟩
theorem ranks_arg (w : World) (x : Option Addr × List Rv × Nat) (g : RtsArg w x) :
    Calls Try.prog 5 #[.slice x.1 x.2.1.length x.2.2] w fun e w' => e = .returned (.bool true) ∧ Below w.heap.size w w' :=
  ranks_any w x.1 x.2.1 _ x.2.2 g.at_ rfl (by have h1 := g.le; have h2 := g.max; unfold maxLen at h2; omega)
end Go.Proofs.Ytljbebeaahcjaaa
