/- Rings: rows of bytes of one's own that are copied into; what a queue holds. -/
import Derived.Test.YtbgofccnhehodaaBy
import Derived.Laws.CopyOwn
import Derived.Deep.RegionHeldLaw
namespace Go.Proofs.Ytbgofccnhehodaa
open Go.RowKit

theorem getD_splice {L cs : List Int} {i j : Nat} (h : i + cs.length ≤ L.length) : (splice L i cs).getD j 0 = if j < i then L.getD j 0 else if j < i + cs.length then cs.getD (j - i) 0 else L.getD j 0 := by
  unfold splice
  by_cases h1 : j < i
  · rw [if_pos h1]
    simp [List.getD, List.getElem?_append, h1, List.getElem?_take]
    split
    · rfl
    · omega
  · rw [if_neg h1]
    by_cases h2 : j < i + cs.length
    · rw [if_pos h2]
      have hl : (L.take i).length = i := by simp; omega
      simp only [List.getD]
      rw [List.getElem?_append_right (by omega), List.getElem?_append_left (by omega), hl]
    · rw [if_neg h2]
      have hl : (L.take i).length = i := by simp; omega
      simp only [List.getD]
      rw [List.getElem?_append_right (by omega), List.getElem?_append_right (by omega), hl, List.getElem?_drop]
      congr 2
      omega
theorem getD_take {L : List Int} {k j : Nat} (h : j < k) : (L.take k).getD j 0 = L.getD j 0 := by
  simp [List.getD, List.getElem?_take_of_lt h]
theorem getD_drop {L : List Int} {k j : Nat} : (L.drop k).getD j 0 = L.getD (k + j) 0 := by
  simp [List.getD, List.getElem?_drop]
theorem splice_nil {α : Type} (L : List α) (i : Nat) : splice L i [] = L := by simp [splice]
theorem splice_map {α β : Type} (f : α → β) (L cs : List α) (i : Nat) : (splice L i cs).map f = splice (L.map f) i (cs.map f) := by simp [splice]
theorem ext_getD {xs ys : List Int} (hl : xs.length = ys.length) (h : ∀ i, i < xs.length → xs.getD i 0 = ys.getD i 0) : xs = ys := by
  refine List.ext_getElem hl fun i h1 h2 => ?_
  have := h i h1
  simpa [List.getD, List.getElem?_eq_getElem h1, List.getElem?_eq_getElem h2] using this
theorem InByte.splice {L cs : List Int} {i : Nat} (hL : InByte L) (hc : InByte cs) (h : i + cs.length ≤ L.length) : InByte (splice L i cs) := fun j hj => by
  rw [length_splice _ _ _ h] at hj
  rw [getD_splice h]
  split
  · exact hL j hj
  · split
    · exact hc _ (by omega)
    · exact hL j hj
theorem InByte.take {L : List Int} (hL : InByte L) (k : Nat) : InByte (L.take k) := fun j hj => by
  simp at hj
  rw [getD_take (by omega)]; exact hL j (by omega)

/-- A row of bytes of one's own, whole; or none. -/
def RingAt (w : World) (B : Nat) (p : Option Addr) (rs : List Int) : Prop :=
  InByte rs ∧ ((p = none ∧ rs = []) ∨ ∃ b, p = some ⟨b, 0, none⟩ ∧ B ≤ b ∧ BRow w b rs)
theorem RingAt.nil (w : World) (B : Nat) : RingAt w B none [] := ⟨fun i hi => by simp at hi, .inl ⟨rfl, rfl⟩⟩
theorem RingAt.bytes {w : World} {B : Nat} {p : Option Addr} {rs : List Int} (h : RingAt w B p rs) : BytesAt w p rs := by
  obtain ⟨hx, ⟨rfl, rfl⟩ | ⟨b, rfl, _, hr⟩⟩ := h
  · exact BytesAt.nil _ _
  · exact hr.bytes hx
theorem RingAt.mono {w : World} {B B' : Nat} {p : Option Addr} {rs : List Int} (h : RingAt w B p rs) (hb : B' ≤ B) : RingAt w B' p rs :=
  ⟨h.1, h.2.imp id fun ⟨b, e, hB, hr⟩ => ⟨b, e, Nat.le_trans hb hB, hr⟩⟩
theorem RingAt.block_lt {w : World} {B : Nat} {p : Option Addr} {rs : List Int} (h : RingAt w B p rs) {g : Nat} (hg : p.map (·.block) = some g) : B ≤ g ∧ g < w.heap.size := by
  obtain ⟨_, ⟨rfl, _⟩ | ⟨b, rfl, hB, hr⟩⟩ := h
  · cases hg
  · obtain rfl : b = g := by simpa using hg
    exact ⟨hB, World.rowIs.lt hr⟩
theorem RingAt.of_block {w w' : World} {B : Nat} {p : Option Addr} {rs : List Int} (h : RingAt w B p rs) (hb : ∀ g, p.map (·.block) = some g → w'.heap[g]? = w.heap[g]?) : RingAt w' B p rs := by
  obtain ⟨hx, h⟩ := h
  refine ⟨hx, h.imp id ?_⟩
  rintro ⟨b, rfl, hB, hr⟩
  exact ⟨b, rfl, hB, World.rowIs.of_block hr (hb b rfl)⟩
theorem RingAt.below {w w' : World} {B : Nat} {p : Option Addr} {rs : List Int} (h : RingAt w B p rs) (hb : Below w.heap.size w w') : RingAt w' B p rs :=
  h.of_block fun _ hg => hb.block _ (h.block_lt hg).2
theorem RingAt.setBelow {w : World} {B : Nat} {p : Option Addr} {rs : List Int} (h : RingAt w B p rs) {a : Addr} (ha : a.block < B) (v : Value) : RingAt (w.setCell a v) B p rs :=
  h.of_block fun g hg => Below.heap_setCell _ _ _ _ (by have := (h.block_lt hg).1; omega)
theorem RingAt.grown {w w' : World} {B : Nat} {p : Option Addr} {rs : List Int} {row : Option Nat} (h : RingAt w B p rs) (hg : w.grownBy w' row) (hne : p.map (·.block) = none ∨ p.map (·.block) ≠ row) : RingAt w' B p rs :=
  h.of_block fun g hp => hg.block g (h.block_lt hp).2 (by rw [← hp]; rcases hne with h' | h'; · rw [h'] at hp; cases hp
                                                          · exact h')
theorem RingAt.own {w : World} {B : Nat} {p : Option Addr} {rs : List Int} (h : RingAt w B p rs) (hm : rs.length ≤ maxLen) : Own w B p rs.length rs := by
  obtain ⟨hx, ⟨rfl, rfl⟩ | ⟨b, rfl, hB, hr⟩⟩ := h
  · exact Own.nil _ _
  · exact Own.of_row hr hx hm hB
theorem RingAt.made (w : World) (B n : Nat) (hB : B ≤ w.heap.size) : RingAt (w.alloc (.cells (madeCells #[.int .u8 0] n) 5)) B (some ⟨w.heap.size, 0, none⟩) (List.replicate n 0) := by
  refine ⟨fun i hi => ?_, .inr ⟨w.heap.size, rfl, hB, ?_⟩⟩
  · simp at hi
    simp [List.getD, hi]
  · unfold BRow
    rw [List.length_replicate]
    refine World.rowIs.congr (World.rowIs_made w (.int .u8 0) n 5) fun i hi => ?_
    simp [List.getD, hi]
theorem under_u8s : Try.prog.underlying 30 = some (.slice 5) := Try.underlying30

/-- make([]byte, n). -/
theorem run_makeR (n : Nat) (h : n ≤ 1099511627776) (w : World) : (Instr.makeSlice 30 (.int .i64 (n : Int)) (.int .i64 (n : Int))).run Try.prog w = .ok (.slice (some ⟨w.heap.size, 0, none⟩) n n) (w.alloc (.cells (madeCells #[.int .u8 0] n) 5)) := by
  obtain ⟨i, hi, hz, hs, hb⟩ := info5'
  have hr := run_make (P := Try.prog) w 30 5 i (.int .u8 0) Try.underlying30 hi hz .i64 .i64 n n (by omega) (by omega) (by rw [hb]; omega) (by omega)
  simp only [Int.toNat_natCast, hs, Nat.mul_one] at hr
  exact hr

/-- copy into such a row. -/
theorem run_copyR (w : World) (ty : TypeId) (B : Nat) (p : Option Addr) (rs : List Int) (hr : RingAt w B p rs) (cap i dl dc : Nat) (hfit : i + dl ≤ rs.length) (hc : cap = i → dl = 0 ∨ i = 0)
    (q : Option Addr) (c : Nat) (ys : List Int) (hq : BytesAt w q ys) :
    ∃ w', (Builtin.copy_ #[30, 30] ty #[.slice (cutP p cap i) dl dc, .slice q ys.length c]).run Try.prog w = .ok (goInt (Nat.min ys.length dl : Nat)) w' ∧
      RingAt w' B p (splice rs i (ys.take (Nat.min ys.length dl))) ∧ Below B w w' ∧ w.grownBy w' (p.map (·.block)) := by
  by_cases h0 : Nat.min ys.length dl = 0
  · refine ⟨w, ?_, by rw [h0, List.take_zero, splice_nil]; exact hr, Below.refl _ _, ⟨rfl, rfl, rfl, Nat.le_refl _, fun _ _ _ => rfl⟩⟩
    rw [run_copy_none w 30 30 ty 5 _ q dl dc ys.length c under_u8s size5 h0, h0]
    rfl
  · have hd0 : dl ≠ 0 := fun e => h0 (by rw [e]; exact Nat.min_zero _)
    have hy0 : ys.length ≠ 0 := fun e => h0 (by rw [e]; exact Nat.zero_min _)
    obtain ⟨hx, ⟨rfl, rfl⟩ | ⟨b, rfl, hB, hrow⟩⟩ := hr
    · simp at hfit; omega
    · obtain ⟨hy, hyv⟩ := hq
      obtain ⟨qb, qo, rfl, hqc⟩ : ∃ b off, q = some ⟨b, off, none⟩ ∧ ∀ i, i < ys.length → w.cell? ⟨b, off + i, none⟩ = some (.int .u8 (ys.getD i 0)) := by
        rcases hyv with rfl | h
        · simp at hy0
        · exact h
      have hp : cutP (some ⟨b, 0, none⟩) cap i = some ⟨b, i, none⟩ := by
        unfold cutP
        split
        · rename_i e
          rcases hc e with h | h
          · omega
          · rw [h]
        · rw [Option.map_some, add_lit', Nat.zero_add]
      obtain ⟨cur, hg, hsz, hcur⟩ := hrow
      have hcl : cur.toList = rs.map (Value.int .u8) := by
        refine List.ext_getElem (by simp [hsz]) fun j h1 h2 => ?_
        have hj : j < rs.length := by simpa using h2
        have h3 := hcur j hj
        have h4 := bytes_list rs j hj
        rw [List.getElem?_eq_getElem h2] at h4
        rw [Array.getElem?_eq_getElem (by omega)] at h3
        simp only [Option.some.injEq] at h3 h4
        rw [Array.getElem_toList, h3, h4]
      obtain ⟨k, hk⟩ : ∃ k, Nat.min ys.length dl = k := ⟨_, rfl⟩
      have hk1 : k ≤ ys.length := by rw [← hk]; exact Nat.min_le_left _ _
      have hk2 : k ≤ dl := by rw [← hk]; exact Nat.min_le_right _ _
      obtain ⟨cs, hcs⟩ : ∃ cs, (ys.take k).map (Value.int .u8) = cs := ⟨_, rfl⟩
      have hlen : cs.length = k := by rw [← hcs]; simp; omega
      have hrun := run_copy_row (P := Try.prog) w 30 30 ty 5 b i dl dc ⟨qb, qo, none⟩ ys.length c cur 5 cs under_u8s size5 hg (by rw [hlen, hk]) (fun j v hv => by
        have hj : j < cs.length := by
          rcases Nat.lt_or_ge j cs.length with h | h
          · exact h
          · rw [List.getElem?_eq_none h] at hv; cases hv
        rw [add_lit', hqc j (by omega), ← hv, ← hcs, bytes_list _ j (by simp; omega), getD_take (by omega)]) (by omega) (fun v hv => by
        rw [← hcs] at hv
        obtain ⟨x, _, rfl⟩ := List.mem_map.1 hv
        rfl)
      have hsp : i + (ys.take k).length ≤ rs.length := by simp; omega
      refine ⟨_, by rw [hp, hk, hrun, hlen], ⟨hx.splice (InByte.take hy k) (by rw [hk] at *; exact hsp) |> fun h => by rw [hk]; exact h, .inr ⟨b, rfl, hB, ?_⟩⟩, below_setRow (Below.refl _ _) hB _, ⟨rfl, rfl, rfl, by simp [World.setRow], fun g _ hne => setRow_other w b g _ (fun e => hne (by rw [e]; rfl))⟩⟩
      rw [hk]
      have h5 := setRow_heap w b cur (cur.toList.take i ++ cs ++ cur.toList.drop (i + cs.length)).toArray 5 (0, 0) hg
      have h6 : (cur.toList.take i ++ cs ++ cur.toList.drop (i + cs.length)) = (splice rs i (ys.take k)).map (Value.int .u8) := by
        rw [splice_map, hcl, hcs]; simp [splice]
      rw [h6] at h5
      rw [hlen] at h6
      rw [h6]
      have h7 := rowIs_of_list h5 (f := fun j => .int .u8 ((splice rs i (ys.take k)).getD j 0)) (fun j hj => bytes_list _ j (by simpa using hj))
      rw [List.length_map] at h7
      exact h7

theorem wpList_copyR {ops : Array Oper} {rest : List Oper} {o : Oper} {a : Act} {w : World} {Q : Exit → Act → World → Prop} (hgd : o.guard = none) (d s : Operand)
    (ho : o.op = .call { callee := .builtin .copy, args := #[d, s], argTypes := #[30, 30] })
    (B : Nat) (p : Option Addr) (rs : List Int) (hr : RingAt w B p rs) (cap i dl dc : Nat) (hd : a.eval d = .slice (cutP p cap i) dl dc) (hfit : i + dl ≤ rs.length) (hc : cap = i → dl = 0 ∨ i = 0)
    (q : Option Addr) (m c : Nat) (ys : List Int) (hq : BytesAt w q ys) (hm : ys.length = m) (hs : a.eval s = .slice q m c) (k : Nat) (hk : Nat.min m dl = k)
    (h : ∀ w', Hid (RingAt w' B p (splice rs i (ys.take k))) → Hid (Below B w w') → Hid (w.grownBy w' (p.map (·.block))) → wpList Try.prog ops Q rest (a.put o.dst (.int .i64 (k : Int))) w') :
    wpList Try.prog ops Q (o :: rest) a w :=
  wpList_plain hgd fun K hK => by
    subst hm hk
    obtain ⟨w', hrun, h2, h3, h4⟩ := run_copyR w o.type B p rs hr cap i dl dc hfit hc q c ys hq
    unfold Oper.wp execOp
    simp only [ho, resolve, invoke, builtin, Sem.run_bind, Sem.run_pure, Result.andThen_ok, List.map_toArray, List.map_cons, List.map_nil, hd, hs, hrun]
    exact hK _ _ (h w' (Lib.hid h2) (Lib.hid h3) (Lib.hid h4))

theorem step_copyR {ops : Array Oper} {o : Oper} {a : Act} {w : World} {K : Act → World → Prop} {Q : Exit → Act → World → Prop} {E : Prop} (hgd : o.guard = none) (d s : Operand)
    (ho : o.op = .call { callee := .builtin .copy, args := #[d, s], argTypes := #[30, 30] })
    (B : Nat) (p : Option Addr) (rs : List Int) (hr : RingAt w B p rs) (cap i dl dc : Nat) (hd : a.eval d = .slice (cutP p cap i) dl dc) (hfit : i + dl ≤ rs.length) (hc : cap = i → dl = 0 ∨ i = 0)
    (q : Option Addr) (m c : Nat) (ys : List Int) (hq : BytesAt w q ys) (hm : ys.length = m) (hs : a.eval s = .slice q m c) (k : Nat) (hk : Nat.min m dl = k)
    (h : ∀ w', Hid (RingAt w' B p (splice rs i (ys.take k))) → Hid (Below B w w') → Hid (w.grownBy w' (p.map (·.block))) → K (a.put o.dst (.int .i64 (k : Int))) w') :
    if Region.wanted o (yielded ops a.tmps) = true then Oper.wp Try.prog o a w K Q else E := by
  have hw : Region.wanted o (yielded ops a.tmps) = true := by simp [Region.wanted, hgd]
  rw [if_pos hw]
  subst hm hk
  obtain ⟨w', hrun, h2, h3, h4⟩ := run_copyR w o.type B p rs hr cap i dl dc hfit hc q c ys hq
  unfold Oper.wp execOp
  simp only [ho, resolve, invoke, builtin, Sem.run_bind, Sem.run_pure, Result.andThen_ok, List.map_toArray, List.map_cons, List.map_nil, hd, hs, hrun]
  exact h w' (Lib.hid h2) (Lib.hid h3) (Lib.hid h4)

/-- What is in a ring: xs, from f on, and on from its beginning. -/
def Cont (rs xs : List Int) (f : Nat) : Prop := ∀ i, i < xs.length → xs.getD i 0 = rs.getD (if f + i < rs.length then f + i else f + i - rs.length) 0
def placeN (L f n : Nat) : Nat := if f + n < L then f + n else f + n - L

/-- A queue of so much room, of which xs waits; its ring lies at p. -/
def QuR (w : World) (g : Nat) (room : Nat) (xs : List Int) (p : Option Addr) (rs : List Int) (f : Nat) : Prop :=
  Blk w g 44 [.int .i64 room, .slice p rs.length rs.length, .int .i64 (f : Nat), .int .i64 xs.length] ∧ RingAt w (g + 1) p rs ∧ xs.length ≤ rs.length ∧ rs.length ≤ room ∧ room ≤ 65536 ∧ (f < rs.length ∨ rs.length = 0 ∧ f = 0) ∧ Cont rs xs f
def QuP (w : World) (g : Nat) (room : Nat) (xs : List Int) (p : Option Addr) : Prop := ∃ rs f, QuR w g room xs p rs f
/-- What a call of a queue may turn: the queue, its ring, and what is new. -/
structure QuK (w w' : World) (g : Nat) (p p' : Option Addr) : Prop where
  below : Below g w w'
  keep : ∀ b, b < w.heap.size → b ≠ g → p.map (·.block) ≠ some b → w'.heap[b]? = w.heap[b]?
  new : p'.map (·.block) = p.map (·.block) ∨ ∀ b, p'.map (·.block) = some b → w.heap.size ≤ b
theorem QuK.refl (w : World) (g : Nat) (p : Option Addr) : QuK w w g p p := ⟨Below.refl _ _, fun _ _ _ _ => rfl, .inl rfl⟩
theorem QuK.of_below {w w' : World} {g : Nat} {p : Option Addr} (h : Below w.heap.size w w') (hg : g ≤ w.heap.size) : QuK w w' g p p := ⟨h.mono hg, fun b hb _ _ => h.block b hb, .inl rfl⟩
theorem QuK.trans {w w1 w2 : World} {g : Nat} {p p1 p2 : Option Addr} (h : QuK w w1 g p p1) (k : QuK w1 w2 g p1 p2) : QuK w w2 g p p2 := by
  refine ⟨h.below.trans k.below, fun b hb h1 h2 => ?_, ?_⟩
  · rw [k.keep b (Nat.lt_of_lt_of_le hb h.below.size) h1 ?_, h.keep b hb h1 h2]
    rcases h.new with e | e
    · rw [e]; exact h2
    · intro e2; have := e b e2; omega
  · rcases k.new with e | e
    · rw [e]; exact h.new
    · right
      intro b hb
      have := e b hb
      have := h.below.size
      omega
theorem QuP.lt {w : World} {g room : Nat} {xs : List Int} {p : Option Addr} (h : QuP w g room xs p) : g < w.heap.size := by
  obtain ⟨rs, f, h1, _⟩ := h
  exact h1.lt
theorem QuP.of_same {w w' : World} {g room : Nat} {xs : List Int} {p : Option Addr} (h : QuP w g room xs p) (hb : ∀ b, b < w.heap.size → b = g ∨ p.map (·.block) = some b → w'.heap[b]? = w.heap[b]?) : QuP w' g room xs p := by
  obtain ⟨rs, f, h1, h2, h3⟩ := h
  exact ⟨rs, f, h1.of_same (hb g h1.lt (.inl rfl)), h2.of_block fun b hp => hb b (h2.block_lt hp).2 (.inr hp), h3⟩
theorem QuP.next {w w' : World} {g room : Nat} {xs : List Int} {p : Option Addr} (h : QuP w g room xs p) (hb : Below w.heap.size w w') : QuP w' g room xs p :=
  h.of_same fun b hl _ => hb.block b hl
theorem QuP.ring_lt {w : World} {g room : Nat} {xs : List Int} {p : Option Addr} (h : QuP w g room xs p) {b : Nat} (hb : p.map (·.block) = some b) : g < b ∧ b < w.heap.size := by
  obtain ⟨rs, f, h1, h2, _⟩ := h
  exact h2.block_lt hb
theorem QuP.size {w : World} {g room : Nat} {xs : List Int} {p : Option Addr} (h : QuP w g room xs p) : xs.length ≤ room ∧ room ≤ 65536 := by
  obtain ⟨rs, f, _, _, h3, h4, h5, _⟩ := h
  exact ⟨by omega, h5⟩
theorem QuP.byte {w : World} {g room : Nat} {xs : List Int} {p : Option Addr} (h : QuP w g room xs p) : InByte xs := by
  obtain ⟨rs, f, _, h2, h3, _, _, h6, h7⟩ := h
  intro i hi
  rw [h7 i hi]
  refine h2.1 _ ?_
  split
  · assumption
  · omega

/-! In lists: what is read, what is put. -/
theorem cont_read {rs xs ds : List Int} {f m k : Nat} (h : Cont rs xs f) (hx : xs.length ≤ rs.length) (hf : f < rs.length ∨ rs.length = 0 ∧ f = 0) (hm : m ≤ xs.length) (hd : m ≤ ds.length) (hk : Nat.min (rs.length - f) m = k) :
    splice (splice ds 0 ((rs.drop f).take k)) k (rs.take (m - k)) = splice ds 0 (xs.take m) := by
  have hk' : k = min (rs.length - f) m := hk.symm
  have l1 : ((rs.drop f).take k).length = k := by simp; omega
  have l2 : (rs.take (m - k)).length = m - k := by simp; omega
  have l3 : (xs.take m).length = m := by simp; omega
  have e1 : (splice ds 0 ((rs.drop f).take k)).length = ds.length := length_splice _ _ _ (by omega)
  have e2 : (splice (splice ds 0 ((rs.drop f).take k)) k (rs.take (m - k))).length = ds.length := by rw [length_splice _ _ _ (by omega), e1]
  have e3 : (splice ds 0 (xs.take m)).length = ds.length := length_splice _ _ _ (by omega)
  refine ext_getD (by rw [e2, e3]) fun i hi => ?_
  rw [getD_splice (by omega), getD_splice (by omega), getD_splice (by omega), l1, l2, l3]
  simp only [Nat.not_lt_zero, if_false, Nat.zero_add, Nat.sub_zero]
  by_cases h1 : i < k
  · rw [if_pos h1, if_pos h1, if_pos (show i < m by omega), getD_take h1, getD_take (by omega), getD_drop, h i (by omega), if_pos (by omega)]
  · rw [if_neg h1]
    by_cases h2 : i < k + (m - k)
    · rw [if_pos h2, if_pos (show i < m by omega), getD_take (by omega), getD_take (by omega), h i (by omega), if_neg (by omega)]
      congr 1; omega
    · rw [if_neg h2, if_neg h1, if_neg (show ¬ i < m by omega)]

theorem cont_put {rs xs ys : List Int} {f k : Nat} (h : Cont rs xs f) (hf : f < rs.length ∨ rs.length = 0 ∧ f = 0) (hx : xs.length + ys.length ≤ rs.length) (hk : Nat.min ys.length (rs.length - placeN rs.length f xs.length) = k) :
    Cont (splice (splice rs (placeN rs.length f xs.length) (ys.take k)) 0 (ys.drop k)) (xs ++ ys) f ∧ (splice (splice rs (placeN rs.length f xs.length) (ys.take k)) 0 (ys.drop k)).length = rs.length := by
  have hk' : k = min ys.length (rs.length - placeN rs.length f xs.length) := hk.symm
  obtain ⟨p, hp⟩ : ∃ p, placeN rs.length f xs.length = p := ⟨_, rfl⟩
  have hp' := hp
  unfold placeN at hp'
  rw [hp] at hk' ⊢
  have hpl : p ≤ rs.length := by split at hp' <;> omega
  have l1 : (ys.take k).length = k := by simp; omega
  have l2 : (ys.drop k).length = ys.length - k := by simp
  have e1 : (splice rs p (ys.take k)).length = rs.length := length_splice _ _ _ (by omega)
  have e2 : (splice (splice rs p (ys.take k)) 0 (ys.drop k)).length = rs.length := by rw [length_splice _ _ _ (by omega), e1]
  refine ⟨fun i hi => ?_, e2⟩
  rw [List.length_append] at hi
  rw [e2, getD_splice (by omega), getD_splice (by omega), l1, l2]
  simp only [Nat.not_lt_zero, if_false, Nat.zero_add, Nat.sub_zero]
  by_cases h1 : i < xs.length
  · rw [getD_append_lt h1, h i h1]
    by_cases c : f + i < rs.length
    · rw [if_pos c]
      split at hp'
      · rw [if_neg (by omega), if_pos (by omega)]
      · rw [if_neg (by omega)]
        by_cases c2 : f + i < p
        · omega
        · rw [if_neg c2, if_neg (by omega)]
    · rw [if_neg c]
      split at hp'
      · omega
      · rw [if_neg (by omega), if_pos (by omega)]
  · rw [getD_append_ge (by omega)]
    by_cases c : f + i < rs.length
    · rw [if_pos c]
      split at hp'
      · rw [if_neg (by omega), if_neg (by omega), if_pos (by omega), getD_take (by omega)]
        congr 1; omega
      · omega
    · rw [if_neg c]
      split at hp'
      · by_cases c2 : f + i - rs.length < ys.length - k
        · rw [if_pos c2, getD_drop]
          congr 1; omega
        · omega
      · rw [if_neg (by omega), if_neg (by omega), if_pos (by omega), getD_take (by omega)]
        congr 1; omega
theorem cont_take {rs xs : List Int} {f n : Nat} (h : Cont rs xs f) (hx : xs.length ≤ rs.length) (hf : f < rs.length ∨ rs.length = 0 ∧ f = 0) (hn : n ≤ xs.length) :
    Cont rs (xs.drop n) (placeN rs.length f n) ∧ (placeN rs.length f n < rs.length ∨ rs.length = 0 ∧ placeN rs.length f n = 0) := by
  unfold placeN
  refine ⟨fun i hi => ?_, by split <;> omega⟩
  simp at hi
  rw [getD_drop, h (n + i) (by omega)]
  split <;> split <;> (try split) <;> first | omega | (congr 1; omega)
theorem cont_grow {xs ds : List Int} (hd : xs.length ≤ ds.length) : Cont (splice ds 0 xs) xs 0 ∧ (splice ds 0 xs).length = ds.length := by
  have e := length_splice ds 0 xs (by omega)
  refine ⟨fun i hi => ?_, e⟩
  rw [Nat.zero_add, e, if_pos (by omega), getD_splice (by omega)]
  simp [hi]
end Go.Proofs.Ytbgofccnhehodaa
