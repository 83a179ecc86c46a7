/- Bytes of one's own, wherever in their block they begin: append of whatever bytes, in a walk and in a region that draws; as a text. -/
import Derived.Test.YtljbebeaahcjaaaAK
import Derived.Deep.Upon
import Derived.Deep.MidRow
import Derived.Lib.SlBuf
namespace Go.Proofs.Ytljbebeaahcjaaa
open Go.RowKit

/-- A slice of bytes that the call made: xs, in a block from B on, all its room there and not frozen; or nil. -/
structure Own (w : World) (B : Nat) (p : Option Addr) (cap : Nat) (xs : List Int) : Prop where
  byte : InByte xs
  le : xs.length ≤ cap
  max : cap ≤ maxLen
  val : (p = none ∧ cap = 0) ∨ ∃ g off, p = some ⟨g, off, none⟩ ∧ B ≤ g ∧ g < w.heap.size ∧ (∀ j, j < xs.length → w.cell? ⟨g, off + j, none⟩ = some (.int .u8 (xs.getD j 0))) ∧ (∀ j, j < cap → (w.cell? ⟨g, off + j, none⟩).isSome = true ∧ w.frozen? ⟨g, off + j, none⟩ = false)

theorem Own.nil (w : World) (B : Nat) : Own w B none 0 [] := ⟨fun i hi => by simp at hi, Nat.le_refl _, by unfold maxLen; omega, .inl ⟨rfl, rfl⟩⟩
theorem Own.bytes {w : World} {B : Nat} {p : Option Addr} {cap : Nat} {xs : List Int} (h : Own w B p cap xs) : BytesAt w p xs := by
  refine ⟨h.byte, ?_⟩
  rcases h.val with ⟨rfl, h0⟩ | ⟨g, off, rfl, _, _, hc, _⟩
  · left
    have := h.le
    exact List.eq_nil_of_length_eq_zero (by omega)
  · exact .inr ⟨g, off, rfl, hc⟩
theorem Own.mono {w : World} {B B' : Nat} {p : Option Addr} {cap : Nat} {xs : List Int} (h : Own w B p cap xs) (hB : B' ≤ B) : Own w B' p cap xs :=
  ⟨h.byte, h.le, h.max, h.val.imp id fun ⟨g, off, hp, hg, hr⟩ => ⟨g, off, hp, Nat.le_trans hB hg, hr⟩⟩
/-- It hangs on its own block alone. -/
theorem Own.of_block {w w' : World} {B : Nat} {p : Option Addr} {cap : Nat} {xs : List Int} (h : Own w B p cap xs) (hs : w.heap.size ≤ w'.heap.size) (hb : ∀ g, p.map (·.block) = some g → w'.heap[g]? = w.heap[g]?) : Own w' B p cap xs := by
  refine ⟨h.byte, h.le, h.max, h.val.imp id ?_⟩
  rintro ⟨g, off, rfl, hg, hlt, hc, ht⟩
  have e := hb g rfl
  exact ⟨g, off, rfl, hg, by omega, fun j hj => (World.cell?_of_block (w := w) (a := ⟨g, off + j, none⟩) e).trans (hc j hj), fun j hj => ⟨by rw [World.cell?_of_block (w := w) (w' := w') (a := ⟨g, off + j, none⟩) e]; exact (ht j hj).1, by rw [World.frozen?_of_block (w := w) (w' := w') (a := ⟨g, off + j, none⟩) e]; exact (ht j hj).2⟩⟩
theorem Own.block_lt {w : World} {B : Nat} {p : Option Addr} {cap : Nat} {xs : List Int} (h : Own w B p cap xs) {g : Nat} (hg : p.map (·.block) = some g) : B ≤ g ∧ g < w.heap.size := by
  rcases h.val with ⟨rfl, _⟩ | ⟨g', off, rfl, hb, hlt, _⟩
  · cases hg
  · obtain rfl : g' = g := by simpa using hg
    exact ⟨hb, hlt⟩
theorem Own.below {w w' : World} {B : Nat} {p : Option Addr} {cap : Nat} {xs : List Int} (h : Own w B p cap xs) (hb : Below w.heap.size w w') : Own w' B p cap xs :=
  h.of_block hb.size fun g hg => hb.block g (h.block_lt hg).2
theorem Own.alloc {w : World} {B : Nat} {p : Option Addr} {cap : Nat} {xs : List Int} (h : Own w B p cap xs) (o : Obj) : Own (w.alloc o) B p cap xs :=
  h.below ((Below.refl _ _).alloc (Nat.le_refl _) _)
theorem Own.drew {w : World} {B : Nat} {p : Option Addr} {cap : Nat} {xs : List Int} (h : Own w B p cap xs) : Own w.drew B p cap xs :=
  h.below (Below.refl _ _).drew
theorem Own.grown {w w' : World} {B : Nat} {p : Option Addr} {cap : Nat} {xs : List Int} {row : Option Nat} (h : Own w B p cap xs) (hg : w.grownBy w' row) (hne : p.map (·.block) = none ∨ p.map (·.block) ≠ row) : Own w' B p cap xs :=
  h.of_block hg.size fun g hp => hg.block g (h.block_lt hp).2 (by rw [← hp]; rcases hne with h' | h'; · rw [h'] at hp; cases hp
                                                                  · exact h')
theorem Own.setCell {w : World} {B : Nat} {p : Option Addr} {cap : Nat} {xs : List Int} (h : Own w B p cap xs) (a : Addr) (v : Value) (hne : p.map (·.block) ≠ some a.block) : Own (w.setCell a v) B p cap xs :=
  h.of_block (by simp [World.setCell]) fun g hg => Below.heap_setCell _ _ _ _ (by intro e; rw [hg, e] at hne; exact hne rfl)
/-- A piece of it. -/
theorem Own.cut {w : World} {B : Nat} {g off cap : Nat} {xs : List Int} (h : Own w B (some ⟨g, off, none⟩) cap xs) (k : Nat) (hk : k ≤ xs.length) : Own w B (some ⟨g, off + k, none⟩) (cap - k) (xs.drop k) := by
  obtain ⟨hx, hle, hm, hv⟩ := h
  refine ⟨fun i hi => ?_, by simp; omega, by omega, .inr ?_⟩
  · have := hx (k + i) (by simp at hi; omega)
    simpa [List.getD, List.getElem?_drop] using this
  · rcases hv with ⟨h0, _⟩ | ⟨g', off', hp, hb, hlt, hc, ht⟩
    · cases h0
    · obtain ⟨rfl, rfl⟩ : g = g' ∧ off = off' := by simpa using hp
      refine ⟨g, off + k, rfl, hb, hlt, fun j hj => ?_, fun j hj => ?_⟩
      · rw [Nat.add_assoc, hc (k + j) (by simp at hj; omega)]
        simp [List.getD, List.getElem?_drop]
      · rw [Nat.add_assoc]; exact ht (k + j) (by omega)

theorem info5q : ∃ i : TypeInfo, Try.prog.info? 5 = some i ∧ i.zero = some (.int .u8 0) ∧ i.size = 1 ∧ i.bytes = 1 := by
  have h := info5
  rcases hi : Try.prog.info? 5 with _ | i
  · rw [hi] at h; cases h
  · rw [hi] at h
    simp only [Option.map_some, Option.some.injEq, Prod.mk.injEq] at h
    exact ⟨i, rfl, h.1, h.2.1, h.2.2⟩

theorem getD_append_lt {xs ys : List Int} {j : Nat} (h : j < xs.length) : (xs ++ ys).getD j 0 = xs.getD j 0 := by
  simp [List.getD, List.getElem?_append_left h]
theorem getD_append_ge {xs ys : List Int} {j : Nat} (h : xs.length ≤ j) : (xs ++ ys).getD j 0 = ys.getD (j - xs.length) 0 := by
  simp [List.getD, List.getElem?_append_right h]
theorem InByte.append {xs ys : List Int} (hx : InByte xs) (hy : InByte ys) : InByte (xs ++ ys) := fun i hi => by
  rcases Nat.lt_or_ge i xs.length with h | h
  · rw [getD_append_lt h]; exact hx i h
  · rw [getD_append_ge h]; exact hy _ (by simp at hi; omega)

theorem add_lit' (b off j : Nat) : (⟨b, off, none⟩ : Addr).add j = ⟨b, off + j, none⟩ := by unfold Addr.add; split <;> simp_all

/-- Behind the law: the bytes are there, and below B nothing has turned. -/
theorem Own.next {w w' : World} {B : Nat} {p : Option Addr} {cap : Nat} {xs : List Int} (h : Own w B p cap xs) (hg : w.grownBy w' (p.map (·.block))) (hB : B ≤ w.heap.size) : Below B w w' :=
  (Below.refl B w).grown hg hB fun _ hk => (h.block_lt hk).1

theorem Own.made (w : World) (B n : Nat) (h : n ≤ maxLen) (hB : B ≤ w.heap.size) : Own (w.alloc (.cells (madeCells #[.int .u8 0] n) 5)) B (some ⟨w.heap.size, 0, none⟩) n [] := by
  have hrow := World.rowIs_made w (.int .u8 0) n 5
  refine ⟨fun i hi => by simp at hi, Nat.zero_le _, h, .inr ⟨w.heap.size, 0, rfl, hB, hrow.lt, fun j hj => by simp at hj, fun j hj => ?_⟩⟩
  rw [Nat.zero_add]
  exact ⟨by rw [hrow.cell hj]; rfl, hrow.frozen j⟩
theorem Own.of_row {w : World} {B g : Nat} {xs : List Int} (h : BRow w g xs) (hx : InByte xs) (hm : xs.length ≤ maxLen) (hB : B ≤ g) : Own w B (some ⟨g, 0, none⟩) xs.length xs :=
  ⟨hx, Nat.le_refl _, hm, .inr ⟨g, 0, rfl, hB, World.rowIs.lt h, fun j hj => by rw [Nat.zero_add]; exact World.rowIs.cell h hj, fun j hj => by
    rw [Nat.zero_add]; exact ⟨by rw [World.rowIs.cell h hj]; rfl, World.rowIs.frozen h j⟩⟩⟩
/-- []byte{..} of values that are known. -/
theorem brow_new (w : World) (xs : List Int) : BRow (w.alloc (.cells (xs.map (Value.int .u8)).toArray 5)) w.heap.size xs := by
  have := World.rowIs_alloc w (xs.map (Value.int .u8)).toArray 5 (fun j => .int .u8 (xs.getD j 0)) (fun i hi => by
    rw [List.getElem?_toArray]; exact bytes_list xs i (by simpa using hi))
  simpa [BRow] using this
theorem Own.lit (w : World) (B : Nat) (xs : List Int) (hx : InByte xs) (hm : xs.length ≤ 1000) (hB : B ≤ w.heap.size) : Own (w.alloc (.cells (xs.map (Value.int .u8)).toArray 5)) B (some ⟨w.heap.size, 0, none⟩) xs.length xs :=
  Own.of_row (brow_new w xs) hx (by unfold maxLen; omega) hB
theorem one_byte (w : World) (x : Int) (h0 : 0 ≤ x) (h1 : x ≤ 255) : BytesAt (w.alloc (.cells #[.int .u8 x] 5)) (some ⟨w.heap.size, 0, none⟩) [x] :=
  (brow_new w [x]).bytes (inByte_all fun y hy => by simp at hy; omega)
theorem sz_alloc (w : World) (o : Obj) : (w.alloc o).heap.size = w.heap.size + 1 := by simp
theorem BytesAt.nil (w : World) (p : Option Addr) : BytesAt w p [] := ⟨fun i hi => by simp at hi, .inl rfl⟩
theorem BytesAt.alloc {w : World} {p : Option Addr} {xs : List Int} (h : BytesAt w p xs) (o : Obj) : BytesAt (w.alloc o) p xs := h.below ((Below.refl _ _).alloc (Nat.le_refl _) _)
theorem BytesAt.drew {w : World} {p : Option Addr} {xs : List Int} (h : BytesAt w p xs) : BytesAt w.drew p xs := h.below (Below.refl _ _).drew

theorem Own.setBelow {w : World} {B : Nat} {p : Option Addr} {cap : Nat} {xs : List Int} (h : Own w B p cap xs) {a : Addr} (ha : a.block < B) (v : Value) : Own (w.setCell a v) B p cap xs :=
  h.of_block (by simp [World.setCell]) fun g hg => Below.heap_setCell _ _ _ _ (by have := (h.block_lt hg).1; omega)
theorem kept {W w2 : World} {p : Addr} {v : Value} (hb : Below W.heap.size W w2) (h : W.cell? p = some v) : w2.cell? p = some v := (hb.cell (World.block_lt_of_cell? W p h)).trans h
/-- A block of the call's own, known whole. -/
def Blk (w : World) (g : Nat) (t : TypeId) (vs : List Value) : Prop := w.rowIs g t vs.length (fun j => vs.getD j undef)
theorem Blk.new (w : World) (t : TypeId) (vs : List Value) : Blk (w.alloc (.cells vs.toArray t)) w.heap.size t vs := by
  have := World.rowIs_alloc w vs.toArray t (fun j => vs.getD j undef) (fun i hi => by simp at hi; simp [hi])
  simpa [Blk] using this
theorem Blk.cell {w : World} {g : Nat} {t : TypeId} {vs : List Value} (h : Blk w g t vs) (i : Nat) (hi : i < vs.length) : w.cell? ⟨g, i, none⟩ = some (vs.getD i undef) := World.rowIs.cell h hi
theorem Blk.f {w : World} {g : Nat} {t : TypeId} {vs : List Value} (h : Blk w g t vs) (i : Nat) : w.frozen? ⟨g, i, none⟩ = false := World.rowIs.frozen h i
theorem Blk.lt {w : World} {g : Nat} {t : TypeId} {vs : List Value} (h : Blk w g t vs) : g < w.heap.size := World.rowIs.lt h
theorem Blk.alloc {w : World} {g : Nat} {t : TypeId} {vs : List Value} (h : Blk w g t vs) (o : Obj) : Blk (w.alloc o) g t vs := World.rowIs.alloc h o
theorem Blk.drew {w : World} {g : Nat} {t : TypeId} {vs : List Value} (h : Blk w g t vs) : Blk w.drew g t vs := h
theorem Blk.set {w : World} {g : Nat} {t : TypeId} {vs : List Value} (h : Blk w g t vs) (i : Nat) (v : Value) : Blk (w.setCell ⟨g, i, none⟩ v) g t (vs.set i v) := by
  unfold Blk
  rw [List.length_set]
  refine World.rowIs.congr (World.rowIs.set h i v) (fun j hj => ?_)
  by_cases e : j = i
  · subst e; simp [List.getD, hj]
  · simp [List.getD, e, List.getElem?_set_ne (Ne.symm e)]
theorem Blk.setOther {w : World} {g : Nat} {t : TypeId} {vs : List Value} (h : Blk w g t vs) {a : Addr} (ha : g ≠ a.block) (v : Value) : Blk (w.setCell a v) g t vs := World.rowIs.setOther h ha v
theorem Blk.below {w w' : World} {B g : Nat} {t : TypeId} {vs : List Value} (h : Blk w g t vs) (hb : Below B w w') (hg : g < B) : Blk w' g t vs := World.rowIs.of_block h (hb.block _ hg)
theorem two_below (w : World) (o1 o2 : Obj) : Below w.heap.size w ((w.alloc o1).alloc o2) := ((Below.refl _ _).alloc (Nat.le_refl _) _).alloc (by simp) _
theorem Blk.of_same {w w' : World} {g : Nat} {t : TypeId} {vs : List Value} (h : Blk w g t vs) (hb : w'.heap[g]? = w.heap[g]?) : Blk w' g t vs := World.rowIs.of_block h hb
theorem Blk.next {w w' : World} {g : Nat} {t : TypeId} {vs : List Value} (h : Blk w g t vs) (hb : Below w.heap.size w w') : Blk w' g t vs := h.below hb h.lt

/-! A piece of a slice: s[i:j], s[i:], s[:j]. -/
def cutP (p : Option Addr) (cap i : Nat) : Option Addr := if cap = i then p else p.map (·.add i)
theorem sliced_cut (p : Option Addr) (i j cap : Nat) : sliced p i j cap 1 = .slice (cutP p cap i) (j - i) (cap - i) := by
  unfold sliced cutP
  simp
theorem cutP_block (p : Option Addr) (cap i : Nat) : (cutP p cap i).map (·.block) = p.map (·.block) := by
  unfold cutP; split
  · rfl
  · cases p
    · rfl
    · simp only [Option.map_some]; unfold Addr.add; split <;> rfl
theorem BytesAt.cutl {w : World} {p : Option Addr} {xs : List Int} (h : BytesAt w p xs) (cap i : Nat) (hi : i ≤ xs.length) (hc : xs.length ≤ cap) : BytesAt w (cutP p cap i) (xs.drop i) := by
  obtain ⟨hx, h⟩ := h
  refine ⟨fun k hk => ?_, ?_⟩
  · have := hx (i + k) (by simp at hk; omega)
    simpa [List.getD, List.getElem?_drop] using this
  · by_cases e : i = xs.length
    · left; rw [e]; simp
    · right
      rcases h with rfl | ⟨b, off, rfl, hcl⟩
      · simp at hi; simp [hi] at e
      · refine ⟨b, off + i, ?_, fun k hk => ?_⟩
        · unfold cutP; rw [if_neg (by omega), Option.map_some, add_lit']
        · rw [Nat.add_assoc, hcl (i + k) (by simp at hk; omega)]
          simp [List.getD, List.getElem?_drop]
theorem BytesAt.take {w : World} {p : Option Addr} {xs : List Int} (h : BytesAt w p xs) (j : Nat) : BytesAt w p (xs.take j) := by
  obtain ⟨hx, h⟩ := h
  have e : ∀ k, k < (xs.take j).length → (xs.take j).getD k 0 = xs.getD k 0 := fun k hk => by
    have : k < j := by simp at hk; omega
    simp [List.getD, List.getElem?_take_of_lt this]
  refine ⟨fun k hk => ?_, ?_⟩
  · rw [e k hk]; exact hx k (by simp at hk; omega)
  · rcases h with rfl | ⟨b, off, rfl, hcl⟩
    · left; simp
    · exact .inr ⟨b, off, rfl, fun k hk => by rw [e k hk]; exact hcl k (by simp at hk; omega)⟩
theorem BytesAt.cut {w : World} {p : Option Addr} {xs : List Int} (h : BytesAt w p xs) (cap i j : Nat) (hij : i ≤ j) (hj : j ≤ xs.length) (hc : xs.length ≤ cap) : BytesAt w (cutP p cap i) ((xs.take j).drop i) :=
  (h.take j).cutl cap i (by simp; omega) (by simp; omega)
theorem Own.cutl {w : World} {B : Nat} {p : Option Addr} {cap : Nat} {xs : List Int} (h : Own w B p cap xs) (i : Nat) (hi : i ≤ xs.length) : Own w B (cutP p cap i) (cap - i) (xs.drop i) := by
  have hle := h.le
  rcases hv : h.val with ⟨rfl, rfl⟩ | ⟨g, off, rfl, _⟩
  · obtain rfl : xs = [] := List.eq_nil_of_length_eq_zero (by omega)
    obtain rfl : i = 0 := by simpa using hi
    exact Own.nil w B
  · unfold cutP
    split
    · rename_i e
      subst e
      have := h.cut xs.length (Nat.le_refl _)
      obtain rfl : cap = xs.length := by omega
      obtain ⟨hx, h1, h2, _⟩ := this
      exact ⟨hx, h1, h2, .inr ⟨g, off, rfl, (h.block_lt rfl).1, (h.block_lt rfl).2, fun j hj => by simp at hj, fun j hj => by omega⟩⟩
    · rw [Option.map_some, add_lit']
      exact h.cut i hi
end Go.Proofs.Ytljbebeaahcjaaa
