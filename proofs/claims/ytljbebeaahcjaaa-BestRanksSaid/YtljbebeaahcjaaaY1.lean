/- Maps by tables; lists of any kind of elements of a few cells each. -/
import Derived.Test.YtljbebeaahcjaaaByA
import Derived.Maps.Own
import Derived.Maps.OwnSet
import Derived.Maps.OwnOps
import Derived.Maps.RangeWalk
import Derived.Laws.AppendOwn
import Derived.Deep.AppendSrc
namespace Go.Proofs.Ytljbebeaahcjaaa
open Go.RowKit Go.Maps
set_option linter.unusedVariables false
set_option linter.unusedSimpArgs false

/-- A kind of keys. -/
structure KeyC (k : TypeId) {κ : Type} (v : κ → Value) (l : κ → Lit) (ok : κ → Prop) : Prop where
  keyed : Keyed Try.prog k
  key : ∀ x, ok x → keyOf Try.prog k (v x) = some (l x)
  isKey : ∀ x, WideAt.IsKeyLit (l x)
  inj : ∀ x y, ok x → ok y → l x = l y → x = y
/-- A kind of elements. -/
structure ElC (e : TypeId) {α : Type} (R : Value → Option (DataW Unit × List MemPlace)) (v : α → Value) (d : α → DataW Unit) (ok : α → Prop) (zero : α) : Prop where
  made : ∀ a, ok a → R (v a) = some (d a, [])
  inv : ∀ x z, R x = some z → ∃ a, ok a ∧ x = v a ∧ z = (d a, [])
  inj : ∀ a b, d a = d b → a = b
  zok : ok zero
  zrun : ∀ w, (zeroValue e).run Try.prog w = .ok (v zero) w
/-- Block b is a map of s entries, of at most n by its making, that reads as f. -/
def MapAt {k e : TypeId} {κ α : Type} {kv : κ → Value} {kl : κ → Lit} {kok : κ → Prop} {R : Value → Option (DataW Unit × List MemPlace)} {ev : α → Value} {d : α → DataW Unit} {eok : α → Prop} {zero : α} (C : KeyC k kv kl kok) (E : ElC e R ev d eok zero) (w : World) (b n s : Nat) (f : κ → Option α) : Prop :=
  ∃ D, w.ownsMap Try.prog k R b n D ∧ Maps.size D = s ∧ ∀ x, kok x → Maps.has D (kl x) = (f x).isSome ∧ D.atKey (kl x) (d zero) = d ((f x).getD zero)
section
variable {k e : TypeId} {κ α : Type} {kv : κ → Value} {kl : κ → Lit} {kok : κ → Prop} {R : Value → Option (DataW Unit × List MemPlace)} {ev : α → Value} {d : α → DataW Unit} {eok : α → Prop} {zero : α} {C : KeyC k kv kl kok} {E : ElC e R ev d eok zero} {w w' : World} {b n s : Nat} {f : κ → Option α}
theorem MapAt.fresh (C : KeyC k kv kl kok) (E : ElC e R ev d eok zero) (w : World) : MapAt C E (w.alloc (.map #[] 0)) w.heap.size 0 0 (fun _ => none) :=
  ⟨.map [], World.ownsMap_made w _ k R, rfl, fun _ _ => ⟨rfl, rfl⟩⟩
theorem MapAt.heap (h : MapAt C E w b n s f) : ∃ es c, w.heap[b]? = some (.map es c) := by
  obtain ⟨D, ⟨es, c, hb, _⟩, _⟩ := h
  exact ⟨es, c, hb⟩
theorem MapAt.of_same (h : MapAt C E w b n s f) (e : w'.heap[b]? = w.heap[b]?) : MapAt C E w' b n s f := by
  obtain ⟨D, ⟨es, c, hb, r⟩, h2⟩ := h
  exact ⟨D, ⟨es, c, e.trans hb, r⟩, h2⟩
theorem MapAt.lt (h : MapAt C E w b n s f) : b < w.heap.size := by
  obtain ⟨D, h1, _⟩ := h
  exact h1.lt
theorem MapAt.next (h : MapAt C E w b n s f) (hb : Below w.heap.size w w') : MapAt C E w' b n s f := h.of_same (hb.block _ h.lt)
theorem MapAt.grown {row : Option Nat} (h : MapAt C E w b n s f) (hg : w.grownBy w' row) (hne : some b ≠ row) : MapAt C E w' b n s f := h.of_same (hg.block _ h.lt hne)
theorem MapAt.drew (h : MapAt C E w b n s f) : MapAt C E w.drew b n s f := h
theorem MapAt.alloc (h : MapAt C E w b n s f) (o : Obj) : MapAt C E (w.alloc o) b n s f := h.grown (World.grownBy_alloc w o none) (by simp)
theorem MapAt.notBlk (h : MapAt C E w b n s f) {g : Nat} {t : TypeId} {vs : List Value} (hb : Blk w g t vs) : g ≠ b := fun e => by
  subst e
  obtain ⟨es, c, hm⟩ := h.heap
  obtain ⟨cs, hc, _⟩ := hb
  rw [hm] at hc
  cases hc
theorem MapAt.tidy (h : MapAt C E w b n s f) : ∃ D, w.ownsMap Try.prog k R b n D ∧ Maps.size D = s ∧ Tidy D := by
  obtain ⟨D, h1, h2, _⟩ := h
  exact ⟨D, h1, h2, h1.tidy C.keyed⟩
theorem MapAt.ext {g : κ → Option α} (h : MapAt C E w b n s f) (hfg : ∀ x, kok x → f x = g x) : MapAt C E w b n s g := by
  obtain ⟨D, h1, h2, h3⟩ := h
  exact ⟨D, h1, h2, fun x hx => by rw [← hfg x hx]; exact h3 x hx⟩
theorem MapAt.more {n' : Nat} (h : MapAt C E w b n s f) (hn : n ≤ n') : MapAt C E w b n' s f := by
  obtain ⟨D, h1, h2⟩ := h
  exact ⟨D, h1.mono hn, h2⟩
/-- 'v, ok := m[x]'. -/
theorem MapAt.look_ok {t : TypeId} (h : MapAt C E w b n s f) (ht : Try.prog.underlying t = some (.map k e)) {x : κ} (hx : kok x) :
    (Instr.lookup t (.map (some b)) (kv x) true).run Try.prog w = .ok (.tuple #[ev ((f x).getD zero), .bool (f x).isSome]) w := by
  obtain ⟨D, h1, h2, h3⟩ := h
  obtain ⟨v, ps, hrun, hv⟩ := h1.look_ok C.keyed ht (E.zrun w) (E.made _ E.zok) (C.key x hx)
  rw [hrun, (h3 x hx).1]
  obtain ⟨a, _, rfl, ha⟩ := E.inv _ _ hv
  have h4 := congrArg Prod.fst ha
  simp only at h4
  rw [(h3 x hx).2] at h4
  rw [E.inj _ _ h4]
/-- 'm[x]'. -/
theorem MapAt.look {t : TypeId} (h : MapAt C E w b n s f) (ht : Try.prog.underlying t = some (.map k e)) {x : κ} (hx : kok x) :
    (Instr.lookup t (.map (some b)) (kv x) false).run Try.prog w = .ok (ev ((f x).getD zero)) w := by
  obtain ⟨D, h1, h2, h3⟩ := h
  obtain ⟨v, ps, hrun, hv⟩ := h1.lookup C.keyed ht (E.zrun w) (E.made _ E.zok) (C.key x hx)
  rw [hrun]
  obtain ⟨a, _, rfl, ha⟩ := E.inv _ _ hv
  have h4 := congrArg Prod.fst ha
  simp only at h4
  rw [(h3 x hx).2] at h4
  rw [E.inj _ _ h4]
/-- A table's turn. -/
def putF {κ α : Type} (f : κ → Option α) (x : κ) (a : α) [DecidableEq κ] : κ → Option α := fun y => if y = x then some a else f y
/-- 'm[x] = a'. -/
theorem MapAt.update [DecidableEq κ] {t : TypeId} (h : MapAt C E w b n s f) (ht : Try.prog.underlying t = some (.map k e)) (hn : n < maxLen) {x : κ} (hx : kok x) {a : α} (ha : eok a) :
    ∃ w', (Instr.mapUpdate t (.map (some b)) (kv x) (ev a)).run Try.prog w = .ok () w' ∧ MapAt C E w' b (n + 1) (if (f x).isSome then s else s + 1) (putF f x a) ∧ w.grownBy w' (some b) := by
  obtain ⟨D, h1, h2, h3⟩ := h
  obtain ⟨w', hrun, hown, hg⟩ := h1.update C.keyed ht hn (C.key x hx) (E.made a ha)
  refine ⟨w', hrun, ⟨_, hown, ?_, fun y hy => ?_⟩, hg⟩
  · rw [Maps.size_put (h1.tidy C.keyed), h2, (h3 x hx).1]
  · unfold putF
    by_cases e' : y = x
    · subst e'
      rw [if_pos rfl]
      exact ⟨has_put_same h1.isMap (C.isKey _) _, atKey_put_same h1.isMap (C.isKey _) _ _⟩
    · rw [if_neg e']
      have hne : kl y ≠ kl x := fun e2 => e' (C.inj _ _ hy hx e2)
      exact ⟨(has_put_other hne _).trans (h3 y hy).1, (atKey_put_other hne _ _).trans (h3 y hy).2⟩
theorem MapAt.len {t : TypeId} (h : MapAt C E w b n s f) (ht : Try.prog.underlying t = some (.map k e)) (ty : TypeId) : (Builtin.len_ #[t] ty #[.map (some b)]).run Try.prog w = .ok (.int .i64 s) w := by
  obtain ⟨D, h1, h2, _⟩ := h
  have := h1.len ht ty
  rw [h2] at this
  exact this
end
/-- Numbers as keys. -/
theorem keyIntC : KeyC 3 (fun n : Int => .int .i64 n) (fun n => .int .i64 n) (fun n => (Lit.int .i64 n).wf = true) where
  keyed := int_keyed Try.underlying3
  key n h := keyOf_int_mk Try.underlying3 h
  isKey _ := trivial
  inj x y _ _ h := by injection h
/-- Numbers as elements. -/
theorem elIntC : ElC 3 (plainElem Try.prog 3) (fun n : Int => .int .i64 n) (fun n => .lit (.int .i64 n)) (fun n => (Lit.int .i64 n).wf = true) 0 where
  made n h := plainElem_int Try.underlying3 h
  inv x z h := by
    obtain ⟨a, h1, h2, h3⟩ := plainElem_int_inv Try.underlying3 h
    exact ⟨a, h3, h1, h2⟩
  inj a b h := by injection h with h; injection h
  zok := by decide
  zrun w := by kernel_rfl
end Go.Proofs.Ytljbebeaahcjaaa
namespace Go.Proofs.Ytljbebeaahcjaaa
open Go.RowKit
set_option linter.unusedVariables false
set_option linter.unusedSimpArgs false

/-- A kind of elements: its list type, its own type, its cells, its zero value. -/
structure RowC (st et : TypeId) {α : Type} (c : α → List Value) (ok : α → Prop) (zero : α) (zv : Value) (sz by_ : Nat) : Prop where
  len : ∀ x, (c x).length = sz
  pos : 0 < sz
  zs : zv.cells.size = sz
  byl : by_ ≤ 2048
  info : (Try.prog.info? et).map (fun i => (i.zero, i.size, i.bytes)) = some (some zv, sz, by_)
  under : Try.prog.underlying st = some (.slice et)
  elem : Try.prog.underlying st = some (.slice (Try.prog.elem st))
  size : ∀ w, (Go.sizeOf (Try.prog.elem st)).run Try.prog w = .ok sz w
  one : ∀ x, ∀ u ∈ c x, u.oneCell' = true
theorem info_partsL {t : TypeId} {z : Value} {s b : Nat} (h : (Try.prog.info? t).map (fun i => (i.zero, i.size, i.bytes)) = some (some z, s, b)) : ∃ i, Try.prog.info? t = some i ∧ i.zero = some z ∧ i.size = s ∧ i.bytes = b := by
  obtain ⟨i, hi, h⟩ := Option.map_eq_some_iff.1 h
  simp only [Prod.mk.injEq] at h
  exact ⟨i, hi, h.1, h.2.1, h.2.2⟩
theorem add_litL (b off j : Nat) : (⟨b, off, none⟩ : Addr).add j = ⟨b, off + j, none⟩ := by unfold Addr.add; split <;> simp_all
def cellsL {α : Type} (c : α → List Value) (l : List α) : List Value := l.flatMap c
/-- A list in memory. -/
structure LAt {α : Type} (c : α → List Value) (ok : α → Prop) (zero : α) (sz : Nat) (w : World) (p : Option Addr) (l : List α) : Prop where
  ok : ∀ x ∈ l, ok x
  cells : l = [] ∨ ∃ b off, p = some ⟨b, off, none⟩ ∧ ∀ i, i < l.length → ∀ j v, (c (l.getD i zero))[j]? = some v → w.cell? ⟨b, off + i * sz + j, none⟩ = some v
section
variable {st et : TypeId} {α : Type} {c : α → List Value} {ok : α → Prop} {zero : α} {zv : Value} {sz by_ : Nat} {w w' : World} {p q : Option Addr} {l m : List α} {n k cap B : Nat}
theorem LAt.nil (c : α → List Value) (ok : α → Prop) (zero : α) (sz : Nat) (w : World) (p : Option Addr) : LAt c ok zero sz w p [] := ⟨fun x hx => by simp at hx, .inl rfl⟩
theorem LAt.below (h : LAt c ok zero sz w p l) (hb : Below w.heap.size w w') : LAt c ok zero sz w' p l :=
  ⟨h.ok, h.cells.imp id fun ⟨b, off, hp, hc⟩ => ⟨b, off, hp, fun i hi j v hv => kept hb (hc i hi j v hv)⟩⟩
theorem cell_same {w w' : World} {g k : Nat} {v : Value} (h : w.cell? ⟨g, k, none⟩ = some v) (e : w'.heap[g]? = w.heap[g]?) : w'.cell? ⟨g, k, none⟩ = some v := (World.cell?_of_block (w := w) (a := ⟨g, k, none⟩) e).trans h
theorem cell_notMap {w : World} {g k b : Nat} {v : Value} (h : w.cell? ⟨g, k, none⟩ = some v) {es : Array MapEntry} {cl : Nat} (hm : w.heap[b]? = some (.map es cl)) : g ≠ b := fun e => by
  subst e
  unfold World.cell? at h
  simp only [hm] at h
  cases h
/-- A map turns. -/
theorem LAt.turn (h : LAt c ok zero sz w p l) {b : Nat} {es : Array MapEntry} {cl : Nat} (hm : w.heap[b]? = some (.map es cl)) (hg : w.grownBy w' (some b)) : LAt c ok zero sz w' p l :=
  ⟨h.ok, h.cells.imp id fun ⟨g, off, hp, hc⟩ => ⟨g, off, hp, fun i hi j v hv => by
    have h1 := hc i hi j v hv
    exact cell_same h1 (hg.block g (World.block_lt_of_cell? w _ h1) (fun e => cell_notMap h1 hm (by simpa using e)))⟩⟩
theorem LAt.cell (h : LAt c ok zero sz w p l) (hn : l.length = n) (hk : k < n) : ∃ b off, p = some ⟨b, off, none⟩ ∧ ∀ j v, (c (l.getD k zero))[j]? = some v → w.cell? ⟨b, off + k * sz + j, none⟩ = some v := by
  rcases h.cells with rfl | ⟨b, off, rfl, hc⟩
  · simp at hn; omega
  · exact ⟨b, off, rfl, hc k (by omega)⟩
theorem LAt.in_ (h : LAt c ok zero sz w p l) (hn : l.length = n) (hk : k < n) : ok (l.getD k zero) := h.ok _ (by simp [List.getD, show k < l.length by omega])
theorem LAt.take (h : LAt c ok zero sz w p l) (k : Nat) : LAt c ok zero sz w p (l.take k) := by
  refine ⟨fun x hx => h.ok x (List.mem_of_mem_take hx), ?_⟩
  rcases h.cells with rfl | ⟨b, off, rfl, hc⟩
  · left; simp
  · refine .inr ⟨b, off, rfl, fun i hi => ?_⟩
    rw [List.length_take] at hi
    have := hc i (by omega)
    rw [show (l.take k).getD i zero = l.getD i zero by simp [List.getD, List.getElem?_take_of_lt (show i < k by omega)]]
    exact this
theorem LAt.drop {b off : Nat} (h : LAt c ok zero sz w (some ⟨b, off, none⟩) l) (k : Nat) : LAt c ok zero sz w (some ⟨b, off + k * sz, none⟩) (l.drop k) := by
  refine ⟨fun x hx => h.ok x (List.mem_of_mem_drop hx), ?_⟩
  rcases h.cells with rfl | ⟨b', off', e, hc⟩
  · left; simp
  · simp only [Option.some.injEq, Addr.mk.injEq, and_true] at e
    obtain ⟨rfl, rfl⟩ := e
    refine .inr ⟨b, off + k * sz, rfl, fun i hi j v hv => ?_⟩
    rw [List.length_drop] at hi
    rw [show (l.drop k).getD i zero = l.getD (k + i) zero by simp [List.getD, List.getElem?_drop]] at hv
    have hx := hc (k + i) (by omega) j v hv
    rw [Nat.add_mul] at hx
    rw [show off + k * sz + i * sz + j = off + (k * sz + i * sz) + j by omega]
    exact hx
theorem cellsL_len (C : RowC st et c ok zero zv sz by_) : ∀ (l : List α), (cellsL c l).length = l.length * sz
  | [] => by simp [cellsL]
  | x :: t => by
    have := cellsL_len C t
    unfold cellsL at *
    rw [List.flatMap_cons, List.length_append, this, C.len, List.length_cons, Nat.add_mul]
    omega
theorem cellsL_get (C : RowC st et c ok zero zv sz by_) (l : List α) (i : Nat) (hi : i < l.length) (j : Nat) (hj : j < sz) : (cellsL c l)[i * sz + j]? = (c (l.getD i zero))[j]? := by
  induction l generalizing i with
  | nil => simp at hi
  | cons a t ih =>
    unfold cellsL at *
    rw [List.flatMap_cons]
    cases i with
    | zero =>
      rw [Nat.zero_mul, Nat.zero_add, List.getElem?_append_left (by rw [C.len]; exact hj)]
      rfl
    | succ i =>
      have := ih i (by simpa using hi)
      rw [List.getElem?_append_right (by rw [C.len, Nat.add_mul]; omega), C.len, show (i + 1) * sz + j - sz = i * sz + j by rw [Nat.add_mul]; omega, this]
      simp [List.getD]
theorem LAt.src (C : RowC st et c ok zero zv sz by_) (h : LAt c ok zero sz w p l) (hn : l.length = n) (hn0 : 0 < n) : ∃ b off, p = some ⟨b, off, none⟩ ∧ ∀ j v, (cellsL c l)[j]? = some v → w.cell? ((⟨b, off, none⟩ : Addr).add j) = some v := by
  have hp := C.pos
  rcases h.cells with rfl | ⟨b, off, rfl, hc⟩
  · simp at hn; omega
  · refine ⟨b, off, rfl, fun j v hv => ?_⟩
    have hj : j < l.length * sz := by
      rcases Nat.lt_or_ge j (l.length * sz) with hlt | hge
      · exact hlt
      · rw [List.getElem?_eq_none (by rw [cellsL_len C]; exact hge)] at hv; cases hv
    have hd := Nat.div_add_mod j sz
    have hm := Nat.mod_lt j hp
    have hq : j / sz < l.length := Nat.div_lt_of_lt_mul (by rw [Nat.mul_comm]; exact hj)
    rw [show j = j / sz * sz + j % sz by rw [Nat.mul_comm]; exact hd.symm, cellsL_get C l _ hq _ hm] at hv
    have := hc (j / sz) hq (j % sz) v hv
    rw [add_litL, show off + j = off + j / sz * sz + j % sz by rw [Nat.add_assoc, Nat.mul_comm]; omega]
    exact this
theorem gb_belowL {a b : World} {r : Option Nat} (h : Below a.heap.size a b) : a.grownBy b r :=
  ⟨h.os, h.tape, h.output, h.size, fun i hi _ => h.block i hi⟩
theorem rowL_below {B : Nat} {E : TypeId} {size : Nat} {v : Value} {n : Nat} {xs : List Value} (h : w.ownsRow B E size v n xs) (hb : Below w.heap.size w w') : w'.ownsRow B E size v n xs := by
  refine h.kept (row := none) (gb_belowL hb) ?_
  rcases hv : v.ownBlock with _ | g
  · exact .inl rfl
  · exact .inr (by simp)
theorem rowL_form {B : Nat} {E : TypeId} {size : Nat} {v : Value} {n : Nat} {xs : List Value} (h : w.ownsRow B E size v n xs) :
    ∃ p c, v = .slice p n c ∧ n ≤ c ∧ c ≤ maxLen := by
  rcases h.2 with ⟨rfl, rfl⟩ | ⟨g, cap, cur, rfl, _, _, h1, h2, _⟩
  · exact ⟨none, 0, rfl, Nat.le_refl _, by unfold maxLen; omega⟩
  · exact ⟨_, cap, rfl, h1, h2⟩
/-- A list of the call's own. -/
structure LOwn {α : Type} (et : TypeId) (c : α → List Value) (ok : α → Prop) (sz : Nat) (w : World) (B : Nat) (q : Option Addr) (n cap : Nat) (l : List α) : Prop where
  len : l.length = n
  ok : ∀ x ∈ l, ok x
  row : w.ownsRow B et sz (.slice q n cap) n (cellsL c l)
theorem LOwn.nil (et : TypeId) (c : α → List Value) (ok : α → Prop) (sz : Nat) (w : World) (B : Nat) : LOwn et c ok sz w B none 0 0 ([] : List α) := ⟨rfl, fun x hx => by simp at hx, World.ownsRow_nil _ _ _ _⟩
theorem LOwn.below (h : LOwn et c ok sz w B q n cap l) (hb : Below w.heap.size w w') : LOwn et c ok sz w' B q n cap l := ⟨h.len, h.ok, rowL_below h.row hb⟩
theorem LOwn.mono {B' : Nat} (h : LOwn et c ok sz w B q n cap l) (hB : B' ≤ B) : LOwn et c ok sz w B' q n cap l := ⟨h.len, h.ok, h.row.mono hB⟩
theorem LOwn.cap_ (h : LOwn et c ok sz w B q n cap l) : n ≤ cap ∧ cap ≤ maxLen := by
  obtain ⟨p, c', hv, h1, h2⟩ := rowL_form h.row
  simp only [Value.slice.injEq] at hv
  obtain ⟨_, _, rfl⟩ := hv
  exact ⟨h1, h2⟩
theorem LOwn.at (C : RowC st et c ok zero zv sz by_) (h : LOwn et c ok sz w B q n cap l) : LAt c ok zero sz w q l := by
  refine ⟨h.ok, ?_⟩
  rcases h.row.2 with ⟨hv, h0⟩ | ⟨g, cap', cur, hv, _⟩
  · left
    have := h.len
    simp only [Value.slice.injEq] at hv
    exact List.eq_nil_of_length_eq_zero (by omega)
  · simp only [Value.slice.injEq] at hv
    obtain ⟨rfl, _, rfl⟩ := hv
    refine .inr ⟨g, 0, rfl, fun i hi j v hv => ?_⟩
    have hj : j < sz := by
      rw [← C.len (l.getD i zero)]
      exact (List.getElem?_eq_some_iff.1 hv).1
    have := h.row.cells (g := g) rfl (i * sz + j) v (by rw [cellsL_get C l i hi j hj]; exact hv)
    rw [add_litL] at this
    rw [show 0 + i * sz + j = 0 + (i * sz + j) by omega]
    exact this
/-- A list written out. -/
theorem LOwn.lit (C : RowC st et c ok zero zv sz by_) (w : World) (B : Nat) (l : List α) (hok : ∀ x ∈ l, ok x) (hB : B ≤ w.heap.size) (hm : l.length ≤ maxLen) : LOwn et c ok sz (w.alloc (.cells (cellsL c l).toArray et)) B (some ⟨w.heap.size, 0, none⟩) l.length l.length l :=
  ⟨rfl, hok, ⟨by rw [cellsL_len C], .inr ⟨w.heap.size, l.length, (cellsL c l).toArray, rfl, hB, (by show (w.heap.push _)[w.heap.size]? = _; exact Array.getElem?_push_size), Nat.le_refl _, hm, by simp [cellsL_len C], by simp [← cellsL_len C]⟩⟩⟩
theorem run_appL (C : RowC st et c ok zero zv sz by_) (w : World) (ty : TypeId) (B : Nat) (q : Option Addr) (n cap : Nat) (l : List α) (h : LOwn et c ok sz w B q n cap l) (p : Option Addr) (c' m : Nat) (ys : List α) (hy : LAt c ok zero sz w p ys) (hm : ys.length = m) (h40 : n + m ≤ 34359738368) (hB : B ≤ w.heap.size) :
    ∃ q' cap' w', (Builtin.append_ #[st, st] ty #[.slice q n cap, .slice p m c']).run Try.prog w = .ok (.slice q' (n + m) cap') w' ∧ LOwn et c ok sz w' B q' (n + m) cap' (l ++ ys) ∧ Below B w w' := by
  obtain ⟨i0, hi, hz0, hz1, hz2⟩ := info_partsL C.info
  rcases Nat.eq_zero_or_pos m with h0 | h0
  · subst h0
    obtain rfl : ys = [] := List.eq_nil_of_length_eq_zero hm
    have hsrc : Src Try.prog i0.size st (.slice p 0 c') 0 [] w := by
      rcases p with _ | a
      · exact Src.ofNil w C.under c'
      · exact Src.ofSlice w C.under a 0 c' [] (by simp) (fun j u hj => by simp at hj) (fun u hu => by simp at hu)
    refine ⟨q, cap, w, run_append_nothing w st st ty et i0 C.under hi q n cap h.cap_.1 _ hsrc, ?_, Below.refl _ _⟩
    rw [List.append_nil]; exact h
  · obtain ⟨b, off, rfl, hcell⟩ := hy.src C hm h0
    have hby : (n + m) * by_ ≤ 140737488355328 := Nat.le_trans (Nat.mul_le_mul h40 C.byl) (by decide)
    obtain ⟨v', w', hr, h2, h3, _⟩ := run_append_own (P := Try.prog) w B st ty et i0 zv sz by_ C.under hi hz0 hz1 hz2 C.zs C.pos _ n _ h.row ⟨b, off, none⟩ m c' (cellsL c ys) (by rw [cellsL_len C, hm]) hcell (fun u hu => by
      unfold cellsL at hu
      obtain ⟨x, _, hx⟩ := List.mem_flatMap.1 hu
      exact C.one x u hx) (by unfold maxLen; omega) hby hB
    obtain ⟨q', cap', rfl, _, _⟩ := rowL_form h2
    refine ⟨q', cap', w', hr, ⟨by rw [List.length_append, h.len, hm], fun x hx => (List.mem_append.1 hx).elim (h.ok x) (hy.ok x), ?_⟩, ?_⟩
    · unfold cellsL at *
      rw [List.flatMap_append]
      exact h2
    · refine (Below.refl B w).grown h3 hB fun k hk => ?_
      rcases h.row.2 with ⟨hv, _⟩ | ⟨g', cap2, cur, hv, hB2, _⟩
      · rw [hv] at hk; cases hk
      · rw [hv] at hk
        have : g' = k := by simpa [Value.ownBlock] using hk
        omega
theorem wpList_appL (C : RowC st et c ok zero zv sz by_) {ops : Array Oper} {rest : List Oper} {o : Oper} {a : Act} {w : World} {Q : Exit → Act → World → Prop} (hw : Region.wanted o (yielded ops a.tmps) = true) (s x : Operand)
    (ho : o.op = .call { callee := .builtin .append, args := #[s, x], argTypes := #[st, st] })
    (B : Nat) (q : Option Addr) (n cap : Nat) (l : List α) (hown : LOwn et c ok sz w B q n cap l) (hs : a.eval s = .slice q n cap)
    (p : Option Addr) (m c' : Nat) (ys : List α) (hy : LAt c ok zero sz w p ys) (hm : ys.length = m) (hx : a.eval x = .slice p m c') (t : Nat) (ht : n + m = t) (h40 : t ≤ 34359738368) (hB : B ≤ w.heap.size)
    (h : ∀ q' cap' w', Hid (LOwn et c ok sz w' B q' t cap' (l ++ ys)) → Hid (Below B w w') → wpList Try.prog ops Q rest (a.put o.dst (.slice q' t cap')) w') :
    wpList Try.prog ops Q (o :: rest) a w :=
  wpList_step fun K hK => by
    rw [if_pos hw]
    subst ht
    obtain ⟨q', cap', w', hr, h2, h3⟩ := run_appL C w o.type B q n cap l hown p c' m ys hy hm h40 hB
    unfold Oper.wp execOp
    simp only [ho, resolve, invoke, builtin, Sem.run_bind, Sem.run_pure, Result.andThen_ok, List.map_toArray, List.map_cons, List.map_nil, hs, hx, hr]
    exact hK _ _ (h q' cap' w' (Lib.hid h2) (Lib.hid h3))
theorem step_appL (C : RowC st et c ok zero zv sz by_) {ops : Array Oper} {o : Oper} {a : Act} {w : World} {K : Act → World → Prop} {Q : Exit → Act → World → Prop} {E : Prop} (hw : Region.wanted o (yielded ops a.tmps) = true) (s x : Operand)
    (ho : o.op = .call { callee := .builtin .append, args := #[s, x], argTypes := #[st, st] })
    (B : Nat) (q : Option Addr) (n cap : Nat) (l : List α) (hown : LOwn et c ok sz w B q n cap l) (hs : a.eval s = .slice q n cap)
    (p : Option Addr) (m c' : Nat) (ys : List α) (hy : LAt c ok zero sz w p ys) (hm : ys.length = m) (hx : a.eval x = .slice p m c') (t : Nat) (ht : n + m = t) (h40 : t ≤ 34359738368) (hB : B ≤ w.heap.size)
    (h : ∀ q' cap' w', Hid (LOwn et c ok sz w' B q' t cap' (l ++ ys)) → Hid (Below B w w') → K (a.put o.dst (.slice q' t cap')) w') :
    if Region.wanted o (yielded ops a.tmps) = true then Oper.wp Try.prog o a w K Q else E := by
  rw [if_pos hw]
  subst ht
  obtain ⟨q', cap', w', hr, h2, h3⟩ := run_appL C w o.type B q n cap l hown p c' m ys hy hm h40 hB
  unfold Oper.wp execOp
  simp only [ho, resolve, invoke, builtin, Sem.run_bind, Sem.run_pure, Result.andThen_ok, List.map_toArray, List.map_cons, List.map_nil, hs, hx, hr]
  exact h q' cap' w' (Lib.hid h2) (Lib.hid h3)
/-- append(s[:k:k], ..): always a new row. -/
theorem run_appFullL (C : RowC st et c ok zero zv sz by_) (w : World) (ty : TypeId) (p : Option Addr) (l : List α) (n : Nat) (h : LAt c ok zero sz w p l) (hn : l.length = n) (q : Option Addr) (c' m : Nat) (ys : List α) (hy : LAt c ok zero sz w q ys) (hm : ys.length = m) (hm0 : 0 < m) (h40 : n + m ≤ 34359738368) :
    ∃ cap' w', (Builtin.append_ #[st, st] ty #[.slice p n n, .slice q m c']).run Try.prog w = .ok (.slice (some ⟨w.heap.size, 0, none⟩) (n + m) cap') w' ∧ LOwn et c ok sz w' w.heap.size (some ⟨w.heap.size, 0, none⟩) (n + m) cap' (l ++ ys) ∧ Below w.heap.size w w' := by
  obtain ⟨i0, hi, hz0, hz1, hz2⟩ := info_partsL C.info
  have hlen : (cellsL c l).length = n * i0.size := by rw [cellsL_len C, hn, hz1]
  have hold : (Builtin.firstCells i0.size n (.slice p n n)).run Try.prog w.drew = .ok (cellsL c l).toArray w.drew := by
    rcases Nat.eq_zero_or_pos n with h0 | h0
    · subst h0
      obtain rfl : l = [] := List.eq_nil_of_length_eq_zero hn
      rcases p with _ | a
      · exact run_firstCells_none w.drew _ _ _ _
      · exact run_firstCells_some w.drew i0.size 0 a 0 0 [] (by simp) (fun j v hv => by simp at hv)
    · obtain ⟨b, off, rfl, hcell⟩ := h.src C hn h0
      exact run_firstCells_some w.drew i0.size n ⟨b, off, none⟩ n n (cellsL c l) hlen hcell
  obtain ⟨b2, off2, rfl, hcell2⟩ := hy.src C hm hm0
  have hsrc : Src Try.prog i0.size st (.slice (some ⟨b2, off2, none⟩) m c') m (cellsL c ys) w := Src.ofSlice w C.under ⟨b2, off2, none⟩ m c' (cellsL c ys) (by rw [hz1, cellsL_len C, hm]) hcell2 (fun u hu => by
    unfold cellsL at hu
    obtain ⟨x, _, hx⟩ := List.mem_flatMap.1 hu
    exact C.one x u hx)
  have hby : (n + m) * by_ ≤ 140737488355328 := Nat.le_trans (Nat.mul_le_mul h40 C.byl) (by decide)
  have hr := run_append_grow_src (P := Try.prog) w st st ty et i0 _ C.under hi hz0 p n n (cellsL c l) hold _ m (cellsL c ys) hsrc (by omega) (by omega) (growslice_fits (by omega) (by rw [hz2]; exact hby))
  have hge := grownCap_ge w (n + m) n et
  have hmx := grownCap_le_maxLen w (n + m) n et (by unfold maxLen; omega)
  generalize grownCap w (n + m) n et = K at *
  refine ⟨K, _, hr, ?_, (((Below.refl w.heap.size w).drew).alloc (Nat.le_refl _) _)⟩
  obtain ⟨arr, harr⟩ : ∃ arr, ((cellsL c l ++ cellsL c ys).toArray ++ Builtin.zeroCells zv.cells (K - (n + m))) = arr := ⟨_, rfl⟩
  have hl2 : (cellsL c l ++ cellsL c ys).length = (n + m) * sz := by rw [List.length_append, cellsL_len C, cellsL_len C, hn, hm, Nat.add_mul]
  have hsz : arr.size = K * sz := by
    rw [← harr, Array.size_append, size_zeroCells, C.zs, List.size_toArray, hl2, ← Nat.add_mul, show n + m + (K - (n + m)) = K by omega]
  have happ : cellsL c (l ++ ys) = cellsL c l ++ cellsL c ys := by unfold cellsL; rw [List.flatMap_append]
  have htk : arr.toList.take ((n + m) * sz) = cellsL c (l ++ ys) := by
    rw [← harr, happ, ← hl2]
    simp only [Array.toList_append]
    exact List.take_left
  rw [harr]
  exact ⟨by rw [List.length_append, hn, hm], fun x hx => (List.mem_append.1 hx).elim (h.ok x) (hy.ok x), ⟨by rw [cellsL_len C, List.length_append, hn, hm], .inr ⟨w.heap.size, K, arr, rfl, Nat.le_refl _, (by show (w.drew.heap.push _)[w.drew.heap.size]? = _; exact Array.getElem?_push_size), hge, hmx, hsz, htk⟩⟩⟩
theorem wpList_appFullL (C : RowC st et c ok zero zv sz by_) {ops : Array Oper} {rest : List Oper} {o : Oper} {a : Act} {w : World} {Q : Exit → Act → World → Prop} (hw : Region.wanted o (yielded ops a.tmps) = true) (s x : Operand)
    (ho : o.op = .call { callee := .builtin .append, args := #[s, x], argTypes := #[st, st] })
    (p : Option Addr) (n : Nat) (l : List α) (h1 : LAt c ok zero sz w p l) (hn : l.length = n) (hs : a.eval s = .slice p n n)
    (q : Option Addr) (m c' : Nat) (ys : List α) (hy : LAt c ok zero sz w q ys) (hm : ys.length = m) (hx : a.eval x = .slice q m c') (hm0 : 0 < m) (t : Nat) (ht : n + m = t) (h40 : t ≤ 34359738368)
    (h : ∀ cap' w', Hid (LOwn et c ok sz w' w.heap.size (some ⟨w.heap.size, 0, none⟩) t cap' (l ++ ys)) → Hid (Below w.heap.size w w') → wpList Try.prog ops Q rest (a.put o.dst (.slice (some ⟨w.heap.size, 0, none⟩) t cap')) w') :
    wpList Try.prog ops Q (o :: rest) a w :=
  wpList_step fun K hK => by
    rw [if_pos hw]
    subst ht
    obtain ⟨cap', w', hr, h2, h3⟩ := run_appFullL C w o.type p l n h1 hn q c' m ys hy hm hm0 h40
    unfold Oper.wp execOp
    simp only [ho, resolve, invoke, builtin, Sem.run_bind, Sem.run_pure, Result.andThen_ok, List.map_toArray, List.map_cons, List.map_nil, hs, hx, hr]
    exact hK _ _ (h cap' w' (Lib.hid h2) (Lib.hid h3))
/-- s[k:], s[:k], s[:k:k]. -/
theorem cutL_l (C : RowC st et c ok zero zv sz by_) (w : World) (p : Option Addr) (l : List α) (n c' k : Nat) (h : LAt c ok zero sz w p l) (hn : l.length = n) (hk : k ≤ n) (hc : n ≤ c') :
    ∃ Q : Option Addr, (∀ u, (Instr.slice st (.slice p n c') (some (.int .i64 k)) none none).run Try.prog u = .ok (.slice Q (n - k) (c' - k)) u) ∧ LAt c ok zero sz w Q (l.drop k) := by
  refine ⟨if c' = k then p else p.map (·.add (k * sz)), fun u => ?_, ?_⟩
  · rw [run_slice_l (ht := C.elem) (h0 := by omega) (h1 := by omega), C.size]
    simp [Result.andThen, sliced]
  · by_cases e : c' = k
    · rw [List.drop_eq_nil_of_le (by omega)]; exact LAt.nil _ _ _ _ _ _
    · rw [if_neg e]
      rcases h.cells with rfl | ⟨b, off, rfl, _⟩
      · simp; exact LAt.nil _ _ _ _ _ _
      · rw [Option.map_some, add_litL]
        exact h.drop k
theorem cutL_h (C : RowC st et c ok zero zv sz by_) (w : World) (p : Option Addr) (l : List α) (n c' k : Nat) (h : LAt c ok zero sz w p l) (hn : l.length = n) (hk : k ≤ n) (hc : n ≤ c') :
    ∃ Q : Option Addr, (∀ u, (Instr.slice st (.slice p n c') none (some (.int .i64 k)) none).run Try.prog u = .ok (.slice Q k c') u) ∧ LAt c ok zero sz w Q (l.take k) := by
  refine ⟨if c' = 0 then p else p.map (·.add (0 * sz)), fun u => ?_, ?_⟩
  · rw [run_slice_h (ht := C.elem) (h0 := by omega) (h2 := by omega), C.size]
    simp [Result.andThen, sliced]
  · by_cases e : c' = 0
    · rw [if_pos e]; exact h.take k
    · rw [if_neg e]
      rcases h.cells with rfl | ⟨b, off, rfl, _⟩
      · simp; exact LAt.nil _ _ _ _ _ _
      · rw [Option.map_some, add_litL, Nat.zero_mul, Nat.add_zero]
        exact h.take k
end
end Go.Proofs.Ytljbebeaahcjaaa
