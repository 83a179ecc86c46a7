/- Two prefixes held against each other as a whole. / Contracts of addr's prefixes: Make, Check, Holds, Within, Compare, Bit. / Contracts of addr's apart and together: an address's four bytes. / addr's small facts, for a seat without addr's texts of texts. / The contract of addr's Put: a prefix's bytes. / The contract of addr's Get: the prefix that bytes begin with. / The laws of addr that hold by what its functions tell. / 'AddrHolds': the prefix of any length that holds an address; its halves. / The document's own prefixes, beside addr's: bit, Make, Check, Holds, Within, Compare, Bit. / The document's own Check, Holds, Within, Compare, Bit. / Bytes that grow by append; the document's own Put. / The document's own Put of a prefix. / The document's own Get of a prefix. / The document's own Get of a prefix: one byte without room behind it; all cases. -/
import Derived.Test.YtpeagakpmjnelaaDoorAK
import Derived.Laws.StructEq
import Derived.Deep.RegionLaw
import Derived.RegionTactic
import Derived.BigRegion
import Derived.StillTailTactics
import Derived.Deep.QuietTactic
import Derived.BigQuiet
import Derived.Maps.AppendAt
import Derived.Deep.AppendLies
import Derived.Deep.RegionHeldLaw
namespace Go.Proofs.YtpeagakpmjnelaaDoor
open Go.RowKit
theorem pfx_under : Tryd.prog.underlying 54 = some (.struct (Tryd.prog.fieldsOf 54)) := by kernel_rfl
theorem pfx_held : Tryd.prog.stoodInHeld 54 = false := by kernel_rfl
theorem pfx_guard : Tryd.prog.eqGuardType Tryd.prog.depth 54 = false := by kernel_rfl
theorem pfx_fields : (Tryd.prog.fieldsOf 54).toList.map (fun f => (f.name, f.type, f.offset)) = [("Addr", 24, 0), ("Len", 3, 1)] := by kernel_rfl
theorem list_two {α : Type} {l : List α} (h : l.length = 2) : ∃ x y, l = [x, y] := by
  rcases l with _ | ⟨x, _ | ⟨y, _ | ⟨z, r⟩⟩⟩ <;> simp at h
  exact ⟨x, y, rfl⟩
theorem pfx_equalIn (d : Nat) (a n b m : Int) (w : World) :
    (Op.equalIn (d + 1 + 1) 54 (.agg #[.int .u32 a, .int .i64 n]) (.agg #[.int .u32 b, .int .i64 m])).run Tryd.prog w = .ok (a == b && n == m) w := by
  rw [run_equalIn_struct w (d + 1) _ _ _ pfx_under pfx_held]
  have hf := pfx_fields
  generalize (Tryd.prog.fieldsOf 54).toList = fs at hf
  obtain ⟨f0, f1, rfl⟩ := list_two (l := fs) (by simpa using congrArg List.length hf)
  simp only [List.map_cons, List.map_nil, List.cons.injEq, Prod.mk.injEq, and_true] at hf
  obtain ⟨⟨n0, t0, o0⟩, n1, t1, o1⟩ := hf
  have q0 : (Op.equalIn (d + 1) 24 (.int .u32 a) (.int .u32 b)).run Tryd.prog w = .ok (a == b) w := run_equalIn_int w d _ _ _ a b Tryd.underlying24
  have q1 : (Op.equalIn (d + 1) 3 (.int .i64 n) (.int .i64 m)).run Tryd.prog w = .ok (n == m) w := run_equalIn_int w d _ _ _ n m Tryd.underlying3
  have p0 : ∀ x y : Value, (part 24 #[x, y] 0).run Tryd.prog w = .ok x w := fun x y => by kernel_rfl
  have p1 : ∀ x y : Value, (part 3 #[x, y] 1).run Tryd.prog w = .ok y w := fun x y => by kernel_rfl
  simp only [Op.eqFields, n0, n1, t0, t1, o0, o1]
  rw [if_pos (by decide), if_pos (by decide)]
  simp only [Sem.run_bind, p0, q0, Result.andThen_ok]
  rcases a == b with _ | _
  · simp [Sem.run_pure]
  · simp only [Bool.not_true, Bool.false_eq_true, if_false, Sem.run_bind, p1, q1, Result.andThen_ok]
    rcases n == m with _ | _ <;> simp [Sem.run_pure]
theorem pfx_equal (a n b m : Int) (w : World) :
    (Op.equalIn 10000 54 (.agg #[.int .u32 a, .int .i64 n]) (.agg #[.int .u32 b, .int .i64 m])).run Tryd.prog w = .ok (a == b && n == m) w := pfx_equalIn 9998 a n b m w
theorem pfx_eql (a n b m : Int) (w : World) :
    (binOp .eql 54 (.agg #[.int .u32 a, .int .i64 n]) (.agg #[.int .u32 b, .int .i64 m])).run Tryd.prog w = .ok (.bool (a == b && n == m)) w := by
  rw [run_eql_struct, pfx_equal]; rfl
theorem pfx_neq (a n b m : Int) (w : World) :
    (binOp .neq 54 (.agg #[.int .u32 a, .int .i64 n]) (.agg #[.int .u32 b, .int .i64 m])).run Tryd.prog w = .ok (.bool (!(a == b && n == m))) w := by
  rw [run_neq_struct, pfx_equal]; rfl
theorem pfx_eqGuard (op : BinOp) (x y : Operand) (xs ys : Array Value) (w : World) : (eqGuard op 54 x y (.agg xs) (.agg ys)).run Tryd.prog w = .ok () w := run_eqGuard_agg w op _ x y xs ys pfx_guard
end Go.Proofs.YtpeagakpmjnelaaDoor
namespace Go.Proofs.YtpeagakpmjnelaaDoor
open Go.RowKit

/-- The prefix's address: the bits behind the first n are 0. -/
def mk (a n : Int) : Int := bits BinOp.and IntKind.u32 a (mask n)
def cl (n : Int) : Int := (bitsOf n : Int)

theorem make_any (a n : Int) (w : World) :
    Calls Tryd.prog 91 #[.int .u32 a, .int .i64 n] w fun e w' => e = .returned (.agg #[.int .u32 (mk a n), .int .i64 (cl n)]) ∧ Below w.heap.size w w' := by
  rcases Int.lt_or_le n 0 with h | h
  · have e1 : mask 0 = mask n := by unfold mask bitsOf; rw [if_pos h]; rfl
    have e2 : cl n = 0 := by unfold cl bitsOf; rw [if_pos h]; rfl
    have E := Lib.hid (And.intro e1 e2); clear e1 e2
    go_enter Tryd.func91, Tryd.ntmps91
    go_wp2_with fail
    refine (mask_any _ _).mono ?_; rintro e w' ⟨rfl, rfl⟩
    rw [E.out.1]
    go_wp2_with fail
    exact bodyPost_ret (v := .agg #[.int .u32 (mk a n), .int .i64 (cl n)]) (by rw [E.out.2]; simp [results, Tryd.results91, go_sem, mk]) rfl ⟨rfl, (Below.refl _ _).alloc (Nat.le_refl _) _⟩
  · have h0 : ¬ n < 0 := by omega
    rcases Int.lt_or_le 32 n with h' | h'
    · have e1 : mask 32 = mask n := by unfold mask bitsOf; rw [if_neg h0, if_pos h']; rfl
      have e2 : cl n = 32 := by unfold cl bitsOf; rw [if_neg h0, if_pos h']; rfl
      have E := Lib.hid (And.intro e1 e2); clear e1 e2
      go_enter Tryd.func91, Tryd.ntmps91
      go_wp2_with fail
      refine (mask_any _ _).mono ?_; rintro e w' ⟨rfl, rfl⟩
      rw [E.out.1]
      go_wp2_with fail
      exact bodyPost_ret (v := .agg #[.int .u32 (mk a n), .int .i64 (cl n)]) (by rw [E.out.2]; simp [results, Tryd.results91, go_sem, mk]) rfl ⟨rfl, (Below.refl _ _).alloc (Nat.le_refl _) _⟩
    · have e2 : cl n = n := by unfold cl bitsOf; rw [if_neg h0, if_neg (by omega)]; omega
      have E := Lib.hid e2; clear e2
      go_enter Tryd.func91, Tryd.ntmps91
      go_wp2_with fail
      refine (mask_any _ _).mono ?_; rintro e w' ⟨rfl, rfl⟩
      go_wp2_with fail
      exact bodyPost_ret (v := .agg #[.int .u32 (mk a n), .int .i64 (cl n)]) (by rw [E.out]; simp [results, Tryd.results91, go_sem, mk]) rfl ⟨rfl, (Below.refl _ _).alloc (Nat.le_refl _) _⟩

/-- May the prefix of this address and length be? -/
def okP (a n : Int) : Bool := decide (a = mk a n) && decide (n = cl n)

theorem keep {W w2 : World} {p : Addr} {v : Value} (hb : Below W.heap.size W w2) (h : W.cell? p = some v) : w2.cell? p = some v :=
  (hb.cell (World.block_lt_of_cell? W p h)).trans h

/-- The box of a prefix that came by value: its two cells, behind a draw. -/
theorem box_cells (w : World) (v0 v1 : Value) : ((w.alloc (.cells #[v0, v1] 54)).drew).cell? ⟨w.heap.size, 0, none⟩ = some v0 ∧ ((w.alloc (.cells #[v0, v1] 54)).drew).cell? ⟨w.heap.size, 1, none⟩ = some v1 := by
  constructor <;> simp [World.cell?_alloc_new]

theorem okP_beq (a n : Int) : (a == mk a n && n == cl n) = okP a n := by
  unfold okP
  rw [Bool.eq_iff_iff]
  simp [Bool.and_eq_true, beq_iff_eq, decide_eq_true_eq]

theorem check_true (a n : Int) (w : World) (hk : okP a n = true) :
    Calls Tryd.prog 78 #[.agg #[.int .u32 a, .int .i64 n]] w fun e w' => e = .returned (.int .i64 0) ∧ Below w.heap.size w w' := by
  have hbx := box_cells w (.int .u32 a) (.int .i64 n)
  have HX := Lib.hid hbx
  obtain ⟨C0, C1⟩ := hbx
  have hq := pfx_neq a n (mk a n) (cl n)
  rw [okP_beq, hk] at hq
  have hg := pfx_eqGuard
  have HZ := Lib.hid (show w.heap.size ≤ (w.alloc (.cells #[Value.int .u32 a, Value.int .i64 n] 54)).drew.heap.size from by simp)
  clear hk
  go_enter Tryd.func78, Tryd.ntmps78
  go_wp2_with fail
  go_region_held (fun w' => w'.cell? ⟨w.heap.size, 0, none⟩ = some (.int .u32 a) ∧ w'.cell? ⟨w.heap.size, 1, none⟩ = some (.int .i64 n)) (refine ⟨?_, ?_⟩ <;> assumption) (first | (go_at_call 91; refine (make_any a n _).mono ?_; rintro e w2 ⟨rfl, hb2⟩; have k0 := keep hb2 HX.out.1; have k1 := keep hb2 HX.out.2; have HB2 := Lib.hid hb2; clear hb2))
  have HB := Lib.hid ((((Below.refl w.heap.size w).alloc (Nat.le_refl _) _).drew).trans (HB2.out.mono HZ.out))
  clear HB2
  go_wp2_with fail
  go_ret
  exact ⟨rfl, HB.out⟩

theorem check_false (a n : Int) (w : World) (hk : okP a n = false) :
    Calls Tryd.prog 78 #[.agg #[.int .u32 a, .int .i64 n]] w fun e w' => e = .returned (.int .i64 20) ∧ Below w.heap.size w w' := by
  have hbx := box_cells w (.int .u32 a) (.int .i64 n)
  have HX := Lib.hid hbx
  obtain ⟨C0, C1⟩ := hbx
  have hq := pfx_neq a n (mk a n) (cl n)
  rw [okP_beq, hk] at hq
  have hg := pfx_eqGuard
  have HZ := Lib.hid (show w.heap.size ≤ (w.alloc (.cells #[Value.int .u32 a, Value.int .i64 n] 54)).drew.heap.size from by simp)
  clear hk
  go_enter Tryd.func78, Tryd.ntmps78
  go_wp2_with fail
  go_region_held (fun w' => w'.cell? ⟨w.heap.size, 0, none⟩ = some (.int .u32 a) ∧ w'.cell? ⟨w.heap.size, 1, none⟩ = some (.int .i64 n)) (refine ⟨?_, ?_⟩ <;> assumption) (first | (go_at_call 91; refine (make_any a n _).mono ?_; rintro e w2 ⟨rfl, hb2⟩; have k0 := keep hb2 HX.out.1; have k1 := keep hb2 HX.out.2; have HB2 := Lib.hid hb2; clear hb2))
  have HB := Lib.hid ((((Below.refl w.heap.size w).alloc (Nat.le_refl _) _).drew).trans (HB2.out.mono HZ.out))
  clear HB2
  go_wp2_with fail
  go_ret
  exact ⟨rfl, HB.out⟩

def errP (a n : Int) : Int := if okP a n then 0 else 20
theorem check_any (a n : Int) (w : World) :
    Calls Tryd.prog 78 #[.agg #[.int .u32 a, .int .i64 n]] w fun e w' => e = .returned (.int .i64 (errP a n)) ∧ Below w.heap.size w w' := by
  unfold errP
  rcases hk : okP a n with _ | _
  · exact check_false a n w hk
  · exact check_true a n w hk

/-- Does the prefix of this address and length hold an address? -/
def holdsP (a n b : Int) : Bool := a == mk b n && n == cl n

/-- Does the prefix a/n hold the prefix b/m? -/
def withinP (a n b m : Int) : Bool := okP b m && decide (n ≤ m) && holdsP a n b

/-- A prefix that came by value lies in a box of its own. -/
def Box (w : World) (g : Nat) (v0 v1 : Value) : Prop := w.rowIs g 54 2 (fun j => if j = 0 then v0 else v1)
theorem Box.new (w : World) (v0 v1 : Value) : Box (w.alloc (.cells #[v0, v1] 54)) w.heap.size v0 v1 :=
  World.rowIs_alloc w #[v0, v1] _ _ (fun i hi => by
    have : i = 0 ∨ i = 1 := by simp at hi; omega
    rcases this with rfl | rfl <;> rfl)
theorem Box.c0 {w : World} {g : Nat} {v0 v1 : Value} (h : Box w g v0 v1) : w.cell? ⟨g, 0, none⟩ = some v0 := World.rowIs.cell h (i := 0) (by omega)
theorem Box.c1 {w : World} {g : Nat} {v0 v1 : Value} (h : Box w g v0 v1) : w.cell? ⟨g, 1, none⟩ = some v1 := World.rowIs.cell h (i := 1) (by omega)
theorem Box.alloc {w : World} {g : Nat} {v0 v1 : Value} (h : Box w g v0 v1) (o : Obj) : Box (w.alloc o) g v0 v1 := World.rowIs.alloc h o
theorem Box.below {w w' : World} {g : Nat} {v0 v1 : Value} (h : Box w g v0 v1) (hb : Below w.heap.size w w') : Box w' g v0 v1 := World.rowIs.of_block h (hb.block _ (World.rowIs.lt h))
theorem Box.two (w : World) (v0 v1 u0 u1 : Value) : Box ((w.alloc (.cells #[v0, v1] 54)).alloc (.cells #[u0, u1] 54)) w.heap.size v0 v1 ∧ Box ((w.alloc (.cells #[v0, v1] 54)).alloc (.cells #[u0, u1] 54)) (w.heap.size + 1) u0 u1 := by
  refine ⟨(Box.new w v0 v1).alloc _, ?_⟩
  have h := Box.new (w.alloc (.cells #[v0, v1] 54)) u0 u1
  rwa [show (w.alloc (.cells #[v0, v1] 54)).heap.size = w.heap.size + 1 from by simp] at h
theorem below_two (w : World) (o1 o2 : Obj) : Below w.heap.size w ((w.alloc o1).alloc o2) := ((Below.refl _ _).alloc (Nat.le_refl _) _).alloc (by simp) _
theorem size_two (w : World) (o1 o2 : Obj) : w.heap.size ≤ ((w.alloc o1).alloc o2).heap.size := by simp; omega

/-- The order of prefixes. -/
def cmpP (a n b m : Int) : Int := if a = b ∧ n = m then 0 else if a < b ∨ a = b ∧ n < m then -1 else 1

/-- The i-th bit of an address, from the highest, 0, on. -/
def bitP (a i : Int) : Int := if i < 0 then 0 else if 31 < i then 0 else a / 2 ^ (31 - i).toNat % 2
end Go.Proofs.YtpeagakpmjnelaaDoor
namespace Go.Proofs.YtpeagakpmjnelaaDoor
open Go.RowKit

theorem fits4 {a : Int} (h0 : 0 ≤ a) (h1 : a < 4294967296) : fitsB a 4 = true := by
  unfold fitsB; rw [decide_eq_true h0, decide_eq_true (by rw [show (2 : Int) ^ (8 * 4) = 4294967296 from rfl]; exact h1)]; rfl

/-- The four bytes as a list of a fixed length. -/
def arr4 (l : List Int) : Value := .agg #[.int .u8 (l.getD 0 0), .int .u8 (l.getD 1 0), .int .u8 (l.getD 2 0), .int .u8 (l.getD 3 0)]

theorem row_four (w : World) (v0 v1 v2 v3 : Value) (t : TypeId) : (w.alloc (.cells #[v0, v1, v2, v3] t)).rowIs w.heap.size t 4 (fun j => #[v0, v1, v2, v3].getD j undef) :=
  World.rowIs_alloc w #[v0, v1, v2, v3] t _ (fun i hi => by
    have : i = 0 ∨ i = 1 ∨ i = 2 ∨ i = 3 := by simp at hi; omega
    rcases this with rfl | rfl | rfl | rfl <;> rfl)

theorem four_cells {w : World} {g : Nat} {t : TypeId} {f : Nat → Value} (h : w.rowIs g t 4 f) :
    (w.cell? ⟨g, 0, none⟩ = some (f 0) ∧ w.cell? ⟨g, 1, none⟩ = some (f 1) ∧ w.cell? ⟨g, 2, none⟩ = some (f 2) ∧ w.cell? ⟨g, 3, none⟩ = some (f 3)) ∧ (w.frozen? ⟨g, 0, none⟩ = false ∧ w.frozen? ⟨g, 1, none⟩ = false ∧ w.frozen? ⟨g, 2, none⟩ = false ∧ w.frozen? ⟨g, 3, none⟩ = false) :=
  ⟨⟨h.cell (by omega), h.cell (by omega), h.cell (by omega), h.cell (by omega)⟩, h.frozen 0, h.frozen 1, h.frozen 2, h.frozen 3⟩

theorem row4_block {w : World} {g : Nat} {t : TypeId} {f : Nat → Value} (h : w.rowIs g t 4 f) : w.heap[g]? = some (.cells #[f 0, f 1, f 2, f 3] t (0, 0)) := by
  obtain ⟨c, hb, hn, hc⟩ := h
  rw [hb]
  congr 2
  apply Array.ext_getElem?
  intro i
  rcases Nat.lt_or_ge i 4 with hi | hi
  · rw [hc i hi]
    have : i = 0 ∨ i = 1 ∨ i = 2 ∨ i = 3 := by omega
    rcases this with rfl | rfl | rfl | rfl <;> rfl
  · rw [Array.getElem?_eq_none (by omega), Array.getElem?_eq_none (by simp; omega)]

theorem copied4 {w : World} {g : Nat} {t : TypeId} {a : Int} (h : w.heap[g]? = some (.cells (splice [Value.int .u8 0, Value.int .u8 0, Value.int .u8 0, Value.int .u8 0] 0 ((putL a 4).map (Value.int .u8))).toArray t (0, 0))) :
    w.rowIs g t 4 (fun j => .int .u8 ((putL a 4).getD j 0)) := by
  have hl : ((putL a 4).map (Value.int .u8)).length = 4 := by rw [List.length_map, putL_len]
  rw [splice_all _ _ (by rw [hl]; rfl)] at h
  have := rowIs_of_list (f := fun j => .int .u8 ((putL a 4).getD j 0)) h (fun i hi => bytes_list _ i (by rw [List.length_map] at hi; exact hi))
  rwa [hl] at this

set_option maxRecDepth 100000 in
theorem apart_any (a : Int) (w : World) (h0 : 0 ≤ a) (h1 : a < 4294967296) :
    Calls Tryd.prog 80 #[.int .u32 a] w fun e w' => e = .returned (arr4 (putL a 4)) ∧ Below w.heap.size w w' := by
  have hf := fits4 h0 h1
  have S0 := Lib.hid (row_four w (.int .u8 0) (.int .u8 0) (.int .u8 0) (.int .u8 0) 125)
  obtain ⟨W1, hW1⟩ : ∃ W1, w.alloc (.cells #[Value.int .u8 0, Value.int .u8 0, Value.int .u8 0, Value.int .u8 0] 125) = W1 := ⟨_, rfl⟩
  have Z1 := Lib.hid (show W1.heap.size = w.heap.size + 1 by rw [← hW1]; simp)
  have S1 := Lib.hid (show (W1.alloc (.cells #[Value.int .u8 0, Value.int .u8 0, Value.int .u8 0, Value.int .u8 0] 125)).rowIs (w.heap.size + 1) 125 4 (fun j => #[Value.int .u8 0, Value.int .u8 0, Value.int .u8 0, Value.int .u8 0].getD j undef) by rw [← Z1.out]; exact row_four W1 _ _ _ _ _)
  have S0' := Lib.hid (show (W1.alloc (.cells #[Value.int .u8 0, Value.int .u8 0, Value.int .u8 0, Value.int .u8 0] 125)).rowIs w.heap.size 125 4 (fun j => #[Value.int .u8 0, Value.int .u8 0, Value.int .u8 0, Value.int .u8 0].getD j undef) by have := S0.out; rw [hW1] at this; exact this.alloc _)
  have B2 := Lib.hid (below_two w (.cells #[Value.int .u8 0, Value.int .u8 0, Value.int .u8 0, Value.int .u8 0] 125) (.cells #[Value.int .u8 0, Value.int .u8 0, Value.int .u8 0, Value.int .u8 0] 125))
  have Z2 := Lib.hid (show (W1.alloc (.cells #[Value.int .u8 0, Value.int .u8 0, Value.int .u8 0, Value.int .u8 0] 125)).heap.size = w.heap.size + 2 by simp [Z1.out])
  have hp := put_fits a 4 (W1.alloc (.cells #[Value.int .u8 0, Value.int .u8 0, Value.int .u8 0, Value.int .u8 0] 125)) (by omega) (by omega) hf
  rw [Z2.out] at hp
  have HP := Lib.hid hp
  have HW := Lib.hid hW1
  clear hp hW1
  go_enter Tryd.func80, Tryd.ntmps80
  go_wp2_with fail
  rw [HW.out]
  refine HP.out.mono ?_; rintro e w1 ⟨rfl, hr, hb⟩
  have HR := Lib.hid hr.list
  have T0 := Lib.hid (World.rowIs.of_block S0'.out (hb.block _ (by omega)))
  have T1 := Lib.hid (World.rowIs.of_block S1.out (hb.block _ (by omega)))
  have HB := Lib.hid (B2.out.trans (by rw [HW.out]; exact hb.mono (by omega)))
  clear hr hb
  go_wp2_with (refine wpList_copy_splice (o := ⟨some 14, _, _, _, _, _⟩) rfl (.tmp 12) (.tmp 13) 32 32 ?h0 5 Tryd.underlying32 size5 (some ⟨w.heap.size + 1, 0, none⟩) (some ⟨w.heap.size + 2, 0, none⟩) 4 4 4 4 ?h1 ?h2 (w.heap.size + 1) 0 [.int .u8 0, .int .u8 0, .int .u8 0, .int .u8 0] 125 ?c1 ((putL a 4).map (Value.int .u8)) ?c2 ?c3 ?c4 ?c6 (w.heap.size + 1) w1 ?c5 (Nat.le_refl _) ?_; (case h0 => rfl); (case h1 => rfl); (case h2 => rfl); (rotate_right; intro w2 HG hB2; have hcp := copied4 HG.out; have T2 := World.rowIs.of_block T0.out (hB2.block _ (by omega)); have HB2 := Lib.hid hB2; have H2 := Lib.hid T2; obtain ⟨⟨c0, c1, c2, c3⟩, _⟩ := four_cells hcp; obtain ⟨⟨d0, d1, d2, d3⟩, f0, f1, f2, f3⟩ := four_cells T2; clear hB2 T2 hcp))
  · have Z := HB2.out.size
    exact bodyPost_ret (v := arr4 (putL a 4)) (by simp [results, Tryd.results80, go_sem, arr4, d0, d1, d2, d3]) rfl ⟨rfl, ((((HB.out.trans (HB2.out.mono (by omega))).setCell (Nat.le_refl _) _).setCell (Nat.le_refl _) _).setCell (Nat.le_refl _) _).setCell (Nat.le_refl _) _⟩
  case c1 => exact row4_block T1.out
  case c2 => rw [List.length_map, putL_len]; rfl
  case c3 =>
    intro _ j x hj
    have hl : j < (putL a 4).length := by
      rcases Nat.lt_or_ge j (putL a 4).length with h | h
      · exact h
      · rw [List.getElem?_eq_none h] at hj; cases hj
    have := World.rowIs.cell HR.out hl
    rw [this]
    simp [List.getD, hj]
  case c4 => rw [List.length_map, putL_len]; decide
  case c6 =>
    intro v hv
    obtain ⟨x, _, rfl⟩ := List.mem_map.1 hv
    rfl
  case c5 => exact Below.refl _ _

theorem list_four {α : Type} {l : List α} (h : l.length = 4) : ∃ x y z u, l = [x, y, z, u] := by
  rcases l with _ | ⟨x, _ | ⟨y, _ | ⟨z, _ | ⟨u, _ | ⟨v, r⟩⟩⟩⟩⟩ <;> simp at h
  exact ⟨x, y, z, u, rfl⟩
theorem together_any (l : List Int) (w : World) (hl : l.length = 4) (hx : InByte l) :
    Calls Tryd.prog 93 #[arr4 l] w fun e w' => e = .returned (.int .u32 (getV l)) ∧ Below w.heap.size w w' := by
  have hv := getV_bd l hx 4 (by omega)
  rw [List.take_of_length_le (by omega)] at hv
  obtain ⟨v0, v1⟩ := hv
  have hp := pow_most (k := 4) (by omega)
  have hby : BytesAt (w.alloc (.cells #[Value.int .u8 (l.getD 0 0), .int .u8 (l.getD 1 0), .int .u8 (l.getD 2 0), .int .u8 (l.getD 3 0)] 125)) (some ⟨w.heap.size, 0, none⟩) l := by
    refine ⟨hx, .inr ⟨_, 0, rfl, fun i hi => ?_⟩⟩
    rw [Nat.zero_add, (row_four w _ _ _ _ _).cell (i := i) (by omega)]
    have : i = 0 ∨ i = 1 ∨ i = 2 ∨ i = 3 := by omega
    rcases this with rfl | rfl | rfl | rfl <;> rfl
  have hg := get_some _ l 4 _ (by omega) (by omega) hby
  rw [hl] at hg
  obtain ⟨x0, x1, x2, x3, rfl⟩ := list_four hl
  obtain ⟨V, hV⟩ : ∃ V, getV [x0, x1, x2, x3] = V := ⟨_, rfl⟩
  rw [hV] at hg v0 v1
  have HG := Lib.hid (show Calls Tryd.prog 63 #[.slice (some ⟨w.heap.size, 0, none⟩) 4 4] (w.alloc (.cells #[Value.int .u8 x0, .int .u8 x1, .int .u8 x2, .int .u8 x3] 125)) _ from hg)
  have HV := Lib.hid hV
  have hm : V % 4294967296 = V := by omega
  clear hg hby hx hV hl
  show Calls _ _ #[.agg #[.int .u8 x0, .int .u8 x1, .int .u8 x2, .int .u8 x3]] _ _
  go_enter Tryd.func93, Tryd.ntmps93
  go_wp2_with fail
  refine HG.out.mono ?_; rintro e w1 ⟨rfl, rfl⟩
  go_wp2_with fail
  go_ret
  exact ⟨by rw [HV.out]; rfl, (Below.refl _ _).alloc (Nat.le_refl _) _⟩
end Go.Proofs.YtpeagakpmjnelaaDoor
namespace Go.Proofs.YtpeagakpmjnelaaDoor
open Go.RowKit
theorem okP_len {a n : Int} (h : okP a n = true) : 0 ≤ n ∧ n ≤ 32 := by
  unfold okP at h
  rw [Bool.and_eq_true, decide_eq_true_eq, decide_eq_true_eq] at h
  have := bitsOf_le n
  have h2 := h.2
  unfold cl at h2
  omega
theorem str_eq {S : ByteArray} {a : Array UInt8} (h : S.data.toList = a.toList) : S = ⟨a⟩ := by
  cases S
  exact congrArg _ (Array.toList_inj.1 h)
theorem data_len (s : ByteArray) : s.data.toList.length = s.size := by simp
theorem Box.f {w : World} {g : Nat} {v0 v1 : Value} (h : Box w g v0 v1) (j : Nat) : w.frozen? ⟨g, j, none⟩ = false := World.rowIs.frozen h j
theorem Box.drewN {w : World} {g : Nat} {v0 v1 : Value} (h : Box w g v0 v1) (n : Nat) : Box (w.drewN n) g v0 v1 := h

theorem Box.stored {w : World} {g : Nat} {v0 v1 : Value} (h : Box w g v0 v1) (u0 u1 : Value) : Box ((w.setCell ⟨g, 0, none⟩ u0).setCell ⟨g, 1, none⟩ u1) g u0 u1 :=
  ((World.rowIs.set h 0 u0).set 1 u1).congr fun i hi => by
    have : i = 0 ∨ i = 1 := by omega
    rcases this with rfl | rfl <;> rfl
end Go.Proofs.YtpeagakpmjnelaaDoor
namespace Go.Proofs.YtpeagakpmjnelaaDoor
open Go.RowKit

theorem bytesOf_any (n : Int) (w : World) (h0 : 0 ≤ n) (h1 : n ≤ 1000) :
    Calls Tryd.prog 81 #[.int .i64 n] w fun e w' => e = .returned (.int .i64 ((n + 7) / 8)) ∧ w = w' := by
  go_enter Tryd.func81, Tryd.ntmps81
  go_wp2_with fail
  go_ret
  exact ⟨rfl, rfl⟩

/-- A prefix's bytes: its length, and as many of its address's as hold that many bits. -/
def pfxL (a n : Int) : List Int := n :: (putL a 4).take ((n.toNat + 7) / 8)

theorem putp_no (a n : Int) (w : World) (hk : okP a n = false) :
    Calls Tryd.prog 57 #[.agg #[.int .u32 a, .int .i64 n]] w fun e w' => e = .returned (.tuple #[.slice none 0 0, .int .i64 20]) ∧ Below w.heap.size w w' := by
  have HC := Lib.hid (check_false a n (w.alloc (.cells #[.int .u32 a, .int .i64 n] 54)) hk)
  have HB := Lib.hid ((Below.refl w.heap.size w).alloc (Nat.le_refl _) (.cells #[.int .u32 a, .int .i64 n] 54))
  clear hk
  go_enter Tryd.func57, Tryd.ntmps57
  go_wp2_with fail
  refine HC.out.mono ?_; rintro e w1 ⟨rfl, hb1⟩
  have HB1 := Lib.hid (HB.out.trans (hb1.mono HB.out.size))
  clear hb1
  go_wp2_with fail
  go_ret2
  exact ⟨rfl, HB1.out⟩

/-- The bytes of a slice that is new: its block holds just them. -/
def NewBytes (w w' : World) (xs : List Int) (e : Ending) : Prop := ∃ g, e = .returned (.tuple #[.slice (some ⟨g, 0, none⟩) xs.length xs.length, .int .i64 0]) ∧ BRow w' g xs ∧ InByte xs ∧ w.heap.size ≤ g ∧ Below w.heap.size w w'

theorem size_alloc1 (w : World) (o : Obj) : (w.alloc o).heap.size = w.heap.size + 1 := by simp

theorem splice_one (N : Int) (k : Nat) (cs : List Value) (hc : cs.length = k) :
    splice ((madeCells #[Value.int .u8 0] (1 + k)).setIfInBounds 0 (Value.int .u8 N)).toList 1 cs = .int .u8 N :: cs := by
  have hl : ((madeCells #[Value.int .u8 0] (1 + k)).setIfInBounds 0 (Value.int .u8 N)).toList.length = 1 + k := by simp [size_madeCells]
  have h0 : ((madeCells #[Value.int .u8 0] (1 + k)).setIfInBounds 0 (Value.int .u8 N)).toList[0]? = some (.int .u8 N) := by
    rw [Array.getElem?_toList, Array.getElem?_setIfInBounds, if_pos rfl, if_pos (by rw [size_madeCells]; omega)]
  generalize ((madeCells #[Value.int .u8 0] (1 + k)).setIfInBounds 0 (Value.int .u8 N)).toList = L at hl h0
  rcases L with _ | ⟨v, r⟩
  · simp at h0
  · simp at h0
    subst h0
    unfold splice
    rw [hc, List.drop_eq_nil_of_le (by omega)]
    simp

theorem take_bytes {l : List Int} {k : Nat} (h : InByte l) (N : Int) (h0 : 0 ≤ N) (h1 : N ≤ 255) : InByte (N :: l.take k) := by
  intro i hi
  rcases i with _ | i
  · exact ⟨h0, h1⟩
  · simp only [List.length_cons, List.length_take] at hi
    have e : (N :: l.take k).getD (i + 1) 0 = l.getD i 0 := by
      simp [List.getD, List.getElem?_take_of_lt (show i < k by omega)]
    rw [e]; exact h i (by omega)

theorem putp_ok (a n : Int) (w : World) (h0 : 0 ≤ a) (h1 : a < 4294967296) (hk : okP a n = true) :
    Calls Tryd.prog 57 #[.agg #[.int .u32 a, .int .i64 n]] w fun e w' => NewBytes w w' (pfxL a n) e := by
  have ⟨n0, n1⟩ := okP_len hk
  obtain ⟨N, rfl⟩ := Int.eq_ofNat_of_zero_le n0
  have HC := Lib.hid (check_true a N (w.alloc (.cells #[.int .u32 a, .int .i64 N] 54)) hk)
  have HB := Lib.hid ((Below.refl w.heap.size w).alloc (Nat.le_refl _) (.cells #[.int .u32 a, .int .i64 N] 54))
  have HX := Lib.hid (Box.new w (.int .u32 a) (.int .i64 N))
  have hby := putL_byte a 4
  have hpl := putL_len a 4
  have hAP := fun W => apart_any a W h0 h1
  unfold pfxL
  obtain ⟨l, hl⟩ : ∃ l, putL a 4 = l := ⟨_, rfl⟩
  rw [hl] at hby hpl hAP ⊢
  obtain ⟨x0, x1, x2, x3, rfl⟩ := list_four hpl
  have HAP := Lib.hid (show ∀ W, Calls Tryd.prog 80 #[.int .u32 a] W fun e w' => e = .returned (.agg #[.int .u8 x0, .int .u8 x1, .int .u8 x2, .int .u8 x3]) ∧ Below W.heap.size W w' from hAP)
  have HBY := Lib.hid hby
  obtain ⟨k, hkk⟩ : ∃ k, (N + 7) / 8 = k := ⟨_, rfl⟩
  have hk4 : k ≤ 4 := by omega
  have hki : ((N : Int) + 7) / 8 = (k : Int) := by omega
  have hmk := run_make_row' (P := Tryd.prog) 32 5 (.int .u8 0) 1 Tryd.underlying32 info5 rfl .i64 .i64 (1 + k) (by omega) (by omega)
  have ec : ((1 + k : Nat) : Int) = 1 + (k : Int) := by omega
  rw [ec] at hmk
  have HKI := Lib.hid hki
  have HK := Lib.hid hkk
  clear hk hl hpl hAP hby hki hkk ec
  go_enter Tryd.func57, Tryd.ntmps57
  go_wp2_with fail
  refine HC.out.mono ?_; rintro e w1 ⟨rfl, hb1⟩
  have HB1 := Lib.hid (HB.out.trans (hb1.mono HB.out.size))
  have HX1 := Lib.hid (HX.out.below hb1)
  have c0 := HX1.out.c0
  clear hb1
  go_wp2_with fail
  refine (HAP.out _).mono ?_; rintro e w2 ⟨rfl, hb2⟩
  have HB2 := Lib.hid (HB1.out.trans (hb2.mono HB1.out.size))
  have HX2 := Lib.hid (HX1.out.below hb2)
  have HB3 := Lib.hid (HB2.out.alloc HB2.out.size (.cells #[.int .u8 x0, .int .u8 x1, .int .u8 x2, .int .u8 x3] 125))
  have HX3 := HX2.out.alloc (.cells #[.int .u8 x0, .int .u8 x1, .int .u8 x2, .int .u8 x3] 125)
  have HR3 := Lib.hid (row_four w2 (.int .u8 x0) (.int .u8 x1) (.int .u8 x2) (.int .u8 x3) 125)
  have hz : w.heap.size < w2.heap.size := World.rowIs.lt HX2.out
  have d1 := HX2.out.c1
  clear hb2 c0
  go_wp2_with fail
  refine (bytesOf_any N _ n0 (by omega)).mono ?_; rintro e w3 ⟨rfl, rfl⟩
  rw [HKI.out]
  have hm0 : (madeCells #[Value.int IntKind.u8 0] (1 + k))[0]? = some (.int .u8 0) := by
    have h : 0 < 1 + k := by omega
    simp [madeCells, h, Nat.mod_one]
  obtain ⟨arr, hA⟩ : ∃ arr, (madeCells #[Value.int IntKind.u8 0] (1 + k)).setIfInBounds 0 (Value.int .u8 N) = arr := ⟨_, rfl⟩
  have HA := Lib.hid hA
  clear hA
  go_wp2_with fail
  rw [HA.out]
  obtain ⟨W, hW⟩ : ∃ W, (w2.alloc (.cells #[.int .u8 x0, .int .u8 x1, .int .u8 x2, .int .u8 x3] 125)).alloc (.cells arr 5) = W := ⟨_, rfl⟩
  have HG := Lib.hid (show W.drew.heap[w2.heap.size + 1]? = some (.cells arr.toList.toArray 5 (0, 0)) by
    rw [← hW, Array.toArray_toList, ← size_alloc1 w2 (.cells #[.int .u8 x0, .int .u8 x1, .int .u8 x2, .int .u8 x3] 125)]
    exact Go.Deep.blk_alloc_new _ _)
  have HR := Lib.hid (show W.drew.rowIs w2.heap.size 125 4 (fun j => #[Value.int .u8 x0, .int .u8 x1, .int .u8 x2, .int .u8 x3].getD j undef) by rw [← hW]; exact HR3.out.alloc _)
  have HB4 := Lib.hid (show Below w.heap.size w W.drew by rw [← hW]; exact (HB3.out.alloc HB3.out.size _).drew)
  rw [hW]
  clear hW HR3 HB3
  obtain ⟨cs, hcs⟩ : ∃ cs, ([x0, x1, x2, x3].take k).map (Value.int .u8) = cs := ⟨_, rfl⟩
  have hcl : cs.length = k := by rw [← hcs]; simp; omega
  have HCL := Lib.hid hcl
  have HSRC := Lib.hid (show ∀ j v, cs[j]? = some v → W.drew.cell? ((⟨w2.heap.size, 0, none⟩ : Addr).add j) = some v by
    intro j v hj
    have hjk : j < k := by
      rcases Nat.lt_or_ge j k with h | h
      · exact h
      · rw [List.getElem?_eq_none (by omega)] at hj; cases hj
    rw [show (⟨w2.heap.size, 0, none⟩ : Addr).add j = ⟨w2.heap.size, j, none⟩ from by unfold Addr.add; split <;> simp_all, HR.out.cell (i := j) (by omega), ← hj, ← hcs]
    have h4 : j = 0 ∨ j = 1 ∨ j = 2 ∨ j = 3 := by omega
    rcases h4 with rfl | rfl | rfl | rfl <;> simp [hjk])
  have H1 := Lib.hid (show ∀ v ∈ cs, v.oneCell' = true by
    intro v hv
    rw [← hcs] at hv
    obtain ⟨x, _, rfl⟩ := List.mem_map.1 hv
    rfl)
  have HFIT := Lib.hid (show 1 + cs.length ≤ arr.toList.length by rw [hcl, ← HA.out]; simp [size_madeCells])
  have HCS := Lib.hid hcs
  clear hcs hcl
  have HL := Lib.hid (show (([x0, x1, x2, x3] : List Int).take ((N + 7) / 8)).length = k by rw [HK.out]; simp; omega)
  have HEND := Lib.hid (show ∀ w4 : World, w4.heap[w2.heap.size + 1]? = some (.cells (splice arr.toList 1 cs).toArray 5 (0, 0)) → BRow w4 (w2.heap.size + 1) ((N : Int) :: ([x0, x1, x2, x3] : List Int).take ((N + 7) / 8)) by
    intro w4 hg
    rw [← HA.out, splice_one N k cs HCL.out, ← HCS.out] at hg
    have := rowIs_of_list (f := fun j => .int .u8 (((N : Int) :: ([x0, x1, x2, x3] : List Int).take k).getD j 0)) hg (fun i hi => by
      have := bytes_list ((N : Int) :: ([x0, x1, x2, x3] : List Int).take k) i (by simpa using hi)
      simpa using this)
    unfold BRow
    rw [HK.out]
    simpa using this)
  by_cases hk0 : k = 0
  · subst hk0
    go_region_law (refine step_copy_splice rfl (.tmp 26) (.tmp 27) 32 32 rfl 5 Tryd.underlying32 size5 (some ⟨w2.heap.size + 1, 0, none⟩) (some ⟨w2.heap.size, 0, none⟩) 0 0 4 4 (by simp [Act.eval, Act.put]) (by simp [Act.eval, Act.put]) (w2.heap.size + 1) 1 arr.toList 5 HG.out cs (by rw [HCL.out]; rfl) (fun h => absurd h (by rw [HCL.out]; omega)) HFIT.out H1.out (w2.heap.size + 1) W.drew (Below.refl _ _) (Nat.le_refl _) ?_; intro w4 hg4 hb4)
    go_wp2_with fail
    go_ret2
    exact ⟨w2.heap.size + 1, by rw [List.length_cons, Int.toNat_natCast, HL.out]; rfl, HEND.out _ hg4.out, take_bytes HBY.out N n0 (by omega), by omega, HB4.out.trans (hb4.mono (by omega))⟩
  · have h1k : (1 : Int) ≤ 1 + (k : Int) := by omega
    go_region_law (refine step_copy_splice rfl (.tmp 26) (.tmp 27) 32 32 rfl 5 Tryd.underlying32 size5 (some ⟨w2.heap.size + 1, 1, none⟩) (some ⟨w2.heap.size, 0, none⟩) k k 4 4 (by simp [Act.eval, Act.put]) (by simp [Act.eval, Act.put]) (w2.heap.size + 1) 1 arr.toList 5 HG.out cs (by rw [HCL.out]; exact (Nat.min_eq_right hk4).symm) (fun _ => ⟨rfl, _, rfl, HSRC.out⟩) HFIT.out H1.out (w2.heap.size + 1) W.drew (Below.refl _ _) (Nat.le_refl _) ?_; intro w4 hg4 hb4)
    go_wp2_with fail
    go_ret2
    exact ⟨w2.heap.size + 1, by rw [List.length_cons, Int.toNat_natCast, HL.out, Nat.add_comm k 1]; rfl, HEND.out _ hg4.out, take_bytes HBY.out N n0 (by omega), by omega, HB4.out.trans (hb4.mono (by omega))⟩
end Go.Proofs.YtpeagakpmjnelaaDoor
namespace Go.Proofs.YtpeagakpmjnelaaDoor
open Go.RowKit

/-- The prefix that bytes begin with, and how many of them it has, if any: its address is taken as it stands there. -/
def gotP : List Int → Option (Int × Int × Nat)
  | [] => none
  | n :: r => if 32 < n then none else if r.length < (n.toNat + 7) / 8 then none else some (getV (r.take ((n.toNat + 7) / 8) ++ List.replicate (4 - (n.toNat + 7) / 8) 0), n, (n.toNat + 7) / 8 + 1)

def GotOut (o : Option (Int × Int × Nat)) (e : Ending) : Prop := match o with
  | none => e = .returned (.tuple #[.agg #[.int .u32 0, .int .i64 0], .int .i64 0, .int .i64 20])
  | some (v, n, c) => e = .returned (.tuple #[.agg #[.int .u32 (mk v n), .int .i64 (cl n)], .int .i64 c, .int .i64 0])

theorem inByte_pad {xs : List Int} (h : InByte xs) (k m : Nat) : InByte (xs.take k ++ List.replicate m 0) := by
  intro i hi
  rcases Nat.lt_or_ge i (xs.take k).length with hl | hl
  · have e : (xs.take k ++ List.replicate m 0).getD i 0 = xs.getD i 0 := by
      simp only [List.length_take] at hl
      simp [List.getD, List.getElem?_append_left (show i < (xs.take k).length by simp; omega), List.getElem?_take_of_lt (show i < k by omega)]
    rw [e]; exact h i (by simp only [List.length_take] at hl; omega)
  · have e : (xs.take k ++ List.replicate m 0).getD i 0 = 0 := by
      simp only [List.length_append, List.length_replicate] at hi
      simp [List.getD, List.getElem?_append_right hl, List.getElem?_replicate]
      split <;> rfl
    rw [e]; omega

theorem splice_four (r : List Int) (k : Nat) (hk : k ≤ r.length) (h4 : k ≤ 4) :
    splice [Value.int .u8 0, Value.int .u8 0, Value.int .u8 0, Value.int .u8 0] 0 ((r.take k).map (Value.int .u8)) = (r.take k ++ List.replicate (4 - k) 0).map (Value.int .u8) := by
  unfold splice
  have hl : ((r.take k).map (Value.int .u8)).length = k := by simp; omega
  rw [hl, List.map_append]
  have : k = 0 ∨ k = 1 ∨ k = 2 ∨ k = 3 ∨ k = 4 := by omega
  rcases this with rfl | rfl | rfl | rfl | rfl <;> simp

theorem getp_any (p : Option Addr) (xs : List Int) (cap : Nat) (w : World) (hb : BytesAt w p xs) (hl : xs.length ≤ cap) (hcap : cap ≤ 9223372036854775807) :
    Calls Tryd.prog 82 #[.slice p xs.length cap] w fun e w' => GotOut (gotP xs) e ∧ Below w.heap.size w w' := by
  obtain ⟨hx, hb⟩ := hb
  have HB0 := Lib.hid ((Below.refl w.heap.size w).alloc (Nat.le_refl _) (.cells #[.int .u32 0, .int .i64 0] 54))
  have HX0 := Lib.hid (Box.new w (.int .u32 0) (.int .i64 0))
  rcases xs with _ | ⟨n, r⟩
  · clear hb hx hl
    go_enter Tryd.func82, Tryd.ntmps82
    go_wp2_with fail
    exact bodyPost_ret (v := .tuple #[.agg #[.int .u32 0, .int .i64 0], .int .i64 0, .int .i64 20]) (by simp [results, Tryd.results82, go_sem]) rfl ⟨rfl, HB0.out⟩
  · obtain ⟨b, off, rfl, hc⟩ := hb.resolve_left (by simp)
    have hn0 : 0 ≤ n ∧ n ≤ 255 := hx 0 (by simp)
    obtain ⟨n0, n255⟩ := hn0
    have hx' : InByte r := fun i hi => hx (i + 1) (by simpa using hi)
    have c0 : w.cell? ⟨b, off, none⟩ = some (.int .u8 n) := hc 0 (by simp)
    have hcr : ∀ i, i < r.length → w.cell? ⟨b, off + 1 + i, none⟩ = some (.int .u8 (r.getD i 0)) := fun i hi => by
      have := hc (i + 1) (by simpa using hi)
      rw [show off + 1 + i = off + (i + 1) by omega]; simpa using this
    have d0 := keep HB0.out c0
    have e0 := HX0.out.c0
    have e1 := HX0.out.c1
    have f0 := HX0.out.f 0
    have f1 := HX0.out.f 1
    clear hx hc hb
    rw [List.length_cons] at hl ⊢
    obtain ⟨N, rfl⟩ := Int.eq_ofNat_of_zero_le n0
    by_cases hn : 32 < N
    · have HP := Lib.hid (show gotP ((N : Int) :: r) = none by simp only [gotP]; rw [if_pos (by omega)])
      clear hcr hx'
      generalize r.length = L at *
      have t1 : ((L : Int) + 1 == 0) = false := by simp; omega
      have t2 : decide ((32 : Int) < (N : Int)) = true := by simp; omega
      go_enter Tryd.func82, Tryd.ntmps82
      go_wp2_with fail
      exact bodyPost_ret (v := .tuple #[.agg #[.int .u32 0, .int .i64 0], .int .i64 0, .int .i64 20]) (by simp [results, Tryd.results82, go_sem, e0, e1]) rfl ⟨by rw [HP.out]; rfl, HB0.out⟩
    · obtain ⟨k, hkk⟩ : ∃ k, (N + 7) / 8 = k := ⟨_, rfl⟩
      have hk4 : k ≤ 4 := by omega
      have hki : ((N : Int) + 7) / 8 = (k : Int) := by omega
      by_cases hs : r.length < k
      · have HP := Lib.hid (show gotP ((N : Int) :: r) = none by simp only [gotP]; rw [if_neg (by omega), if_pos (by simpa [hkk] using hs)])
        have HKI := Lib.hid hki
        clear hcr hx' hki hkk
        generalize r.length = L at *
        have t1 : ((L : Int) + 1 == 0) = false := by simp; omega
        have t2 : decide ((32 : Int) < (N : Int)) = false := by simp; omega
        go_enter Tryd.func82, Tryd.ntmps82
        go_wp2_with fail
        refine (bytesOf_any N _ n0 (by omega)).mono ?_; rintro e w3 ⟨rfl, rfl⟩
        rw [HKI.out]
        go_wp2_with fail
        exact bodyPost_ret (v := .tuple #[.agg #[.int .u32 0, .int .i64 0], .int .i64 0, .int .i64 20]) (by simp [results, Tryd.results82, go_sem, e0, e1]) rfl ⟨by rw [HP.out]; rfl, HB0.out⟩
      · have hs' : k ≤ r.length := by omega
        have HP := Lib.hid (show gotP ((N : Int) :: r) = some (getV (r.take k ++ List.replicate (4 - k) 0), (N : Int), k + 1) by simp only [gotP]; rw [if_neg (by omega), if_neg (by simp [hkk]; omega)]; simp [hkk])
        have HKI := Lib.hid hki
        have HF := Lib.hid (inByte_pad hx' k (4 - k))
        have HFL := Lib.hid (show (r.take k ++ List.replicate (4 - k) 0).length = 4 by simp; omega)
        have HSP := Lib.hid (splice_four r k hs' hk4)
        obtain ⟨W, hW⟩ : ∃ W, (w.alloc (.cells #[.int .u32 0, .int .i64 0] 54)).alloc (.cells #[.int .u8 0, .int .u8 0, .int .u8 0, .int .u8 0] 125) = W := ⟨_, rfl⟩
        have HBW := Lib.hid (show Below w.heap.size w W.drew by rw [← hW]; exact (HB0.out.alloc HB0.out.size _).drew)
        have HXW := Lib.hid (show Box W.drew w.heap.size (.int .u32 0) (.int .i64 0) by rw [← hW]; exact HX0.out.alloc _)
        have HG := Lib.hid (show W.drew.heap[w.heap.size + 1]? = some (.cells [Value.int .u8 0, .int .u8 0, .int .u8 0, .int .u8 0].toArray 125 (0, 0)) by
          rw [← hW, ← size_alloc1 w (.cells #[.int .u32 0, .int .i64 0] 54)]
          exact Go.Deep.blk_alloc_new _ _)
        obtain ⟨cs, hcs⟩ : ∃ cs, (r.take k).map (Value.int .u8) = cs := ⟨_, rfl⟩
        have HCL := Lib.hid (show cs.length = k by rw [← hcs]; simp; omega)
        have HSRC := Lib.hid (show ∀ j v, cs[j]? = some v → W.drew.cell? ((⟨b, off + 1, none⟩ : Addr).add j) = some v by
          intro j v hj
          have hjk : j < k := by
            rcases Nat.lt_or_ge j k with h | h
            · exact h
            · rw [List.getElem?_eq_none (by rw [HCL.out]; omega)] at hj; cases hj
          rw [show (⟨b, off + 1, none⟩ : Addr).add j = ⟨b, off + 1 + j, none⟩ from by unfold Addr.add; split <;> simp_all, keep HBW.out (hcr j (by omega)), ← hj, ← hcs]
          have hjr : j < r.length := by omega
          simp [hjk, List.getD, List.getElem?_eq_getElem hjr])
        have H1 := Lib.hid (show ∀ v ∈ cs, v.oneCell' = true by
          intro v hv
          rw [← hcs] at hv
          obtain ⟨x, _, rfl⟩ := List.mem_map.1 hv
          rfl)
        have HCS := Lib.hid hcs
        have HL := Lib.hid (show r.length = r.length from rfl)
        obtain ⟨four, hfour⟩ : ∃ four, r.take k ++ List.replicate (4 - k) 0 = four := ⟨_, rfl⟩
        rw [hfour] at HP HF HFL HSP
        obtain ⟨x0, x1, x2, x3, rfl⟩ := list_four HFL.out
        have HTG := Lib.hid (show ∀ w, Calls Tryd.prog 93 #[.agg #[.int .u8 x0, .int .u8 x1, .int .u8 x2, .int .u8 x3]] w fun e w' => e = .returned (.int .u32 (getV [x0, x1, x2, x3])) ∧ Below w.heap.size w w' from fun w => together_any [x0, x1, x2, x3] w rfl HF.out)
        obtain ⟨V, hV⟩ : ∃ V, getV [x0, x1, x2, x3] = V := ⟨_, rfl⟩
        rw [hV] at HP HTG
        have HROW := Lib.hid (show ∀ w4 : World, w4.heap[w.heap.size + 1]? = some (.cells (splice [Value.int .u8 0, .int .u8 0, .int .u8 0, .int .u8 0] 0 cs).toArray 125 (0, 0)) → w4.rowIs (w.heap.size + 1) 125 4 (fun j => #[Value.int .u8 x0, .int .u8 x1, .int .u8 x2, .int .u8 x3].getD j undef) by
          intro w4 hg
          rw [← hcs, HSP.out] at hg
          exact ⟨_, hg, rfl, fun i hi => by
            have h4 : i = 0 ∨ i = 1 ∨ i = 2 ∨ i = 3 := by omega
            rcases h4 with rfl | rfl | rfl | rfl <;> rfl⟩)
        have HW := Lib.hid hW
        clear hcs hW hcr hx' hki hkk hfour HL HFL HF HSP hV
        generalize r.length = L at *
        have t1 : ((L : Int) + 1 == 0) = false := by simp; omega
        have t2 : decide ((32 : Int) < (N : Int)) = false := by simp; omega
        go_enter Tryd.func82, Tryd.ntmps82
        go_wp2_with fail
        refine (bytesOf_any N _ n0 (by omega)).mono ?_; rintro e w3 ⟨rfl, rfl⟩
        rw [HKI.out]
        go_wp2_with fail
        rw [HW.out]
        clear e0 e1 f0 f1 d0
        by_cases hc1 : cap = 1
        · obtain rfl : k = 0 := by omega
          subst hc1
          go_region_law (refine step_copy_splice rfl (.tmp 30) (.tmp 33) 32 32 rfl 5 Tryd.underlying32 size5 (some ⟨w.heap.size + 1, 0, none⟩) (some ⟨b, off, none⟩) 4 4 0 0 (by simp [Act.eval, Act.put]) (by simp [Act.eval, Act.put]) (w.heap.size + 1) 0 [.int .u8 0, .int .u8 0, .int .u8 0, .int .u8 0] 125 HG.out cs (HCL.out.trans (Nat.min_eq_left (by omega)).symm) (fun h => absurd h (by rw [HCL.out]; omega)) (by rw [HCL.out]; simp) H1.out (w.heap.size + 1) W.drew (Below.refl _ _) (Nat.le_refl _) ?_; intro w4 hg4 hb4)
          have hrow := HROW.out _ hg4.out
          obtain ⟨⟨d0, d1, d2, d3⟩, _⟩ := four_cells hrow
          have HB4 := Lib.hid (HBW.out.trans (hb4.mono (by omega)))
          have HX4 := Lib.hid (World.rowIs.of_block HXW.out (hb4.block _ (by omega)))
          clear hrow hg4 hb4
          go_wp2_with fail
          refine (HTG.out _).mono ?_; rintro e w5 ⟨rfl, hb5⟩
          have HB5 := Lib.hid (HB4.out.trans (hb5.mono HB4.out.size))
          have HX5 := Lib.hid (Box.below HX4.out hb5)
          clear d0 d1 d2 d3 hb5
          go_wp2_with fail
          refine (make_any V N _).mono ?_; rintro e w6 ⟨rfl, hb6⟩
          have HB6 := Lib.hid (HB5.out.trans (hb6.mono HB5.out.size))
          have HX6 := HX5.out.below hb6
          have e0 := HX6.c0
          have e1 := HX6.c1
          have f0 := HX6.f 0
          have f1 := HX6.f 1
          clear hb6 HX6
          go_wp2_with fail
          exact bodyPost_ret (v := .tuple #[.agg #[.int .u32 (mk V N), .int .i64 (cl N)], .int .i64 1, .int .i64 0]) (by simp [results, Tryd.results82, go_sem, e0, e1]) rfl ⟨by rw [HP.out]; rfl, (HB6.out.setCell (Nat.le_refl _) _).setCell (Nat.le_refl _) _⟩
        · have g1 : 0 ≤ 1 + (k : Int) ∧ 1 + (k : Int) ≤ (cap : Int) := by omega
          have g2 : (1 : Int) ≤ max (1 + (k : Int)) 0 := by omega
          have g3 : (1 + (k : Int)).toNat - 1 = k := by omega
          go_region_law (refine step_copy_splice rfl (.tmp 30) (.tmp 33) 32 32 rfl 5 Tryd.underlying32 size5 (some ⟨w.heap.size + 1, 0, none⟩) (some ⟨b, off + 1, none⟩) 4 4 k (cap - 1) (by simp [Act.eval, Act.put]) (by simp [Act.eval, Act.put]) (w.heap.size + 1) 0 [.int .u8 0, .int .u8 0, .int .u8 0, .int .u8 0] 125 HG.out cs (HCL.out.trans (Nat.min_eq_left (by omega)).symm) (fun _ => ⟨rfl, _, rfl, HSRC.out⟩) (by rw [HCL.out]; simp; omega) H1.out (w.heap.size + 1) W.drew (Below.refl _ _) (Nat.le_refl _) ?_; intro w4 hg4 hb4)
          have hrow := HROW.out _ hg4.out
          obtain ⟨⟨d0, d1, d2, d3⟩, _⟩ := four_cells hrow
          have HB4 := Lib.hid (HBW.out.trans (hb4.mono (by omega)))
          have HX4 := Lib.hid (World.rowIs.of_block HXW.out (hb4.block _ (by omega)))
          clear hrow hg4 hb4
          go_wp2_with fail
          refine (HTG.out _).mono ?_; rintro e w5 ⟨rfl, hb5⟩
          have HB5 := Lib.hid (HB4.out.trans (hb5.mono HB4.out.size))
          have HX5 := Lib.hid (Box.below HX4.out hb5)
          clear d0 d1 d2 d3 hb5
          go_wp2_with fail
          refine (make_any V N _).mono ?_; rintro e w6 ⟨rfl, hb6⟩
          have HB6 := Lib.hid (HB5.out.trans (hb6.mono HB5.out.size))
          have HX6 := HX5.out.below hb6
          have e0 := HX6.c0
          have e1 := HX6.c1
          have f0 := HX6.f 0
          have f1 := HX6.f 1
          clear hb6 HX6
          go_wp2_with fail
          exact bodyPost_ret (v := .tuple #[.agg #[.int .u32 (mk V N), .int .i64 (cl N)], .int .i64 (1 + (k : Int)), .int .i64 0]) (by simp [results, Tryd.results82, go_sem, e0, e1]) rfl ⟨by rw [HP.out, Int.add_comm 1 (k : Int)]; rfl, (HB6.out.setCell (Nat.le_refl _) _).setCell (Nat.le_refl _) _⟩
end Go.Proofs.YtpeagakpmjnelaaDoor
namespace Go.Proofs.YtpeagakpmjnelaaDoor
open Go.RowKit

theorem mk_div (X K : Nat) (hx : X < 4294967296) (hk : K ≤ 32) : mk X K = ((X / 2 ^ (32 - K) * 2 ^ (32 - K) : Nat) : Int) := by
  have hb : bitsOf (K : Int) = K := by unfold bitsOf; rw [if_neg (by omega), if_neg (by omega)]; rfl
  have hp : 2 ^ (32 - K) ≤ 4294967296 := Nat.pow_le_pow_right (n := 2) (by omega) (show 32 - K ≤ 32 by omega)
  have hp0 : 0 < 2 ^ (32 - K) := Nat.pow_pos (by omega)
  unfold mk mask
  rw [hb, u32_and_nat X (4294967296 - 2 ^ (32 - K)) hx (by omega)]
  have := nat_midmask 32 (32 - K) X (by omega)
  rw [show (2 : Nat) ^ 32 = 4294967296 from rfl, Nat.mod_eq_of_lt hx] at this
  rw [this]

theorem div_le' (X p : Nat) : X / 2 ^ p * 2 ^ p ≤ X := Nat.div_mul_le_self X _
theorem nest (X p q : Nat) (h : p ≤ q) : X / 2 ^ p * 2 ^ p / 2 ^ q * 2 ^ q = X / 2 ^ q * 2 ^ q := by
  have e : 2 ^ q = 2 ^ p * 2 ^ (q - p) := by rw [← Nat.pow_add]; congr 1; omega
  have hp0 : 0 < 2 ^ p := Nat.pow_pos (by omega)
  congr 1
  rw [e, ← Nat.div_div_eq_div_mul, Nat.mul_div_cancel _ hp0, Nat.div_div_eq_div_mul]

theorem mk_mk (x n m : Int) (h0 : 0 ≤ x) (h1 : x < 4294967296) (n0 : 0 ≤ n) (hnm : n ≤ m) (m1 : m ≤ 32) : mk (mk x m) n = mk x n := by
  obtain ⟨X, rfl⟩ := Int.eq_ofNat_of_zero_le h0
  obtain ⟨N, rfl⟩ := Int.eq_ofNat_of_zero_le n0
  obtain ⟨M, rfl⟩ := Int.eq_ofNat_of_zero_le (show 0 ≤ m by omega)
  have := div_le' X (32 - M)
  rw [mk_div X M (by omega) (by omega), mk_div _ N (by omega) (by omega), mk_div X N (by omega) (by omega), nest X (32 - M) (32 - N) (by omega)]

theorem cl_len {n : Int} (h : n = cl n) : 0 ≤ n ∧ n ≤ 32 := by
  have := bitsOf_le n
  unfold cl at h; omega

theorem holds_parts {a n x : Int} (h : holdsP a n x = true) : a = mk x n ∧ n = cl n ∧ 0 ≤ n ∧ n ≤ 32 := by
  unfold holdsP at h
  rw [Bool.and_eq_true, beq_iff_eq, beq_iff_eq] at h
  exact ⟨h.1, h.2, cl_len h.2⟩

theorem within_of {a n b m x : Int} (h0 : 0 ≤ x) (h1 : x < 4294967296) (h : holdsP a n x = true) (h' : holdsP b m x = true) (hnm : n ≤ m) : withinP a n b m = true := by
  obtain ⟨ea, ec, n0, n1⟩ := holds_parts h
  obtain ⟨eb, ed, m0, m1⟩ := holds_parts h'
  have e1 : b = mk b m := by rw [eb, mk_mk x m m h0 h1 m0 (Int.le_refl _) m1]
  have e2 : a = mk b n := by rw [eb, mk_mk x n m h0 h1 n0 hnm m1]; exact ea
  unfold withinP okP holdsP
  rw [decide_eq_true e1, decide_eq_true ed, decide_eq_true hnm, beq_iff_eq.2 e2, beq_iff_eq.2 ec]
  rfl
end Go.Proofs.YtpeagakpmjnelaaDoor
namespace Go.Proofs.YtpeagakpmjnelaaDoor
open Go.RowKit

theorem halves (A N : Nat) (hn : N ≤ 31) :
    A / 2 ^ (31 - N) * 2 ^ (31 - N) = A / 2 ^ (32 - N) * 2 ^ (32 - N) + A / 2 ^ (31 - N) % 2 * 2 ^ (31 - N) := by
  have e : 2 ^ (32 - N) = 2 ^ (31 - N) * 2 := by rw [← Nat.pow_succ]; congr 1; omega
  rw [e, ← Nat.div_div_eq_div_mul]
  generalize 2 ^ (31 - N) = p
  generalize A / p = X
  have := Nat.div_add_mod X 2
  calc X * p = (2 * (X / 2) + X % 2) * p := by rw [this]
    _ = X / 2 * (p * 2) + X % 2 * p := by rw [Nat.add_mul]; congr 1; rw [Nat.mul_comm 2, Nat.mul_assoc, Nat.mul_comm 2]

/-- What the law's prefixes are, and how they stand to each other. -/
def Halves (a n P H : Int) : Prop :=
  mk a n = P ∧ cl n = n ∧ bits .or .u32 P (2 ^ (31 - n).toNat) = H ∧ okP P n = true ∧ holdsP P n a = true ∧ holdsP P (n + 1) a = !decide (bitP a n = 1) ∧
  holdsP H (n + 1) a = decide (bitP a n = 1) ∧ withinP P n P (n + 1) = true ∧ withinP P n H (n + 1) = true

theorem pow_cast (k : Nat) : (2 : Int) ^ k = ((2 ^ k : Nat) : Int) := (Int.natCast_pow 2 k).symm
theorem div_mod_cast (A p : Nat) : (A : Int) / (p : Int) % 2 = ((A / p % 2 : Nat) : Int) := by simp

theorem halves_of (a n : Int) (h0 : 0 ≤ a) (h1 : a < 4294967296) (n0 : 0 ≤ n) (n1 : n ≤ 31) : ∃ P H, Halves a n P H := by
  obtain ⟨A, rfl⟩ := Int.eq_ofNat_of_zero_le h0
  obtain ⟨N, rfl⟩ := Int.eq_ofNat_of_zero_le n0
  have hp : 0 < 2 ^ (31 - N) := Nat.pow_pos (by omega)
  have hpb : 2 ^ (31 - N) ≤ 2147483648 := Nat.pow_le_pow_right (n := 2) (by omega) (show 31 - N ≤ 31 by omega)
  have e2 : 2 ^ (32 - N) = 2 ^ (31 - N) * 2 := by rw [← Nat.pow_succ]; congr 1; omega
  have eq1 : 32 - (N + 1) = 31 - N := by omega
  have et : ((31 : Int) - N).toNat = 31 - N := by omega
  have hcl : cl (N : Int) = N := by unfold cl bitsOf; rw [if_neg (by omega), if_neg (by omega)]; rfl
  have hcl1 : cl ((N : Int) + 1) = N + 1 := by unfold cl bitsOf; rw [if_neg (by omega), if_neg (by omega)]; omega
  have hmk : ∀ X : Nat, X < 4294967296 → mk X N = ((X / 2 ^ (32 - N) * 2 ^ (32 - N) : Nat) : Int) := fun X hX => mk_div X N hX (by omega)
  have hmk1 : ∀ X : Nat, X < 4294967296 → mk X (N + 1) = ((X / 2 ^ (31 - N) * 2 ^ (31 - N) : Nat) : Int) := fun X hX => by have := mk_div X (N + 1) hX (by omega); rwa [eq1] at this
  have hbit : bitP (A : Int) N = ((A / 2 ^ (31 - N) % 2 : Nat) : Int) := by
    unfold bitP
    rw [if_neg (by omega), if_neg (by omega), et, pow_cast, div_mod_cast]
  have hh := halves A N (by omega)
  have hle1 := div_le' A (31 - N)
  have hle := div_le' A (32 - N)
  have hb2 : A / 2 ^ (31 - N) % 2 < 2 := Nat.mod_lt _ (by omega)
  have hor := nat_join (32 - N) (A / 2 ^ (32 - N) * 2 ^ (32 - N)) (2 ^ (31 - N)) (Nat.mul_mod_left _ _) (by omega)
  have q0 : 0 < 2 ^ (32 - N) := Nat.pow_pos (by omega)
  have hpw : 2 ^ N * 2 ^ (32 - N) = 4294967296 := by rw [← Nat.pow_add, show N + (32 - N) = 32 by omega]
  have hQ : A / 2 ^ (32 - N) < 2 ^ N := Nat.div_lt_of_lt_mul (by rw [Nat.mul_comm, hpw]; omega)
  generalize hq : A / 2 ^ (32 - N) = Q at hh hle hor hQ
  have hQ2 : (Q + 1) * 2 ^ (32 - N) ≤ 2 ^ N * 2 ^ (32 - N) := Nat.mul_le_mul_right _ hQ
  rw [hpw, Nat.add_mul, Nat.one_mul] at hQ2
  have dP : Q * 2 ^ (32 - N) / 2 ^ (32 - N) = Q := Nat.mul_div_cancel _ q0
  have dP1 : Q * 2 ^ (32 - N) / 2 ^ (31 - N) * 2 ^ (31 - N) = Q * 2 ^ (32 - N) := by rw [e2, ← Nat.mul_assoc, Nat.mul_right_comm, Nat.mul_div_cancel _ hp]
  have dH : (Q * 2 ^ (32 - N) + 2 ^ (31 - N)) / 2 ^ (32 - N) = Q := by
    rw [Nat.add_comm, Nat.add_mul_div_right _ _ q0, Nat.div_eq_of_lt (by omega)]; omega
  have dH1 : (Q * 2 ^ (32 - N) + 2 ^ (31 - N)) / 2 ^ (31 - N) * 2 ^ (31 - N) = Q * 2 ^ (32 - N) + 2 ^ (31 - N) := by
    rw [show Q * 2 ^ (32 - N) + 2 ^ (31 - N) = (Q * 2 + 1) * 2 ^ (31 - N) by rw [e2, Nat.add_mul, Nat.one_mul, Nat.mul_assoc, Nat.mul_comm 2], Nat.mul_div_cancel _ hp]
  refine ⟨((Q * 2 ^ (32 - N) : Nat) : Int), ((Q * 2 ^ (32 - N) + 2 ^ (31 - N) : Nat) : Int), ?_, hcl, ?_, ?_, ?_, ?_, ?_, ?_, ?_⟩
  · rw [hmk A (by omega), hq]
  · rw [et, pow_cast, u32_or_nat _ _ (by omega) (by omega), hor]
  · unfold okP
    rw [hmk _ (by omega), dP, hcl]; simp
  · unfold holdsP
    rw [hmk A (by omega), hq, hcl]; simp
  · unfold holdsP
    rw [hmk1 A (by omega), hcl1, hh, hbit]
    generalize A / 2 ^ (31 - N) % 2 = B at hb2
    generalize 2 ^ (31 - N) = p1 at hp
    generalize Q * 2 ^ (32 - N) = X
    have hB : B = 0 ∨ B = 1 := by omega
    rcases hB with rfl | rfl
    · simp
    · have : ((X : Nat) : Int) ≠ ((X + 1 * p1 : Nat) : Int) := by omega
      simp only [beq_eq_false_iff_ne.2 this]; simp
  · unfold holdsP
    rw [hmk1 A (by omega), hcl1, hh, hbit]
    generalize A / 2 ^ (31 - N) % 2 = B at hb2
    generalize 2 ^ (31 - N) = p1 at hp
    generalize Q * 2 ^ (32 - N) = X
    have hB : B = 0 ∨ B = 1 := by omega
    rcases hB with rfl | rfl
    · have : ((X + p1 : Nat) : Int) ≠ ((X + 0 * p1 : Nat) : Int) := by omega
      simp only [beq_eq_false_iff_ne.2 this]; simp
    · simp
  · unfold withinP okP holdsP
    rw [hmk1 _ (by omega), dP1, hcl1, hmk _ (by omega), dP, hcl]; simp; omega
  · unfold withinP okP holdsP
    rw [hmk1 _ (by omega), dH1, hcl1, hmk _ (by omega), dH, hcl]; simp; omega
end Go.Proofs.YtpeagakpmjnelaaDoor
namespace Go.Proofs.YtpeagakpmjnelaaDoor
open Go.RowKit

theorem pow_pos2 (i : Int) (n0 : 0 ≤ i) (n1 : i ≤ 31) : 0 < (2 : Int) ^ (31 - i).toNat ∧ (2 : Int) ^ (31 - i).toNat ≤ 2147483648 := by
  obtain ⟨N, rfl⟩ := Int.eq_ofNat_of_zero_le n0
  rw [show ((31 : Int) - N).toNat = 31 - N by omega, pow_cast]
  have hp : 0 < 2 ^ (31 - N) := Nat.pow_pos (by omega)
  have hpb : 2 ^ (31 - N) ≤ 2147483648 := Nat.pow_le_pow_right (n := 2) (by omega) (show 31 - N ≤ 31 by omega)
  omega
theorem bitP_in {a i : Int} (n0 : 0 ≤ i) (n1 : i ≤ 31) : bitP a i = a / 2 ^ (31 - i).toNat % 2 := by
  unfold bitP; rw [if_neg (by omega), if_neg (by omega)]
theorem bitP_bd (a i : Int) : 0 ≤ bitP a i ∧ bitP a i ≤ 1 := by
  unfold bitP
  split
  · omega
  · split <;> omega

theorem rbit_any (a i : Int) (w : World) (h0 : 0 ≤ a) (h1 : a < 4294967296) (n0 : 0 ≤ i) (n1 : i ≤ 31) :
    Calls Tryd.prog 85 #[.int .u32 a, .int .i64 i] w fun e w' => e = .returned (.int .u32 (bitP a i)) ∧ w = w' := by
  have ⟨p0, p1⟩ := pow_pos2 i n0 n1
  have HK := Lib.hid (bitP_in (a := a) n0 n1)
  obtain ⟨p, hp⟩ : ∃ p, (2 : Int) ^ (31 - i).toNat = p := ⟨_, rfl⟩
  rw [hp] at p0 p1 HK
  have hm : p % 4294967296 = p := by omega
  have ht : Int.tdiv a p = a / p := Int.tdiv_eq_ediv_of_nonneg h0
  have hq0 : 0 ≤ a / p ∧ a / p ≤ a := ⟨Int.ediv_nonneg h0 (Int.le_of_lt p0), Int.ediv_le_self _ h0⟩
  obtain ⟨q, hq⟩ : ∃ q, a / p = q := ⟨_, rfl⟩
  rw [hq] at ht hq0 HK
  obtain ⟨q0, q1⟩ := hq0
  have hqt : Int.tmod q 2 = q % 2 := Int.tmod_eq_emod_of_nonneg q0
  have hpz : ¬ p = 0 := by omega
  go_enter Tryd.func85, Tryd.ntmps85
  go_wp2_with fail
  go_ret
  exact ⟨by rw [HK.out]; rfl, rfl⟩

theorem mk_zero (a : Int) (h0 : 0 ≤ a) (h1 : a < 4294967296) : mk a 0 = 0 := by
  obtain ⟨A, rfl⟩ := Int.eq_ofNat_of_zero_le h0
  have := mk_div A 0 (by omega) (by omega)
  rw [show A / 2 ^ (32 - 0) = 0 from Nat.div_eq_of_lt (by omega)] at this
  simpa using this
theorem mk_step (a : Int) (k : Nat) (h0 : 0 ≤ a) (h1 : a < 4294967296) (hk : k ≤ 31) : mk a (k + 1) = mk a k + bitP a k * 2 ^ (31 - (k : Int)).toNat := by
  obtain ⟨A, rfl⟩ := Int.eq_ofNat_of_zero_le h0
  have e1 := mk_div A (k + 1) (by omega) (by omega)
  have e2 := mk_div A k (by omega) (by omega)
  have hh := halves A k hk
  rw [show 32 - (k + 1) = 31 - k by omega] at e1
  rw [show ((k : Int) + 1) = ((k + 1 : Nat) : Int) by omega, e1, e2, hh, bitP_in (by omega) (by omega), show ((31 : Int) - k).toNat = 31 - k by omega, pow_cast, div_mod_cast]
  simp
theorem bits_bits (n : Int) : bitsOf ((bitsOf n : Nat) : Int) = bitsOf n := by
  have := bitsOf_le n
  generalize bitsOf n = k at *
  unfold bitsOf
  rw [if_neg (by omega), if_neg (by omega)]; rfl
theorem mk_bd (a n : Int) (h0 : 0 ≤ a) (h1 : a < 4294967296) : 0 ≤ mk a n ∧ mk a n ≤ a := by
  obtain ⟨A, rfl⟩ := Int.eq_ofNat_of_zero_le h0
  have e : mk A n = mk A (bitsOf n : Nat) := by unfold mk mask; rw [bits_bits]
  rw [e, mk_div A _ (by omega) (bitsOf_le n)]
  have := div_le' A (32 - bitsOf n)
  omega
theorem mk_cl (a n : Int) : mk a (cl n) = mk a n := by
  unfold mk mask cl; rw [bits_bits]

theorem Box.set0 {w : World} {g : Nat} {v0 v1 : Value} (h : Box w g v0 v1) (u0 : Value) : Box (w.setCell ⟨g, 0, none⟩ u0) g u0 v1 :=
  (World.rowIs.set h 0 u0).congr fun i hi => by
    have : i = 0 ∨ i = 1 := by omega
    rcases this with rfl | rfl <;> rfl

def MkRel (a c : Int) (w : World) (i : Value) (wr : World) : Prop :=
  ∃ k : Nat, (k : Int) ≤ c ∧ i = .int .i64 k ∧ Box wr (w.heap.size + 1) (.int .u32 (mk a k)) (.int .i64 c) ∧ Box wr w.heap.size (.int .u32 0) (.int .i64 0) ∧ Below w.heap.size w wr

set_option maxRecDepth 100000 in
theorem rmake_any (a n : Int) (w : World) (h0 : 0 ≤ a) (h1 : a < 4294967296) :
    Calls Tryd.prog 69 #[.int .u32 a, .int .i64 n] w fun e w' => e = .returned (.agg #[.int .u32 (mk a n), .int .i64 (cl n)]) ∧ Below w.heap.size w w' := by
  have HA := Lib.hid (And.intro h0 h1)
  rw [← mk_cl a n]
  have hz := mk_zero a h0 h1
  have HB0 := Lib.hid ((Below.refl w.heap.size w).alloc (Nat.le_refl _) (.cells #[.int .u32 0, .int .i64 0] 54))
  rcases Int.lt_or_le n 0 with hn | hn
  · skip
    have HC := Lib.hid (show cl n = 0 by unfold cl bitsOf; rw [if_pos hn]; rfl)
    rw [HC.out, hz]
    go_enter Tryd.func69, Tryd.ntmps69
    go_wp2_with fail
    have HB := Lib.hid (below_two w (.cells #[.int .u32 0, .int .i64 0] 54) (.cells #[.int .u32 0, .int .i64 0] 54))
    have HX := Lib.hid (Box.two w (.int .u32 0) (.int .i64 0) (.int .u32 0) (.int .i64 0))
    go_loopw [6] (fun i wr => i = .int .i64 0 ∧ Box wr (w.heap.size + 1) (.int .u32 0) (.int .i64 0) ∧ Box wr w.heap.size (.int .u32 0) (.int .i64 0) ∧ Below w.heap.size w wr) (fun _ _ => 0)
    case atStart => exact ⟨rfl, HX.out.2, HX.out.1, HB.out⟩
    case round =>
      obtain ⟨rfl, hx, hy, hb⟩ := hrel
      have BB := Lib.hid hb
      have c0 := hx.c0
      have c1 := hx.c1
      have d0 := hy.c0
      have d1 := hy.c1
      have f0 := hy.f 0
      have f1 := hy.f 1
      clear hx hy hb
      go_wp2_with fail
      exact bodyPost_ret (v := .agg #[.int .u32 0, .int .i64 0]) (by simp [results, Tryd.results69, go_sem, d0, d1]) rfl ⟨rfl, (BB.out.setCell (Nat.le_refl _) _).setCell (Nat.le_refl _) _⟩
  · have hn0 : ¬ n < 0 := by omega
    rcases Int.lt_or_le 32 n with hm | hm
    · skip
      have HC := Lib.hid (show cl n = 32 by unfold cl bitsOf; rw [if_neg hn0, if_pos hm]; rfl)
      rw [HC.out]
      go_enter Tryd.func69, Tryd.ntmps69
      go_wp2_with fail
      have HX := Lib.hid (show Box _ (w.heap.size + 1) (.int .u32 0) (.int .i64 32) from (Box.two w (.int .u32 0) (.int .i64 0) (.int .u32 0) (.int .i64 32)).2)
      have HB := Lib.hid (below_two w (.cells #[.int .u32 0, .int .i64 0] 54) (.cells #[.int .u32 0, .int .i64 32] 54))
      have HX0 := Lib.hid (show Box _ w.heap.size (.int .u32 0) (.int .i64 0) from (Box.two w (.int .u32 0) (.int .i64 0) (.int .u32 0) (.int .i64 32)).1)
      go_loopw [6] (fun i wr => MkRel a 32 w i wr) (fun i _ => 32 - (intOf i).toNat)
      case atStart => exact ⟨0, by omega, rfl, by rw [show mk a ((0 : Nat) : Int) = 0 from hz]; exact HX.out, HX0.out, HB.out⟩
      case round =>
        obtain ⟨k, hk, rfl, hx, hy, hb⟩ := hrel
        have BX := Lib.hid hx
        have BY := Lib.hid hy
        have BB := Lib.hid hb
        by_cases hlt : (k : Int) < 32
        · have hbit := rbit_any a k wr.drew HA.out.1 HA.out.2 (by omega) (by omega)
          have hbit' : Calls Tryd.prog 85 #[.int .u32 a, .int .i64 k] wr.drew (fun e w'' => e = .returned (.int .u32 (bitP a k)) ∧ w'' = wr.drew) := hbit.mono fun e w'' h => ⟨h.1, h.2.symm⟩
          have hst := mk_step a k HA.out.1 HA.out.2 (by omega)
          have ⟨b0, b1⟩ := bitP_bd a k
          have ⟨q0, q1⟩ := pow_pos2 k (by omega) (by omega)
          have ⟨m0, m1⟩ := mk_bd a k HA.out.1 HA.out.2
          have ⟨m2, m3⟩ := mk_bd a (k + 1) HA.out.1 HA.out.2
          have a1 := HA.out.2
          obtain ⟨B, hB⟩ : ∃ B, bitP a k = B := ⟨_, rfl⟩
          rw [show (31 - (k : Int)).toNat = 31 - k by omega] at hst q0 q1
          obtain ⟨q, hq⟩ : ∃ q, (2 : Int) ^ (31 - k) = q := ⟨_, rfl⟩
          obtain ⟨M, hM⟩ : ∃ M, mk a k = M := ⟨_, rfl⟩
          obtain ⟨M1, hM1⟩ : ∃ M, mk a (k + 1) = M := ⟨_, rfl⟩
          rw [hB] at hbit' hst b0 b1
          rw [hq] at hst q0 q1
          rw [hM] at hst m0 m1
          rw [hM1] at hst m2 m3
          have hpr : 0 ≤ B * q ∧ B * q ≤ 2147483648 := by
            have hB2 : B = 0 ∨ B = 1 := by omega
            rcases hB2 with rfl | rfl <;> omega
          have hsh : B * q % 4294967296 = B * q := by omega
          have had : (M + B * q) % 4294967296 = M1 := by omega
          have hwr : IntKind.i64.wrap (31 - (k : Int)) = 31 - (k : Int) := by rw [IntKind.wrap_i64]; omega
          have hsh' : IntKind.u32.wrap (B * q) = B * q := by rw [IntKind.wrap_u32']; exact hsh
          have had' : IntKind.u32.wrap (M + B * q) = M1 := by rw [IntKind.wrap_u32']; exact had
          have c0 : wr.drew.cell? ⟨w.heap.size + 1, 0, none⟩ = some (.int .u32 M) := by rw [← hM]; exact BX.out.c0
          have f0 : wr.drew.frozen? ⟨w.heap.size + 1, 0, none⟩ = false := BX.out.f 0
          have HM1 := Lib.hid hM1
          clear hx hy hb hbit hst hB hM hM1
          go_wp2_with fail
          go_still_tail 10, (by kernel_rfl)
          still_call hbit'
          repeat still_step
          refine wpStill_nil ?_
          change wpList _ _ _ _ _ wr.drew
          go_wp2_with fail
          go_roundw
          case rel =>
            refine ⟨k + 1, by omega, by go_num, ?_, World.rowIs.of_block (w := wr.drew) BY.out (Below.block ((Below.refl (w.heap.size + 1) wr.drew).setCell (Nat.le_refl _) _) _ (by omega)), (BB.out.trans (Below.refl _ _).drew).setCell (Nat.le_succ _) _⟩
            rw [show ((k + 1 : Nat) : Int) = (k : Int) + 1 by omega, HM1.out]
            exact Box.set0 (w := wr.drew) BX.out _
          case measure => simp [intOf]; omega
        · have hkc : (k : Int) = 32 := by omega
          rw [hkc] at hx
          have c0 := hx.c0
          have c1 := hx.c1
          have d0 := hy.c0
          have d1 := hy.c1
          have f0 := hy.f 0
          have f1 := hy.f 1
          skip
          clear hx hy hb
          go_wp2_with fail
          exact bodyPost_ret (v := .agg #[.int .u32 (mk a 32), .int .i64 32]) (by simp [results, Tryd.results69, go_sem, d0, d1]) rfl ⟨rfl, (BB.out.setCell (Nat.le_refl _) _).setCell (Nat.le_refl _) _⟩
    · have hm0 : ¬ 32 < n := by omega
      have HC := Lib.hid (show cl n = n by unfold cl bitsOf; rw [if_neg hn0, if_neg hm0]; omega)
      rw [HC.out]
      go_enter Tryd.func69, Tryd.ntmps69
      go_wp2_with fail
      have HX := Lib.hid (show Box _ (w.heap.size + 1) (.int .u32 0) (.int .i64 n) from (Box.two w (.int .u32 0) (.int .i64 0) (.int .u32 0) (.int .i64 n)).2)
      have HB := Lib.hid (below_two w (.cells #[.int .u32 0, .int .i64 0] 54) (.cells #[.int .u32 0, .int .i64 n] 54))
      have HX0 := Lib.hid (show Box _ w.heap.size (.int .u32 0) (.int .i64 0) from (Box.two w (.int .u32 0) (.int .i64 0) (.int .u32 0) (.int .i64 n)).1)
      go_loopw [6] (fun i wr => MkRel a n w i wr) (fun i _ => 32 - (intOf i).toNat)
      case atStart => exact ⟨0, by omega, rfl, by rw [show mk a ((0 : Nat) : Int) = 0 from hz]; exact HX.out, HX0.out, HB.out⟩
      case round =>
        obtain ⟨k, hk, rfl, hx, hy, hb⟩ := hrel
        have BX := Lib.hid hx
        have BY := Lib.hid hy
        have BB := Lib.hid hb
        by_cases hlt : (k : Int) < n
        · have hbit := rbit_any a k wr.drew HA.out.1 HA.out.2 (by omega) (by omega)
          have hbit' : Calls Tryd.prog 85 #[.int .u32 a, .int .i64 k] wr.drew (fun e w'' => e = .returned (.int .u32 (bitP a k)) ∧ w'' = wr.drew) := hbit.mono fun e w'' h => ⟨h.1, h.2.symm⟩
          have hst := mk_step a k HA.out.1 HA.out.2 (by omega)
          have ⟨b0, b1⟩ := bitP_bd a k
          have ⟨q0, q1⟩ := pow_pos2 k (by omega) (by omega)
          have ⟨m0, m1⟩ := mk_bd a k HA.out.1 HA.out.2
          have ⟨m2, m3⟩ := mk_bd a (k + 1) HA.out.1 HA.out.2
          have a1 := HA.out.2
          obtain ⟨B, hB⟩ : ∃ B, bitP a k = B := ⟨_, rfl⟩
          rw [show (31 - (k : Int)).toNat = 31 - k by omega] at hst q0 q1
          obtain ⟨q, hq⟩ : ∃ q, (2 : Int) ^ (31 - k) = q := ⟨_, rfl⟩
          obtain ⟨M, hM⟩ : ∃ M, mk a k = M := ⟨_, rfl⟩
          obtain ⟨M1, hM1⟩ : ∃ M, mk a (k + 1) = M := ⟨_, rfl⟩
          rw [hB] at hbit' hst b0 b1
          rw [hq] at hst q0 q1
          rw [hM] at hst m0 m1
          rw [hM1] at hst m2 m3
          have hpr : 0 ≤ B * q ∧ B * q ≤ 2147483648 := by
            have hB2 : B = 0 ∨ B = 1 := by omega
            rcases hB2 with rfl | rfl <;> omega
          have hsh : B * q % 4294967296 = B * q := by omega
          have had : (M + B * q) % 4294967296 = M1 := by omega
          have hwr : IntKind.i64.wrap (31 - (k : Int)) = 31 - (k : Int) := by rw [IntKind.wrap_i64]; omega
          have hsh' : IntKind.u32.wrap (B * q) = B * q := by rw [IntKind.wrap_u32']; exact hsh
          have had' : IntKind.u32.wrap (M + B * q) = M1 := by rw [IntKind.wrap_u32']; exact had
          have c0 : wr.drew.cell? ⟨w.heap.size + 1, 0, none⟩ = some (.int .u32 M) := by rw [← hM]; exact BX.out.c0
          have f0 : wr.drew.frozen? ⟨w.heap.size + 1, 0, none⟩ = false := BX.out.f 0
          have HM1 := Lib.hid hM1
          clear hx hy hb hbit hst hB hM hM1
          go_wp2_with fail
          go_still_tail 10, (by kernel_rfl)
          still_call hbit'
          repeat still_step
          refine wpStill_nil ?_
          change wpList _ _ _ _ _ wr.drew
          go_wp2_with fail
          go_roundw
          case rel =>
            refine ⟨k + 1, by omega, by go_num, ?_, World.rowIs.of_block (w := wr.drew) BY.out (Below.block ((Below.refl (w.heap.size + 1) wr.drew).setCell (Nat.le_refl _) _) _ (by omega)), (BB.out.trans (Below.refl _ _).drew).setCell (Nat.le_succ _) _⟩
            rw [show ((k + 1 : Nat) : Int) = (k : Int) + 1 by omega, HM1.out]
            exact Box.set0 (w := wr.drew) BX.out _
          case measure => simp [intOf]; omega
        · have hkc : (k : Int) = n := by omega
          rw [hkc] at hx
          have c0 := hx.c0
          have c1 := hx.c1
          have d0 := hy.c0
          have d1 := hy.c1
          have f0 := hy.f 0
          have f1 := hy.f 1
          skip
          clear hx hy hb
          go_wp2_with fail
          exact bodyPost_ret (v := .agg #[.int .u32 (mk a n), .int .i64 n]) (by simp [results, Tryd.results69, go_sem, d0, d1]) rfl ⟨rfl, (BB.out.setCell (Nat.le_refl _) _).setCell (Nat.le_refl _) _⟩
end Go.Proofs.YtpeagakpmjnelaaDoor
namespace Go.Proofs.YtpeagakpmjnelaaDoor
open Go.RowKit

theorem okP_beq' (a n : Int) : (mk a n == a && cl n == n) = okP a n := by
  unfold okP
  rw [Bool.eq_iff_iff]
  simp only [Bool.and_eq_true, beq_iff_eq, decide_eq_true_eq]
  exact ⟨fun h => ⟨h.1.symm, h.2.symm⟩, fun h => ⟨h.1.symm, h.2.symm⟩⟩
theorem okP_out {a n : Int} (h : n < 0 ∨ 32 < n) : okP a n = false := by
  rcases hk : okP a n with _ | _
  · rfl
  · have := okP_len hk; omega

theorem rcheck_any (a n : Int) (w : World) (h0 : 0 ≤ a) (h1 : a < 4294967296) :
    Calls Tryd.prog 45 #[.agg #[.int .u32 a, .int .i64 n]] w fun e w' => e = .returned (.bool (okP a n)) ∧ Below w.heap.size w w' := by
  have hbx := box_cells w (.int .u32 a) (.int .i64 n)
  have HX := Lib.hid hbx
  obtain ⟨C0, C1⟩ := hbx
  have hq := pfx_eql (mk a n) (cl n) a n
  rw [okP_beq'] at hq
  have hg := pfx_eqGuard
  have HZ := Lib.hid (show w.heap.size ≤ (w.alloc (.cells #[Value.int .u32 a, Value.int .i64 n] 54)).drew.heap.size from by simp)
  have HA := Lib.hid (And.intro h0 h1)
  have HB1 := Lib.hid ((Below.refl w.heap.size w).alloc (Nat.le_refl _) (.cells #[.int .u32 a, .int .i64 n] 54))
  have HB0 := Lib.hid (((Below.refl w.heap.size w).alloc (Nat.le_refl _) (.cells #[.int .u32 a, .int .i64 n] 54)).drew)
  rcases Int.lt_or_le n 0 with hn | hn
  · have HK := Lib.hid (okP_out (a := a) (.inl hn))
    have d1 : decide (0 ≤ n) = false := by simp; omega
    go_enter Tryd.func45, Tryd.ntmps45
    go_wp2_with fail
    go_quiet (fail)
    go_wp2_with fail
    go_ret
    exact ⟨by rw [HK.out]; rfl, below_drewN HB1.out _⟩
  · have d1 : decide (0 ≤ n) = true := by simp; omega
    rcases Int.lt_or_le 32 n with hm | hm
    · have HK := Lib.hid (okP_out (a := a) (.inr hm))
      have d2 : decide (n ≤ 32) = false := by simp; omega
      go_enter Tryd.func45, Tryd.ntmps45
      go_wp2_with fail
      go_quiet (fail)
      go_wp2_with fail
      go_ret
      exact ⟨by rw [HK.out]; rfl, below_drewN HB1.out _⟩
    · have d2 : decide (n ≤ 32) = true := by simp; omega
      go_enter Tryd.func45, Tryd.ntmps45
      go_wp2_with fail
      go_region_held (fun w' => w'.cell? ⟨w.heap.size, 0, none⟩ = some (.int .u32 a) ∧ w'.cell? ⟨w.heap.size, 1, none⟩ = some (.int .i64 n)) (refine ⟨?_, ?_⟩ <;> assumption) (first | (go_at_call 69; refine (rmake_any a n _ HA.out.1 HA.out.2).mono ?_; rintro e w2 ⟨rfl, hb2⟩; have k0 := keep hb2 HX.out.1; have k1 := keep hb2 HX.out.2; have HB2 := Lib.hid hb2; clear hb2))
      have HB := Lib.hid (HB0.out.trans (HB2.out.mono HZ.out))
      clear HB2
      go_wp2_with fail
      go_ret
      exact ⟨rfl, HB.out⟩
end Go.Proofs.YtpeagakpmjnelaaDoor
namespace Go.Proofs.YtpeagakpmjnelaaDoor
open Go.RowKit

/-- A row of bytes of one's own: its first n are these. -/
def OwnB (w : World) (B : Nat) (v : Value) (xs : List Int) : Prop := w.ownsRow B 5 1 v xs.length (xs.map (Value.int .u8))

theorem info5' : ∃ i : TypeInfo, Tryd.prog.info? 5 = some i ∧ i.zero = some (.int .u8 0) ∧ i.size = 1 ∧ i.bytes = 1 := by
  have h := info5
  rcases hi : Tryd.prog.info? 5 with _ | i
  · rw [hi] at h; cases h
  · rw [hi] at h
    simp only [Option.map_some, Option.some.injEq, Prod.mk.injEq] at h
    exact ⟨i, rfl, h.1, h.2.1, h.2.2⟩

theorem run_app (w : World) (ty : TypeId) (B : Nat) (v : Value) (xs : List Int) (hv : v ≠ .slice none 0 0) (hown : OwnB w B v xs) (ad : Addr) (c : Nat) (ys : List Int) (hnews : ∀ j, j < ys.length → w.cell? (ad.add j) = some (.int .u8 (ys.getD j 0)))
    (h63 : xs.length + ys.length ≤ 100000) (hB : B ≤ w.heap.size) :
    ∃ g cap w', (Builtin.append_ #[32, 32] ty #[v, .slice (some ad) ys.length c]).run Tryd.prog w = .ok (.slice (some ⟨g, 0, none⟩) (xs.length + ys.length) cap) w' ∧
      OwnB w' B (.slice (some ⟨g, 0, none⟩) (xs.length + ys.length) cap) (xs ++ ys) ∧ w.grownBy w' v.ownBlock ∧ B ≤ g := by
  obtain ⟨i, hi, hz, hs, hb⟩ := info5'
  obtain ⟨v', w', hr, h2, h3, h4, _⟩ := run_append_own_at (P := Tryd.prog) w B 32 ty 5 i (.int .u8 0) 1 1 Tryd.underlying32 hi hz hs hb rfl (by omega) v xs.length (xs.map (Value.int .u8)) hown
    ad ys.length c (ys.map (Value.int .u8)) (by simp) (fun j u hu => by
      have hj : j < ys.length := by
        rcases Nat.lt_or_ge j ys.length with h | h
        · exact h
        · rw [List.getElem?_eq_none (by simpa using h)] at hu; cases hu
      rw [hnews j hj, ← hu]
      simp [List.getD, List.getElem?_eq_getElem hj]) (fun u hu => by
      obtain ⟨x, _, rfl⟩ := List.mem_map.1 hu
      rfl) (by simp only [maxLen]; omega) (by omega) hB
  rcases h2.2 with ⟨hn, _⟩ | ⟨g, cap, cur, rfl, hbg, _⟩
  · exact absurd (h4.1 hn).1 hv
  · refine ⟨g, cap, w', hr, ?_, h3, hbg⟩
    unfold OwnB
    rw [List.length_append, List.map_append]
    exact h2

theorem step_app {ops : Array Oper} {o : Oper} {a : Act} {w : World} {K : Act → World → Prop} {Q : Exit → Act → World → Prop} {E : Prop} (hgd : o.guard = none) (s x : Operand)
    (ho : o.op = .call { callee := .builtin .append, args := #[s, x], argTypes := #[32, 32] })
    (B : Nat) (v : Value) (xs : List Int) (hv : v ≠ .slice none 0 0) (hs : a.eval s = v) (hown : OwnB w B v xs) (ad : Addr) (c : Nat) (ys : List Int) (hx : a.eval x = .slice (some ad) ys.length c) (hnews : ∀ j, j < ys.length → w.cell? (ad.add j) = some (.int .u8 (ys.getD j 0)))
    (h63 : xs.length + ys.length ≤ 100000) (hB : B ≤ w.heap.size)
    (h : ∀ g cap w', Hid (OwnB w' B (.slice (some ⟨g, 0, none⟩) (xs.length + ys.length) cap) (xs ++ ys)) → Hid (w.grownBy w' v.ownBlock) → Hid (B ≤ g) → K (a.put o.dst (.slice (some ⟨g, 0, none⟩) (xs.length + ys.length) cap)) w') :
    if Region.wanted o (yielded ops a.tmps) = true then Oper.wp Tryd.prog o a w K Q else E := by
  have hw : Region.wanted o (yielded ops a.tmps) = true := by simp [Region.wanted, hgd]
  rw [if_pos hw]
  obtain ⟨g, cap, w', hr, h2, h3, h4⟩ := run_app w o.type B v xs hv hown ad c ys hnews h63 hB
  unfold Oper.wp execOp
  simp only [ho, resolve, invoke, builtin, Sem.run_bind, Sem.run_pure, Result.andThen_ok, List.map_toArray, List.map_cons, List.map_nil, hs, hx, hr]
  exact h g cap w' (Lib.hid h2) (Lib.hid h3) (Lib.hid h4)

theorem wpList_app {ops : Array Oper} {rest : List Oper} {o : Oper} {a : Act} {w : World} {Q : Exit → Act → World → Prop} (hgd : o.guard = none) (s x : Operand)
    (ho : o.op = .call { callee := .builtin .append, args := #[s, x], argTypes := #[32, 32] })
    (B : Nat) (v : Value) (xs : List Int) (hv : v ≠ .slice none 0 0) (hs : a.eval s = v) (hown : OwnB w B v xs) (ad : Addr) (c : Nat) (ys : List Int) (hx : a.eval x = .slice (some ad) ys.length c) (hnews : ∀ j, j < ys.length → w.cell? (ad.add j) = some (.int .u8 (ys.getD j 0)))
    (h63 : xs.length + ys.length ≤ 100000) (hB : B ≤ w.heap.size)
    (h : ∀ g cap w', Hid (OwnB w' B (.slice (some ⟨g, 0, none⟩) (xs.length + ys.length) cap) (xs ++ ys)) → Hid (w.grownBy w' v.ownBlock) → Hid (B ≤ g) → wpList Tryd.prog ops Q rest (a.put o.dst (.slice (some ⟨g, 0, none⟩) (xs.length + ys.length) cap)) w') :
    wpList Tryd.prog ops Q (o :: rest) a w :=
  wpList_plain hgd fun K hK => by
    obtain ⟨g, cap, w', hr, h2, h3, h4⟩ := run_app w o.type B v xs hv hown ad c ys hnews h63 hB
    unfold Oper.wp execOp
    simp only [ho, resolve, invoke, builtin, Sem.run_bind, Sem.run_pure, Result.andThen_ok, List.map_toArray, List.map_cons, List.map_nil, hs, hx, hr]
    exact hK _ _ (h g cap w' (Lib.hid h2) (Lib.hid h3) (Lib.hid h4))

theorem OwnB.at {w : World} {B g n cap : Nat} {xs : List Int} (h : OwnB w B (.slice (some ⟨g, 0, none⟩) n cap) xs) : ∀ j, j < xs.length → w.cell? ((⟨g, 0, none⟩ : Addr).add j) = some (.int .u8 (xs.getD j 0)) := fun j hj => by
  have := World.ownsRow.cells h (g := g) rfl j (.int .u8 (xs.getD j 0)) (by simp [List.getD, List.getElem?_eq_getElem hj])
  exact this
end Go.Proofs.YtpeagakpmjnelaaDoor
namespace Go.Proofs.YtpeagakpmjnelaaDoor
open Go.RowKit

/-- Bytes of one's own that a call hands back. -/
def RPut (w w' : World) (xs : List Int) (e : Ending) : Prop := ∃ g cap, e = .returned (.slice (some ⟨g, 0, none⟩) xs.length cap) ∧ OwnB w' w.heap.size (.slice (some ⟨g, 0, none⟩) xs.length cap) xs ∧ Below w.heap.size w w'

theorem own_new (w : World) (B : Nat) (x : Int) (hB : B ≤ w.heap.size) : OwnB (w.alloc (.cells #[.int .u8 x] 5)) B (.slice (some ⟨w.heap.size, 0, none⟩) 1 1) [x] :=
  ⟨rfl, .inr ⟨_, 1, _, rfl, hB, heap_alloc_new w _, Nat.le_refl _, by decide, rfl, rfl⟩⟩

theorem rputp_any (a : Int) (N : Nat) (w : World) (h0 : 0 ≤ a) (h1 : a < 4294967296) (hN : N ≤ 32) :
    Calls Tryd.prog 50 #[.agg #[.int .u32 a, .int .i64 N]] w fun e w' => RPut w w' (pfxL a N) e := by
  have HX := Lib.hid (Box.new w (.int .u32 a) (.int .i64 N))
  have HB := Lib.hid ((Below.refl w.heap.size w).alloc (Nat.le_refl _) (.cells #[.int .u32 a, .int .i64 N] 54))
  have HP := Lib.hid (rput_fits a 4 (w.alloc (.cells #[.int .u32 a, .int .i64 N] 54)) (by omega) (by omega) (fits4 h0 h1))
  rw [size_alloc1] at HP
  obtain ⟨k, hkk⟩ : ∃ k, (N + 7) / 8 = k := ⟨_, rfl⟩
  have hk4 : k ≤ 4 := by omega
  have hki : ((N : Int) + 7) / 8 = (k : Int) := by omega
  have hkt : Int.tdiv ((N : Int) + 7) 8 = (k : Int) := by rw [Int.tdiv_eq_ediv_of_nonneg (by omega)]; exact hki
  have hw1 : IntKind.u8.wrap (N : Int) = N := by rw [show IntKind.u8.wrap (N : Int) = (N : Int) % 256 from by first | rfl | exact IntKind.wrap_u8 _ | exact IntKind.wrap_u8' _]; omega
  have hpl := putL_len a 4
  unfold pfxL
  rw [show ((N : Int).toNat + 7) / 8 = k from by rw [Int.toNat_natCast]; exact hkk]
  obtain ⟨l, hl⟩ : ∃ l, putL a 4 = l := ⟨_, rfl⟩
  have HPL := Lib.hid hl
  rw [hl] at hpl ⊢
  have HTL := Lib.hid (show (l.take k).length = k by simp; omega)
  have hwA : IntKind.i64.wrap ((N : Int) + 7) = (N : Int) + 7 := by rw [IntKind.wrap_i64]; omega
  have hwB : IntKind.i64.wrap (k : Int) = (k : Int) := by rw [IntKind.wrap_i64]; omega
  have hc4 : (0 : Int) ≤ (k : Int) ∧ (k : Int) ≤ 4 := by omega
  have hc5 : (k : Int) ≤ 4 := by omega
  have hc6 : (0 : Int) ≤ (k : Int) := by omega
  go_enter Tryd.func50, Tryd.ntmps50
  go_wp2_with fail
  refine HP.out.mono ?_; rintro e w1 ⟨rfl, hr, hb⟩
  have HX1 := Lib.hid (show Box w1 w.heap.size (.int .u32 a) (.int .i64 N) from World.rowIs.of_block HX.out (hb.block _ (by omega)))
  have HR1 := Lib.hid (show BRow w1 (w.heap.size + 1) l by rw [← HPL.out]; exact hr.list)
  have HB1 := Lib.hid (HB.out.trans (hb.mono (by omega)))
  have hz1 : w.heap.size + 1 < w1.heap.size := World.rowIs.lt HR1.out
  have c1 : w1.drew.cell? ⟨w.heap.size, 1, none⟩ = some (.int .i64 N) := HX1.out.c1
  have hal := (Below.refl w1.drew.heap.size w1.drew).alloc (Nat.le_refl _) (.cells #[.int .u8 N] 5)
  have c2 := keep hal c1
  have OWN := Lib.hid (own_new w1.drew w.heap.size N (by show w.heap.size ≤ w1.heap.size; omega))
  have NEWS := Lib.hid (show ∀ j, j < (l.take k).length → (w1.drew.alloc (.cells #[.int .u8 N] 5)).cell? ((⟨w.heap.size + 1, 0, none⟩ : Addr).add j) = some (.int .u8 ((l.take k).getD j 0)) by
    intro j hj
    rw [HTL.out] at hj
    have hc : w1.drew.cell? ⟨w.heap.size + 1, j, none⟩ = some (.int .u8 (l.getD j 0)) := World.rowIs.cell HR1.out (i := j) (by omega)
    rw [show (⟨w.heap.size + 1, 0, none⟩ : Addr).add j = ⟨w.heap.size + 1, j, none⟩ from by unfold Addr.add; split <;> simp_all, keep hal hc]
    simp [List.getD, List.getElem?_take_of_lt hj])
  have HAL := Lib.hid hal
  clear hb hr hl hal
  go_wp2_with fail
  go_region_held_law (fun w' => w'.cell? ⟨w.heap.size, 1, none⟩ = some (.int .i64 N)) (assumption) (first
    | (refine step_app rfl (.tmp 11) (.tmp 17) rfl w.heap.size (.slice (some ⟨w1.heap.size, 0, none⟩) 1 1) [(N : Int)] (by intro h; cases h) rfl OWN.out ⟨w.heap.size + 1, 0, none⟩ 4 (l.take k) (by simp [Act.eval, HTL.out]) NEWS.out (by rw [HTL.out]; simp; omega) (by simp; omega) ?_; intro g cap w2 HO HG HBg; have kk : w2.cell? ⟨w.heap.size, 1, none⟩ = some (.int .i64 N) := (HG.out.cell_far _ (by simp; omega) (by simp [Value.ownBlock]; omega)).trans c2))
  go_wp2_with fail
  have hln : 1 + k = ((N : Int) :: l.take k).length := by rw [List.length_cons, HTL.out, Nat.add_comm]
  have hown := HO.out
  rw [show [(N : Int)].length + (l.take k).length = ((N : Int) :: l.take k).length from by rw [List.length_cons, List.length_cons, List.length_nil]; omega] at hown
  refine bodyPost_ret (v := .slice (some ⟨g, 0, none⟩) (1 + k) cap) (by simp [results, Tryd.results50, go_sem]) rfl ⟨g, cap, by rw [hln], hown, ?_⟩
  exact ((HB1.out.drew).trans (HAL.out.mono (by show w.heap.size ≤ w1.heap.size; omega))).grown HG.out (by simp; omega) (fun q hq => by
    have : w1.heap.size = q := by simpa [Value.ownBlock] using hq
    omega)
end Go.Proofs.YtpeagakpmjnelaaDoor
namespace Go.Proofs.YtpeagakpmjnelaaDoor
open Go.RowKit

def RGotOut (o : Option (Int × Int × Nat)) (e : Ending) : Prop := match o with
  | none => e = .returned (.tuple #[.agg #[.int .u32 0, .int .i64 0], .int .i64 0, .bool false])
  | some (v, n, c) => e = .returned (.tuple #[.agg #[.int .u32 (mk v n), .int .i64 (cl n)], .int .i64 c, .bool true])

theorem own_none (w : World) (B : Nat) (hB : B ≤ w.heap.size) : OwnB (w.alloc (.cells #[] 5)) B (.slice (some ⟨w.heap.size, 0, none⟩) 0 0) [] :=
  ⟨rfl, .inr ⟨_, 0, _, rfl, hB, heap_alloc_new w _, Nat.le_refl _, by decide, rfl, rfl⟩⟩

theorem wpList_app2 {ops : Array Oper} {rest : List Oper} {o : Oper} {a : Act} {w : World} {Q : Exit → Act → World → Prop} (hgd : o.guard = none) (s x : Operand)
    (ho : o.op = .call { callee := .builtin .append, args := #[s, x], argTypes := #[32, 32] })
    (B : Nat) (v : Value) (xs : List Int) (hv : v ≠ .slice none 0 0) (hs : a.eval s = v) (hown : OwnB w B v xs) (ad : Addr) (m c : Nat) (ys : List Int) (hm : ys.length = m) (hx : a.eval x = .slice (some ad) m c) (hnews : ∀ j, j < ys.length → w.cell? (ad.add j) = some (.int .u8 (ys.getD j 0)))
    (t : Nat) (ht : xs.length + ys.length = t) (h63 : t ≤ 100000) (hB : B ≤ w.heap.size)
    (h : ∀ g cap w', Hid (OwnB w' B (.slice (some ⟨g, 0, none⟩) t cap) (xs ++ ys)) → Hid (w.grownBy w' v.ownBlock) → Hid (B ≤ g) → wpList Tryd.prog ops Q rest (a.put o.dst (.slice (some ⟨g, 0, none⟩) t cap)) w') :
    wpList Tryd.prog ops Q (o :: rest) a w := by
  subst ht hm
  exact wpList_app hgd s x ho B v xs hv hs hown ad c ys hx hnews h63 hB h

theorem OwnB.alloc {w : World} {B : Nat} {v : Value} {xs : List Int} (h : OwnB w B v xs) (o : Obj) : OwnB (w.alloc o) B v xs := by
  refine ⟨h.1, ?_⟩
  rcases h.2 with h2 | ⟨g, cap, cur, hv, hb, hg, h4⟩
  · exact .inl h2
  · have hlt : g < w.heap.size := by
      rcases Nat.lt_or_ge g w.heap.size with hlt | hge
      · exact hlt
      · rw [Array.getElem?_eq_none hge] at hg; cases hg
    exact .inr ⟨g, cap, cur, hv, hb, (((Below.refl w.heap.size w).alloc (Nat.le_refl _) o).block g hlt).trans hg, h4⟩
theorem zeros_at (w : World) : ∀ j, j < ([0, 0, 0, 0] : List Int).length → (w.alloc (.cells #[.int .u8 0, .int .u8 0, .int .u8 0, .int .u8 0] 5)).cell? ((⟨w.heap.size, 0, none⟩ : Addr).add j) = some (.int .u8 (([0, 0, 0, 0] : List Int).getD j 0)) := fun j hj => by
  rw [show (⟨w.heap.size, 0, none⟩ : Addr).add j = ⟨w.heap.size, j, none⟩ from by unfold Addr.add; split <;> simp_all, (row_four w _ _ _ _ _).cell (i := j) (by simpa using hj)]
  have : j = 0 ∨ j = 1 ∨ j = 2 ∨ j = 3 := by simp at hj; omega
  rcases this with rfl | rfl | rfl | rfl <;> rfl
end Go.Proofs.YtpeagakpmjnelaaDoor
namespace Go.Proofs.YtpeagakpmjnelaaDoor
open Go.RowKit


end Go.Proofs.YtpeagakpmjnelaaDoor
