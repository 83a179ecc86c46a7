/- Contracts of addr's prefixes: Make, Check, Holds, Within, Compare, Bit. -/
import Derived.Test.YtjimnlpmmhcdjaaPEq
namespace Go.Proofs.Ytjimnlpmmhcdjaa
open Go.RowKit

/-- The prefix's address: the bits behind the first n are 0. -/
def mk (a n : Int) : Int := bits BinOp.and IntKind.u32 a (mask n)
def cl (n : Int) : Int := (bitsOf n : Int)

theorem make_any (a n : Int) (w : World) :
    Calls Try.prog 30 #[.int .u32 a, .int .i64 n] w fun e w' => e = .returned (.agg #[.int .u32 (mk a n), .int .i64 (cl n)]) ∧ Below w.heap.size w w' := by
  rcases Int.lt_or_le n 0 with h | h
  · have e1 : mask 0 = mask n := by unfold mask bitsOf; rw [if_pos h]; rfl
    have e2 : cl n = 0 := by unfold cl bitsOf; rw [if_pos h]; rfl
    have E := Lib.hid (And.intro e1 e2); clear e1 e2
    go_enter Try.func30, Try.ntmps30
    go_wp2_with fail
    refine (mask_any _ _).mono ?_; rintro e w' ⟨rfl, rfl⟩
    rw [E.out.1]
    go_wp2_with fail
    exact bodyPost_ret (v := .agg #[.int .u32 (mk a n), .int .i64 (cl n)]) (by rw [E.out.2]; simp [results, Try.results30, go_sem, mk]) rfl ⟨rfl, (Below.refl _ _).alloc (Nat.le_refl _) _⟩
  · have h0 : ¬ n < 0 := by omega
    rcases Int.lt_or_le 32 n with h' | h'
    · have e1 : mask 32 = mask n := by unfold mask bitsOf; rw [if_neg h0, if_pos h']; rfl
      have e2 : cl n = 32 := by unfold cl bitsOf; rw [if_neg h0, if_pos h']; rfl
      have E := Lib.hid (And.intro e1 e2); clear e1 e2
      go_enter Try.func30, Try.ntmps30
      go_wp2_with fail
      refine (mask_any _ _).mono ?_; rintro e w' ⟨rfl, rfl⟩
      rw [E.out.1]
      go_wp2_with fail
      exact bodyPost_ret (v := .agg #[.int .u32 (mk a n), .int .i64 (cl n)]) (by rw [E.out.2]; simp [results, Try.results30, go_sem, mk]) rfl ⟨rfl, (Below.refl _ _).alloc (Nat.le_refl _) _⟩
    · have e2 : cl n = n := by unfold cl bitsOf; rw [if_neg h0, if_neg (by omega)]; omega
      have E := Lib.hid e2; clear e2
      go_enter Try.func30, Try.ntmps30
      go_wp2_with fail
      refine (mask_any _ _).mono ?_; rintro e w' ⟨rfl, rfl⟩
      go_wp2_with fail
      exact bodyPost_ret (v := .agg #[.int .u32 (mk a n), .int .i64 (cl n)]) (by rw [E.out]; simp [results, Try.results30, go_sem, mk]) rfl ⟨rfl, (Below.refl _ _).alloc (Nat.le_refl _) _⟩

/-- May the prefix of this address and length be? -/
def okP (a n : Int) : Bool := decide (a = mk a n) && decide (n = cl n)

theorem keep {W w2 : World} {p : Addr} {v : Value} (hb : Below W.heap.size W w2) (h : W.cell? p = some v) : w2.cell? p = some v :=
  (hb.cell (World.block_lt_of_cell? W p h)).trans h

/-- The box of a prefix that came by value: its two cells, behind a draw. -/
theorem box_cells (w : World) (v0 v1 : Value) : ((w.alloc (.cells #[v0, v1] 32)).drew).cell? ⟨w.heap.size, 0, none⟩ = some v0 ∧ ((w.alloc (.cells #[v0, v1] 32)).drew).cell? ⟨w.heap.size, 1, none⟩ = some v1 := by
  constructor <;> simp [World.cell?_alloc_new]

theorem okP_beq (a n : Int) : (a == mk a n && n == cl n) = okP a n := by
  unfold okP
  rw [Bool.eq_iff_iff]
  simp [Bool.and_eq_true, beq_iff_eq, decide_eq_true_eq]

theorem check_true (a n : Int) (w : World) (hk : okP a n = true) :
    Calls Try.prog 24 #[.agg #[.int .u32 a, .int .i64 n]] w fun e w' => e = .returned (.int .i64 0) ∧ Below w.heap.size w w' := by
  have hbx := box_cells w (.int .u32 a) (.int .i64 n)
  have HX := Lib.hid hbx
  obtain ⟨C0, C1⟩ := hbx
  have hq := pfx_neq a n (mk a n) (cl n)
  rw [okP_beq, hk] at hq
  have hg := pfx_eqGuard
  have HZ := Lib.hid (show w.heap.size ≤ (w.alloc (.cells #[Value.int .u32 a, Value.int .i64 n] 32)).drew.heap.size from by simp)
  clear hk
  go_enter Try.func24, Try.ntmps24
  go_wp2_with fail
  go_region_held (fun w' => w'.cell? ⟨w.heap.size, 0, none⟩ = some (.int .u32 a) ∧ w'.cell? ⟨w.heap.size, 1, none⟩ = some (.int .i64 n)) (refine ⟨?_, ?_⟩ <;> assumption) (first | (go_at_call 30; refine (make_any a n _).mono ?_; rintro e w2 ⟨rfl, hb2⟩; have k0 := keep hb2 HX.out.1; have k1 := keep hb2 HX.out.2; have HB2 := Lib.hid hb2; clear hb2))
  have HB := Lib.hid ((((Below.refl w.heap.size w).alloc (Nat.le_refl _) _).drew).trans (HB2.out.mono HZ.out))
  clear HB2
  go_wp2_with fail
  go_ret
  exact ⟨rfl, HB.out⟩

theorem check_false (a n : Int) (w : World) (hk : okP a n = false) :
    Calls Try.prog 24 #[.agg #[.int .u32 a, .int .i64 n]] w fun e w' => e = .returned (.int .i64 20) ∧ Below w.heap.size w w' := by
  have hbx := box_cells w (.int .u32 a) (.int .i64 n)
  have HX := Lib.hid hbx
  obtain ⟨C0, C1⟩ := hbx
  have hq := pfx_neq a n (mk a n) (cl n)
  rw [okP_beq, hk] at hq
  have hg := pfx_eqGuard
  have HZ := Lib.hid (show w.heap.size ≤ (w.alloc (.cells #[Value.int .u32 a, Value.int .i64 n] 32)).drew.heap.size from by simp)
  clear hk
  go_enter Try.func24, Try.ntmps24
  go_wp2_with fail
  go_region_held (fun w' => w'.cell? ⟨w.heap.size, 0, none⟩ = some (.int .u32 a) ∧ w'.cell? ⟨w.heap.size, 1, none⟩ = some (.int .i64 n)) (refine ⟨?_, ?_⟩ <;> assumption) (first | (go_at_call 30; refine (make_any a n _).mono ?_; rintro e w2 ⟨rfl, hb2⟩; have k0 := keep hb2 HX.out.1; have k1 := keep hb2 HX.out.2; have HB2 := Lib.hid hb2; clear hb2))
  have HB := Lib.hid ((((Below.refl w.heap.size w).alloc (Nat.le_refl _) _).drew).trans (HB2.out.mono HZ.out))
  clear HB2
  go_wp2_with fail
  go_ret
  exact ⟨rfl, HB.out⟩

def errP (a n : Int) : Int := if okP a n then 0 else 20
theorem check_any (a n : Int) (w : World) :
    Calls Try.prog 24 #[.agg #[.int .u32 a, .int .i64 n]] w fun e w' => e = .returned (.int .i64 (errP a n)) ∧ Below w.heap.size w w' := by
  unfold errP
  rcases hk : okP a n with _ | _
  · exact check_false a n w hk
  · exact check_true a n w hk

/-- Does the prefix of this address and length hold an address? -/
def holdsP (a n b : Int) : Bool := a == mk b n && n == cl n

/-- Does the prefix a/n hold the prefix b/m? -/
def withinP (a n b m : Int) : Bool := okP b m && decide (n ≤ m) && holdsP a n b

/-- A prefix that came by value lies in a box of its own. -/
def Box (w : World) (g : Nat) (v0 v1 : Value) : Prop := w.rowIs g 32 2 (fun j => if j = 0 then v0 else v1)
theorem Box.new (w : World) (v0 v1 : Value) : Box (w.alloc (.cells #[v0, v1] 32)) w.heap.size v0 v1 :=
  World.rowIs_alloc w #[v0, v1] _ _ (fun i hi => by
    have : i = 0 ∨ i = 1 := by simp at hi; omega
    rcases this with rfl | rfl <;> rfl)
theorem Box.c0 {w : World} {g : Nat} {v0 v1 : Value} (h : Box w g v0 v1) : w.cell? ⟨g, 0, none⟩ = some v0 := World.rowIs.cell h (i := 0) (by omega)
theorem Box.c1 {w : World} {g : Nat} {v0 v1 : Value} (h : Box w g v0 v1) : w.cell? ⟨g, 1, none⟩ = some v1 := World.rowIs.cell h (i := 1) (by omega)
theorem Box.alloc {w : World} {g : Nat} {v0 v1 : Value} (h : Box w g v0 v1) (o : Obj) : Box (w.alloc o) g v0 v1 := World.rowIs.alloc h o
theorem Box.below {w w' : World} {g : Nat} {v0 v1 : Value} (h : Box w g v0 v1) (hb : Below w.heap.size w w') : Box w' g v0 v1 := World.rowIs.of_block h (hb.block _ (World.rowIs.lt h))
theorem Box.two (w : World) (v0 v1 u0 u1 : Value) : Box ((w.alloc (.cells #[v0, v1] 32)).alloc (.cells #[u0, u1] 32)) w.heap.size v0 v1 ∧ Box ((w.alloc (.cells #[v0, v1] 32)).alloc (.cells #[u0, u1] 32)) (w.heap.size + 1) u0 u1 := by
  refine ⟨(Box.new w v0 v1).alloc _, ?_⟩
  have h := Box.new (w.alloc (.cells #[v0, v1] 32)) u0 u1
  rwa [show (w.alloc (.cells #[v0, v1] 32)).heap.size = w.heap.size + 1 from by simp] at h
theorem below_two (w : World) (o1 o2 : Obj) : Below w.heap.size w ((w.alloc o1).alloc o2) := ((Below.refl _ _).alloc (Nat.le_refl _) _).alloc (by simp) _
theorem size_two (w : World) (o1 o2 : Obj) : w.heap.size ≤ ((w.alloc o1).alloc o2).heap.size := by simp; omega

/-- The order of prefixes. -/
def cmpP (a n b m : Int) : Int := if a = b ∧ n = m then 0 else if a < b ∨ a = b ∧ n < m then -1 else 1

theorem compare_any (a n b m : Int) (w : World) :
    Calls Try.prog 35 #[.agg #[.int .u32 a, .int .i64 n], .agg #[.int .u32 b, .int .i64 m]] w fun e w' => e = .returned (.int .i64 (cmpP a n b m)) ∧ Below w.heap.size w w' := by
  have HW := Lib.hid (below_two w (.cells #[.int .u32 a, .int .i64 n] 32) (.cells #[.int .u32 b, .int .i64 m] 32))
  have hg := pfx_eqGuard
  have hq := pfx_eql a n b m
  by_cases h : a = b ∧ n = m
  · have HK := Lib.hid (show cmpP a n b m = 0 by unfold cmpP; rw [if_pos h])
    rw [show (a == b && n == m) = true by simp [h]] at hq
    clear h
    go_enter Try.func35, Try.ntmps35
    go_wp2_with fail
    go_ret
    exact ⟨by rw [HK.out]; rfl, HW.out⟩
  · rw [show (a == b && n == m) = false by
      rw [Bool.and_eq_false_iff]
      by_cases h1 : a = b
      · right; simp; omega
      · left; simpa using h1] at hq
    by_cases h1 : a < b
    · have HK := Lib.hid (show cmpP a n b m = -1 by unfold cmpP; rw [if_neg h, if_pos (Or.inl h1)])
      clear h
      go_enter Try.func35, Try.ntmps35
      go_wp2_with fail
      go_ret
      exact ⟨by rw [HK.out]; rfl, HW.out⟩
    · by_cases h2 : a = b
      · subst h2
        by_cases h3 : n < m
        · have HK := Lib.hid (show cmpP a n a m = -1 by unfold cmpP; rw [if_neg h, if_pos (Or.inr ⟨rfl, h3⟩)])
          clear h
          go_enter Try.func35, Try.ntmps35
          go_wp2_with fail
          go_ret
          exact ⟨by rw [HK.out]; rfl, HW.out⟩
        · have HK := Lib.hid (show cmpP a n a m = 1 by unfold cmpP; rw [if_neg h, if_neg (by omega)])
          clear h
          go_enter Try.func35, Try.ntmps35
          go_wp2_with fail
          go_ret
          exact ⟨by rw [HK.out]; rfl, HW.out⟩
      · have HK := Lib.hid (show cmpP a n b m = 1 by unfold cmpP; rw [if_neg h, if_neg (by omega)])
        have h2' : (a == b) = false := by simpa using h2
        clear h h2
        go_enter Try.func35, Try.ntmps35
        go_wp2_with fail
        go_ret
        exact ⟨by rw [HK.out]; rfl, HW.out⟩

/-- The i-th bit of an address, from the highest, 0, on. -/
def bitP (a i : Int) : Int := if i < 0 then 0 else if 31 < i then 0 else a / 2 ^ (31 - i).toNat % 2
end Go.Proofs.Ytjimnlpmmhcdjaa
