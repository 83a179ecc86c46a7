/- trie: Get, Len at int. -/
import Derived.Test.YtlkpalaakncicaaV7
namespace Go.Proofs.Ytlkpalaakncicaa
open Go.RowKit Go.Shelf
set_option linter.unusedVariables false
set_option linter.unusedSimpArgs false

/-- A prefix's node. -/
def atN (N : Int → Nat → Option Nat) (a n : Int) : Option Nat := if okP a n then N a n.toNat else none
theorem at_if (w : World) (B t r : Nat) (s : Int) (N : Int → Nat → Option Nat) (L : List TE) (h : TrAt TRf NDf THf w B t r s N L) (a n : Int) (a0 : 0 ≤ a) (a1 : a < 4294967296) :
    Calls Try.prog 67 #[.pointer (some ⟨t, 0, none⟩), .agg #[.int .u32 a, .int .i64 n]] w fun e w' => e = .returned (optP (atN N a n)) ∧ Below w.heap.size w w' := by
  unfold atN
  rcases hk : okP a n with _ | _
  · exact at_no_if w _ a n hk
  · obtain ⟨_, n0, n1⟩ := okP_parts hk
    obtain ⟨m, rfl⟩ := Int.eq_ofNat_of_zero_le n0
    exact at_yes_if w B t r s N L h a m a0 a1 hk
theorem TrAt.not_ok {TR ND TH : TypeId} {w : World} {B t r : Nat} {s : Int} {N : Int → Nat → Option Nat} {L : List TE} (h : TrAt TR ND TH w B t r s N L) {a n : Int} (hk : okP a n = false) : atT L a n = none := by
  rcases hc : atT L a n with _ | e
  · rfl
  · obtain ⟨he, rfl, rfl⟩ := atT_some hc
    rw [(h.tl.ok e he).ok] at hk; cases hk
/-- What a node's cell tells of its thing. -/
theorem TrAt.atN {TR ND TH : TypeId} {w : World} {B t r : Nat} {s : Int} {N : Int → Nat → Option Nat} {L : List TE} (h : TrAt TR ND TH w B t r s N L) (a n : Int) :
    (atN N a n = none ∧ atT L a n = none) ∨ ∃ b, atN N a n = some b ∧ okP a n = true ∧ N a n.toNat = some b ∧ w.cell? ⟨b, 0, none⟩ = some (optP ((atT L a n).map TE.g)) ∧ ∀ e, atT L a n = some e → Blk w e.g TH (thC e.a e.n e.v) := by
  unfold Ytlkpalaakncicaa.atN
  rcases hk : okP a n with _ | _
  · exact .inl ⟨rfl, h.not_ok hk⟩
  · rw [if_pos rfl]
    obtain ⟨_, n0, n1⟩ := okP_parts hk
    obtain ⟨m, rfl⟩ := Int.eq_ofNat_of_zero_le n0
    rw [Int.toNat_natCast]
    rcases hN : N a m with _ | b
    · exact .inl ⟨rfl, h.no hN⟩
    · exact .inr ⟨b, rfl, rfl, rfl, (h.node _ _ _ hN).cell 0 (by simp), fun e he => (h.thing e (atT_some he).1).2.1⟩
/-- A struct of five cells that is stored whole. -/
theorem Blk.five {w : World} {P : Nat} {t : TypeId} {u0 u1 u2 u3 u4 : Value} (h : Blk w P t [u0, u1, u2, u3, u4]) (a b c d e : Value) :
    Blk (((((w.setCell ⟨P, 0, none⟩ a).setCell ⟨P, 1, none⟩ b).setCell ⟨P, 2, none⟩ c).setCell ⟨P, 3, none⟩ d).setCell ⟨P, 4, none⟩ e) P t [a, b, c, d, e] :=
  ((((h.set 0 a).set 1 b).set 2 c).set 3 d).set 4 e
theorem below_five {B : Nat} {w0 w : World} {P : Nat} (h : Below B w0 w) (hP : B ≤ P) (a b c d e : Value) :
    Below B w0 (((((w.setCell ⟨P, 0, none⟩ a).setCell ⟨P, 1, none⟩ b).setCell ⟨P, 2, none⟩ c).setCell ⟨P, 3, none⟩ d).setCell ⟨P, 4, none⟩ e) :=
  ((((h.setCell (p := ⟨P, 0, none⟩) hP _).setCell (p := ⟨P, 1, none⟩) hP _).setCell (p := ⟨P, 2, none⟩) hP _).setCell (p := ⟨P, 3, none⟩) hP _).setCell (p := ⟨P, 4, none⟩) hP _
/-- What Get answers. -/
def gotV (z : Value) (o : Option TE) : Value := .tuple #[match o with | some e => e.v | none => z, .bool o.isSome]
set_option maxRecDepth 100000 in
set_option maxHeartbeats 4000000 in
theorem get_if (w : World) (B t r : Nat) (s : Int) (N : Int → Nat → Option Nat) (L : List TE) (h : TrAt TRf NDf THf w B t r s N L) (hval : ∀ e ∈ L, ∃ v : Ifc, e.v = ifV v) (a n : Int) (a0 : 0 ≤ a) (a1 : a < 4294967296) :
    Calls Try.prog 55 #[.pointer (some ⟨t, 0, none⟩), .agg #[.int .u32 a, .int .i64 n]] w fun e w' => e = .returned (gotV (.agg #[.int .i64 0, .int .i64 0, .int .u32 0, .int .i64 0, .int .i64 0]) (atT L a n)) ∧ Below w.heap.size w w' := by
  have HA := Lib.hid (two_below w (.cells #[.int .u32 a, .int .i64 n] 32) (.cells #[.int .i64 0, .int .i64 0, .int .u32 0, .int .i64 0, .int .i64 0] 34))
  have hX := (Blk.new w 32 [.int .u32 a, .int .i64 n]).alloc (.cells #[.int .i64 0, .int .i64 0, .int .u32 0, .int .i64 0, .int .i64 0] 34)
  have hX2 := Blk.new (w.alloc (.cells #[.int .u32 a, .int .i64 n] 32)) 34 [.int .i64 0, .int .i64 0, .int .u32 0, .int .i64 0, .int .i64 0]
  rw [sz_alloc] at hX2
  obtain ⟨V, hV⟩ : ∃ V, (w.alloc (.cells #[.int .u32 a, .int .i64 n] 32)).alloc (.cells #[.int .i64 0, .int .i64 0, .int .u32 0, .int .i64 0, .int .i64 0] 34) = V := ⟨_, rfl⟩
  have hX : Blk V w.heap.size 32 [.int .u32 a, .int .i64 n] := hV ▸ hX
  rw [hV] at HA hX2
  obtain ⟨P, hP⟩ : ∃ P, w.heap.size = P := ⟨_, rfl⟩
  rw [hP] at hX2
  have HPP := Lib.hid hP
  have HXB := Lib.hid hX2
  have HT := Lib.hid (h.below HA.out)
  have p0 : V.cell? ⟨w.heap.size, 0, none⟩ = some (.int .u32 a) := hX.cell 0 (by simp)
  have p1 : V.cell? ⟨w.heap.size, 1, none⟩ = some (.int .i64 n) := hX.cell 1 (by simp)
  have HV := Lib.hid hV
  obtain ⟨G, hG⟩ : ∃ G, gotV (.agg #[.int .i64 0, .int .i64 0, .int .u32 0, .int .i64 0, .int .i64 0]) (atT L a n) = G := ⟨_, rfl⟩
  rw [hG]
  have HG := Lib.hid hG
  have HVAL := Lib.hid hval
  clear hX hX2 hV h hG hP hval
  go_enter Try.func55, Try.ntmps55
  go_wp2_with fail
  rw [HV.out, HPP.out]
  refine (at_if V B t r s N L HT.out a n a0 a1).mono ?_
  rintro e w1 ⟨rfl, hb⟩
  have HT1 := Lib.hid (HT.out.below hb)
  have HB := Lib.hid (HA.out.trans (hb.mono HA.out.size))
  have HX1 := Lib.hid (HXB.out.next hb)
  obtain ⟨x0, x1, x2, x3, x4⟩ := if_boxes HX1.out
  have xf : ∀ c, w1.frozen? ⟨P + 1, c, none⟩ = false := fun c => HX1.out.f c
  have xf0 := xf 0
  have xf1 := xf 1
  have xf2 := xf 2
  have xf3 := xf 3
  have xf4 := xf 4
  clear hb p0 p1 xf
  rcases HT1.out.atN a n with ⟨h1, h2⟩ | ⟨b, h1, _, _, hc, he⟩
  · rw [h1, optP_none]
    have HG2 := Lib.hid (show G = .tuple #[.agg #[.int .i64 0, .int .i64 0, .int .u32 0, .int .i64 0, .int .i64 0], .bool false] by rw [← HG.out, h2]; rfl)
    clear h1 h2
    go_wp2_with fail
    have HBP := Lib.hid (show w.heap.size ≤ P + 1 by have := HPP.out; omega)
    have hq := Blk.five HX1.out (.int .i64 0) (.int .i64 0) (.int .u32 0) (.int .i64 0) (.int .i64 0)
    obtain ⟨z0, z1, z2, z3, z4⟩ := if_boxes hq
    exact bodyPost_ret (v := .tuple #[.agg #[.int .i64 0, .int .i64 0, .int .u32 0, .int .i64 0, .int .i64 0], .bool false]) (by simp [results, Try.results55, go_sem, z0, z1, z2, z3, z4]) rfl ⟨by have e := HG2.out; subst e; rfl, below_five HB.out HBP.out _ _ _ _ _⟩
  · rw [h1, optP_some]
    rcases ht : atT L a n with _ | x
    · rw [ht] at hc
      change w1.cell? ⟨b, 0, none⟩ = some (.pointer none) at hc
      have HG2 := Lib.hid (show G = .tuple #[.agg #[.int .i64 0, .int .i64 0, .int .u32 0, .int .i64 0, .int .i64 0], .bool false] by rw [← HG.out, ht]; rfl)
      clear h1 ht he
      go_wp2_with fail
      have HBP := Lib.hid (show w.heap.size ≤ P + 1 by have := HPP.out; omega)
      have hq := Blk.five HX1.out (.int .i64 0) (.int .i64 0) (.int .u32 0) (.int .i64 0) (.int .i64 0)
      obtain ⟨z0, z1, z2, z3, z4⟩ := if_boxes hq
      exact bodyPost_ret (v := .tuple #[.agg #[.int .i64 0, .int .i64 0, .int .u32 0, .int .i64 0, .int .i64 0], .bool false]) (by simp [results, Try.results55, go_sem, z0, z1, z2, z3, z4]) rfl ⟨by have e := HG2.out; subst e; rfl, below_five HB.out HBP.out _ _ _ _ _⟩
    · rw [ht] at hc
      change w1.cell? ⟨b, 0, none⟩ = some (.pointer (some ⟨x.g, 0, none⟩)) at hc
      have hx := he x ht
      have HG2 := Lib.hid (show G = .tuple #[x.v, .bool true] by rw [← HG.out, ht]; rfl)
      obtain ⟨v, hv⟩ := HVAL.out x (atT_some ht).1
      obtain ⟨xa, xn, xv, xg⟩ := x
      obtain rfl : xv = ifV v := hv
      obtain ⟨vi, vr, va, vn, vc⟩ := v
      dsimp only at hc hx HG2
      have hx2 : w1.cell? ⟨xg, 2, none⟩ = some (.int .i64 vi) := hx.cell 2 (by simp [thC, vC])
      have hx3 : w1.cell? ⟨xg, 3, none⟩ = some (.int .i64 vr) := hx.cell 3 (by simp [thC, vC])
      have hx4 : w1.cell? ⟨xg, 4, none⟩ = some (.int .u32 va) := hx.cell 4 (by simp [thC, vC])
      have hx5 : w1.cell? ⟨xg, 5, none⟩ = some (.int .i64 vn) := hx.cell 5 (by simp [thC, vC])
      have hx6 : w1.cell? ⟨xg, 6, none⟩ = some (.int .i64 vc) := hx.cell 6 (by simp [thC, vC])
      clear h1 ht he hx
      go_wp2_with fail
      have HBP := Lib.hid (show w.heap.size ≤ P + 1 by have := HPP.out; omega)
      have hq := Blk.five HX1.out (.int .i64 vi) (.int .i64 vr) (.int .u32 va) (.int .i64 vn) (.int .i64 vc)
      obtain ⟨z0, z1, z2, z3, z4⟩ := if_boxes hq
      exact bodyPost_ret (v := .tuple #[.agg #[.int .i64 vi, .int .i64 vr, .int .u32 va, .int .i64 vn, .int .i64 vc], .bool true]) (by simp [results, Try.results55, go_sem, z0, z1, z2, z3, z4]) rfl ⟨by have e := HG2.out; subst e; rfl, below_five HB.out HBP.out _ _ _ _ _⟩
end Go.Proofs.Ytlkpalaakncicaa
