/- trie: Get, Len at int. -/
import Derived.Test.YtipecocalmmmbaaT7
namespace Go.Proofs.Ytipecocalmmmbaa
open Go.RowKit Go.Shelf
set_option linter.unusedVariables false
set_option linter.unusedSimpArgs false

/-- A prefix's node. -/
def atN (N : Int → Nat → Option Nat) (a n : Int) : Option Nat := if okP a n then N a n.toNat else none
theorem at_int (w : World) (B t r : Nat) (s : Int) (N : Int → Nat → Option Nat) (L : List TE) (h : TrAt TRi NDi THi w B t r s N L) (a n : Int) (a0 : 0 ≤ a) (a1 : a < 4294967296) :
    Calls Try.prog 45 #[.pointer (some ⟨t, 0, none⟩), .agg #[.int .u32 a, .int .i64 n]] w fun e w' => e = .returned (optP (atN N a n)) ∧ Below w.heap.size w w' := by
  unfold atN
  rcases hk : okP a n with _ | _
  · exact at_no_int w _ a n hk
  · obtain ⟨_, n0, n1⟩ := okP_parts hk
    obtain ⟨m, rfl⟩ := Int.eq_ofNat_of_zero_le n0
    exact at_yes_int w B t r s N L h a m a0 a1 hk
theorem TrAt.not_ok {TR ND TH : TypeId} {w : World} {B t r : Nat} {s : Int} {N : Int → Nat → Option Nat} {L : List TE} (h : TrAt TR ND TH w B t r s N L) {a n : Int} (hk : okP a n = false) : atT L a n = none := by
  rcases hc : atT L a n with _ | e
  · rfl
  · obtain ⟨he, rfl, rfl⟩ := atT_some hc
    rw [(h.tl.ok e he).ok] at hk; cases hk
/-- What a node's cell tells of its thing. -/
theorem TrAt.atN {TR ND TH : TypeId} {w : World} {B t r : Nat} {s : Int} {N : Int → Nat → Option Nat} {L : List TE} (h : TrAt TR ND TH w B t r s N L) (a n : Int) :
    (atN N a n = none ∧ atT L a n = none) ∨ ∃ b, atN N a n = some b ∧ okP a n = true ∧ N a n.toNat = some b ∧ w.cell? ⟨b, 0, none⟩ = some (optP ((atT L a n).map TE.g)) ∧ ∀ e, atT L a n = some e → Blk w e.g TH [.int .u32 e.a, .int .i64 e.n, e.v] := by
  unfold Ytipecocalmmmbaa.atN
  rcases hk : okP a n with _ | _
  · exact .inl ⟨rfl, h.not_ok hk⟩
  · rw [if_pos rfl]
    obtain ⟨_, n0, n1⟩ := okP_parts hk
    obtain ⟨m, rfl⟩ := Int.eq_ofNat_of_zero_le n0
    rw [Int.toNat_natCast]
    rcases hN : N a m with _ | b
    · exact .inl ⟨rfl, h.no hN⟩
    · exact .inr ⟨b, rfl, rfl, rfl, (h.node _ _ _ hN).cell 0 (by simp), fun e he => (h.thing e (atT_some he).1).2.1⟩
/-- What Get answers. -/
def gotV (z : Value) (o : Option TE) : Value := .tuple #[match o with | some e => e.v | none => z, .bool o.isSome]
set_option maxRecDepth 100000 in
set_option maxHeartbeats 4000000 in
theorem get_int (w : World) (B t r : Nat) (s : Int) (N : Int → Nat → Option Nat) (L : List TE) (h : TrAt TRi NDi THi w B t r s N L) (a n : Int) (a0 : 0 ≤ a) (a1 : a < 4294967296) :
    Calls Try.prog 21 #[.pointer (some ⟨t, 0, none⟩), .agg #[.int .u32 a, .int .i64 n]] w fun e w' => e = .returned (gotV (.int .i64 0) (atT L a n)) ∧ Below w.heap.size w w' := by
  have HA := Lib.hid (newB w (.cells #[.int .u32 a, .int .i64 n] 32))
  have hX := Blk.new w 32 [.int .u32 a, .int .i64 n]
  obtain ⟨V, hV⟩ : ∃ V, w.alloc (.cells #[.int .u32 a, .int .i64 n] 32) = V := ⟨_, rfl⟩
  have hX : Blk V w.heap.size 32 [.int .u32 a, .int .i64 n] := hV ▸ hX
  rw [hV] at HA
  have HT := Lib.hid (h.below HA.out)
  have p0 : V.cell? ⟨w.heap.size, 0, none⟩ = some (.int .u32 a) := hX.cell 0 (by simp)
  have p1 : V.cell? ⟨w.heap.size, 1, none⟩ = some (.int .i64 n) := hX.cell 1 (by simp)
  have HV := Lib.hid hV
  obtain ⟨G, hG⟩ : ∃ G, gotV (.int .i64 0) (atT L a n) = G := ⟨_, rfl⟩
  rw [hG]
  have HG := Lib.hid hG
  clear hX hV h hG
  go_enter Try.func21, Try.ntmps21
  go_wp2_with fail
  rw [HV.out]
  refine (at_int V B t r s N L HT.out a n a0 a1).mono ?_
  rintro e w1 ⟨rfl, hb⟩
  have HT1 := Lib.hid (HT.out.below hb)
  have HB := Lib.hid (HA.out.trans (hb.mono HA.out.size))
  clear hb p0 p1
  rcases HT1.out.atN a n with ⟨h1, h2⟩ | ⟨b, h1, _, _, hc, he⟩
  · rw [h1, optP_none]
    have HG2 := Lib.hid (show G = .tuple #[.int .i64 0, .bool false] by rw [← HG.out, h2]; rfl)
    clear h1 h2
    go_wp2_with fail
    go_ret2
    exact ⟨by have e := HG2.out; subst e; rfl, HB.out⟩
  · rw [h1, optP_some]
    rcases ht : atT L a n with _ | x
    · rw [ht] at hc
      change w1.cell? ⟨b, 0, none⟩ = some (.pointer none) at hc
      have HG2 := Lib.hid (show G = .tuple #[.int .i64 0, .bool false] by rw [← HG.out, ht]; rfl)
      clear h1 ht he
      go_wp2_with fail
      go_ret2
      exact ⟨by have e := HG2.out; subst e; rfl, HB.out⟩
    · rw [ht] at hc
      change w1.cell? ⟨b, 0, none⟩ = some (.pointer (some ⟨x.g, 0, none⟩)) at hc
      have hx : w1.cell? ⟨x.g, 2, none⟩ = some x.v := (he x ht).cell 2 (by simp)
      have HG2 := Lib.hid (show G = .tuple #[x.v, .bool true] by rw [← HG.out, ht]; rfl)
      obtain ⟨xg, hxg⟩ : ∃ g, x.g = g := ⟨_, rfl⟩
      obtain ⟨xv, hxv⟩ : ∃ v, x.v = v := ⟨_, rfl⟩
      rw [hxg] at hc hx
      rw [hxv] at hx HG2
      clear h1 ht he hxg hxv
      go_wp2_with fail
      go_ret2
      exact ⟨by have e := HG2.out; subst e; rfl, HB.out⟩
theorem len_int (w : World) (t : Nat) (s : Int) (h : w.cell? ⟨t, 1, none⟩ = some (.int .i64 s)) :
    Calls Try.prog 19 #[.pointer (some ⟨t, 0, none⟩)] w fun e w' => e = .returned (.int .i64 s) ∧ w = w' := by
  go_enter Try.func19, Try.ntmps19
  go_wp2
  go_ret
  exact ⟨rfl, rfl⟩
end Go.Proofs.Ytipecocalmmmbaa
