/- hop: the interfaces of such a map come, each once; they are collected. -/
import Derived.Test.YtlkpalaakncicaaW6
import Derived.RangeFuncGives
import Derived.RangeFuncSeq
import Derived.RangeFuncLeaves
import Derived.Sort.MapsRangeIn
import Derived.Maps.AppendAt
import Derived.OwnWalkIn
import Derived.TacticsInMore
import Derived.RegionIn
import Derived.LoopNIn
import Derived.LoopIn
namespace Go.Proofs.Ytlkpalaakncicaa
open Go.RowKit Go.Maps
set_option linter.unusedVariables false
set_option linter.unusedSimpArgs false

theorem infoIf : (Try.prog.info? 34).map (fun i => (i.zero, i.size, i.bytes)) = some (some (.agg #[.int .i64 0, .int .i64 0, .int .u32 0, .int .i64 0, .int .i64 0]), 5, 40) := by kernel_rfl
theorem info_parts' {t : TypeId} {z : Value} {s b : Nat} (h : (Try.prog.info? t).map (fun i => (i.zero, i.size, i.bytes)) = some (some z, s, b)) : ∃ i, Try.prog.info? t = some i ∧ i.zero = some z ∧ i.size = s ∧ i.bytes = b := by
  obtain ⟨i, hi, he⟩ := Option.map_eq_some_iff.1 h
  simp only [Prod.mk.injEq] at he
  exact ⟨i, hi, he.1, he.2.1, he.2.2⟩
theorem add_litN (b off j : Nat) : (⟨b, off, none⟩ : Addr).add j = ⟨b, off + j, none⟩ := by unfold Addr.add; split <;> simp_all
def icells (l : List Ifc) : List Value := l.flatMap ifC
/-- Each of l, once. -/
def Once (l ss : List Ifc) : Prop := ss.Nodup ∧ ∀ x, x ∈ ss ↔ x ∈ l
/-- Those that have come while others are left. -/
def Come (l : List Ifc) (left : Lit → Bool) (ss : List Ifc) : Prop := ss.Nodup ∧ ∀ x, x ∈ ss ↔ (x ∈ l ∧ left (litI x.id) = false)
/-- No two of a number. -/
def Apart (l : List Ifc) : Prop := ∀ x ∈ l, byId l x.id = some x
theorem byId_mem {l : List Ifc} {id : Int} {x : Ifc} (h : byId l id = some x) : x ∈ l ∧ x.id = id := by
  unfold byId at h
  exact ⟨List.mem_of_find?_eq_some h, by simpa using List.find?_some h⟩
theorem Come.start {D : DataW Unit} {l : List Ifc} (hD : MapIs D l) (hA : Apart l) : Come l (Maps.has D) [] :=
  ⟨List.nodup_nil, fun x => by
    constructor
    · intro h; simp at h
    · rintro ⟨hx, h⟩
      rw [hD.has, hA x hx] at h
      cases h⟩
theorem Come.step {l : List Ifc} {left : Lit → Bool} {ss : List Ifc} (h : Come l left ss) (hA : Apart l) {x : Ifc} (hx : x ∈ l) (hl : left (litI x.id) = true) : Come l (fun z => left z && !z.sameKey (litI x.id)) (ss ++ [x]) := by
  have hnew : x ∉ ss := fun hm => by have := ((h.2 x).1 hm).2; rw [hl] at this; cases this
  refine ⟨List.nodup_append.2 ⟨h.1, by simp, fun a ha b hb => by simp at hb; subst hb; exact fun e => hnew (e ▸ ha)⟩, fun y => ?_⟩
  by_cases e : y = x
  · subst e; simp [hx, WideAt.sameKey_self (litI_key y.id)]
  · rw [List.mem_append, List.mem_singleton, h.2 y]
    constructor
    · rintro (⟨h1, h2⟩ | h1)
      · exact ⟨h1, by simp [h2]⟩
      · exact absurd h1 e
    · rintro ⟨h1, h2⟩
      left
      refine ⟨h1, ?_⟩
      have hid : y.id ≠ x.id := fun e' => e (by
        have a := hA y h1
        have b := hA x hx
        rw [e', b] at a
        exact (Option.some.inj a).symm)
      have hs : (litI y.id).sameKey (litI x.id) = false := sameKey_ne (fun e2 => hid (litI_inj e2))
      simpa [hs] using h2
theorem Come.all {l : List Ifc} {left : Lit → Bool} {ss : List Ifc} (h : Come l left ss) (hl : ∀ kl, left kl = false) : Once l ss :=
  ⟨h.1, fun x => by rw [h.2 x, hl]; simp⟩
set_option maxRecDepth 100000 in
set_option maxHeartbeats 4000000 in
theorem ifVals1_in (F : Fence) (n : Nat) (hfn : F.fn 62) (hro : F.round = none) (hn : 1 ≤ n) (l Bm b nn : Nat) (D0 : DataW Unit) (ls : List Ifc) (hD : MapIs D0 ls) (hA : Apart ls) (J : List Ifc → World → Prop)
    (hY : ∀ pre x W, J pre W → pre.length < Maps.size D0 → YieldAt F (n - 1) Try.prog l #[ifV x] W fun e W' => e = .returned (.bool true) ∧ J (pre ++ [x]) W' ∧ KeepsWalks W W')
    (W : World) (hJ : AbidesFrom W.heap.size J) (hm : W.cell? ⟨Bm, 0, none⟩ = some (.map (some b))) (hown : W.ownsMap Try.prog 3 ifElem b nn D0) (h0 : J [] W) :
    CallsIn F n Try.prog 62 #[.func (.yield l) #[] #[], .pointer (some ⟨Bm, 0, none⟩)] W fun e W' => (∃ v, e = .returned v) ∧ ∃ ss : List Ifc, Once ls ss ∧ J ss W' := by
  refine callsIn_of_wp Try.func62 rfl hfn ?_ hro
  simp only [Try.ntmps62, List.size_toArray, List.length_cons, List.length_nil, Nat.reduceAdd, Nat.reduceSub, Array.replicate_succ, Array.replicate_zero, List.push_toArray, List.append_toArray, List.nil_append, List.cons_append]
  gi_wp2_with (first
    | (gi_at_range; refine wpListIn_range_own _ rfl _ 74 rfl 3 34 key_keyed Try.underlying74 _ b nn _ rfl hown ?_; intro w0 hrg0 hg0 hs0)
    | gi_in)
  go_frame
  gi_loopw [4] (fun _ wr => ∃ (left : Lit → Bool) (cnt : Nat) (ss : List Ifc), wr.ranges Try.prog 3 ifElem b W.heap.size nn D0 left cnt ∧ ss.length + cnt ≤ Maps.size D0 ∧ Come ls left ss ∧ (∀ kl, left kl = true → Maps.has D0 kl = true) ∧ J ss wr)
    (fun _ wr => wr.rangeLeft b W.heap.size)
  case atStart =>
    exact ⟨_, _, [], hrg0, by simp, Come.start hD hA, fun _ h => h, hJ [] W w0 none h0 hg0 (fun r e => by cases e)⟩
  case round =>
    obtain ⟨left, cnt, ss, hrg, hcs, hC, hsub, hJs⟩ := hrel
    gi_wp2_with (first
      | (gi_at_next; refine wpListIn_next_ranges _ rfl _ rfl 3 key_keyed ifElem (Value.int .i64) (fun x : Ifc => ifV x) (fun key kl hk => by obtain ⟨x, rfl, _⟩ := Maps.keyOf_int_inv Try.underlying3 hk; exact ⟨x, rfl⟩) (fun v y hv => by obtain ⟨x, rfl, _⟩ := ifElem_inv hv; exact ⟨x, rfl⟩) b W.heap.size nn _ _ _ rfl hrg ?_ ?_)
      | gi_in)
    · intro hc0 hl0
      gi_wp2
      go_end0
      exact ⟨⟨_, rfl⟩, ss, hC.all hl0, hJs⟩
    · intro x c kl y1 y2 w2 cnt2 hkey hlk hv hat hrg2 hlt hg2 hs2 hen
      obtain ⟨x', ex, rfl, _⟩ := Maps.keyOf_int_inv Try.underlying3 hkey
      cases ex
      obtain ⟨c', ec, hy⟩ := ifElem_inv hv
      have hcc : c = c' := by
        obtain ⟨a1, a2, a3, a4, a5⟩ := c
        obtain ⟨b1, b2, b3, b4, b5⟩ := c'
        simp [ifV] at ec
        obtain ⟨rfl, rfl, rfl, rfl, rfl⟩ := ec
        rfl
      subst hcc
      have hy1 : y1 = ifD c := congrArg Prod.fst hy
      have hby : byId ls x = some c := by
        have h1 := hat (.lit (.bool false))
        have h2 := hD.at_ x (.lit (.bool false))
        rw [show (Lit.int .i64 x) = litI x from rfl] at h1
        rw [h1, hy1] at h2
        rcases hb : byId ls x with _ | z
        · rw [hb] at h2; simp [ifD] at h2
        · rw [hb] at h2; rw [ifD_inj h2]
      obtain ⟨hcm, hci⟩ := byId_mem hby
      subst hci
      have hJ2 : J ss w2 := hJ ss wr w2 (some W.heap.size) hJs hg2 (fun r e => by cases e; exact ⟨Nat.le_refl _, hrg.iter_walk⟩)
      have hJ3 : J ss (w2.alloc (.cells #[.int .i64 c.id, .int .i64 c.r, .int .u32 c.a, .int .i64 c.n, .int .i64 c.c] 34)) := hJ ss w2 _ none hJ2 (World.grownBy_alloc w2 _ none) (fun r e => by cases e)
      obtain ⟨fn, tmps, assign, body, hy, hR⟩ := hY ss c _ hJ3 (by omega)
      clear hs2
      gi_wp2
      refine hR.mono ?_
      rintro e W3 ⟨rfl, hJ4, hk3⟩
      gi_wp2
      have hrg3 := (hrg2.alloc _).of_walks hk3
      go_roundw
      case rel => exact ⟨_, cnt2, ss ++ [c], hrg3, by simp; omega, hC.step hA hcm hlk, (fun kl hl => hsub kl (by simp at hl; exact hl.1)), hJ4⟩
      case measure => rw [hrg3.left_eq, hrg.left_eq]; exact hlt
/-- maps.Values: the map is boxed. -/
theorem ifVals_any (mb : Option Nat) (w : World) :
    Calls Try.prog 42 #[.map mb] w fun e w' => e = .returned (.func (.func 62) #[] #[.pointer (some ⟨w.heap.size, 0, none⟩)]) ∧ w' = w.alloc (.cells #[.map mb] 74) := by
  go_enter Try.func42, Try.ntmps42
  go_wp2
  go_ret
  exact ⟨rfl, rfl⟩
/-- What it hands back gives each interface, once. -/
theorem ifVals_gives (F : Fence) (n : Nat) (hfn : F.fn 62) (hro : F.round = none) (hn : 1 ≤ n) (Bm b nn : Nat) (D0 : DataW Unit) (ls : List Ifc) (hD : MapIs D0 ls) (hA : Apart ls) (w : World) (hBm : Bm < w.heap.size)
    (hm : w.cell? ⟨Bm, 0, none⟩ = some (.map (some b))) (hown : w.ownsMap Try.prog 3 ifElem b nn D0) :
    SeqGives F n Try.prog 62 #[.pointer (some ⟨Bm, 0, none⟩)] (fun x : Ifc => ifV x) (fun ss => Once ls ss) (Maps.size D0) w := fun l J W hW hJ hY h0 => by
  have hown' : W.ownsMap Try.prog 3 ifElem b nn D0 := by
    have hbl := hown.lt
    obtain ⟨es, clock, hb, Ft, hs, hD⟩ := hown
    exact ⟨es, clock, (hW.block b hbl).trans hb, Ft, hs, hD⟩
  exact ifVals1_in F n hfn hro hn l Bm b nn D0 ls hD hA J hY W hJ ((hW.cell (p := ⟨Bm, 0, none⟩) hBm).trans hm) hown' h0
end Go.Proofs.Ytlkpalaakncicaa
