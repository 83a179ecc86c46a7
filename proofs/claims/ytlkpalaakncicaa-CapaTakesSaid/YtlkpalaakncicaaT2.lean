/- trie: what lies below a node, and the longest, on numbers alone. -/
import Derived.Test.YtlkpalaakncicaaT1
namespace Go.Proofs.Ytlkpalaakncicaa
open Go.RowKit
set_option linter.unusedVariables false
set_option linter.unusedSimpArgs false

/-- What the bit at d is worth. -/
def pw (d : Nat) : Int := 2 ^ (31 - d)
theorem pw_pos (d : Nat) : 0 < pw d := Int.pow_pos (by omega)
theorem pw_nat (d : Nat) : pw d = ((2 ^ (31 - d) : Nat) : Int) := by unfold pw; exact (Int.natCast_pow 2 _).symm
theorem mk_next {a : Int} {k : Nat} (h0 : 0 ≤ a) (h1 : a < 4294967296) (hk : k ≤ 31) : mk a ((k + 1 : Nat) : Int) = mk a k + bitP a k * pw k := by
  have := mk_step a k h0 h1 hk
  rw [show ((31 : Int) - (k : Int)).toNat = 31 - k from by omega] at this
  unfold pw
  rw [← this, Int.natCast_add]; rfl
theorem mk_mul {a : Int} {d : Nat} (hd : d ≤ 31) (h0 : 0 ≤ a) (h1 : a < 4294967296) : ∃ q : Int, mk a d = q * (2 * pw d) ∧ a < q * (2 * pw d) + 2 * pw d := by
  obtain ⟨A, rfl⟩ := Int.eq_ofNat_of_zero_le h0
  have e : (2 : Nat) ^ (32 - d) = 2 * 2 ^ (31 - d) := by rw [Nat.mul_comm, ← Nat.pow_succ]; congr 1; omega
  refine ⟨((A / 2 ^ (32 - d) : Nat) : Int), ?_, ?_⟩
  · rw [mk_div A d (by omega) (by omega), pw_nat, e]
    generalize (2 : Nat) ^ (31 - d) = p
    rw [Int.natCast_mul, Int.natCast_mul]; rfl
  · rw [pw_nat, e]
    have hp : 0 < 2 * 2 ^ (31 - d) := by have := Nat.pow_pos (n := 31 - d) (show 0 < 2 by omega); omega
    have h2 := Nat.div_add_mod A (2 * 2 ^ (31 - d))
    have h3 := Nat.mod_lt A hp
    generalize (2 : Nat) ^ (31 - d) = p at *
    have h4 : ((A / (2 * p) : Nat) : Int) * (2 * (p : Int)) = ((2 * p * (A / (2 * p)) : Nat) : Int) := by rw [Int.natCast_mul, Int.natCast_mul, Int.mul_comm]; rfl
    rw [h4]
    omega
/-- An address that has d bits at most. -/
structure Node (x : Int) (d : Nat) : Prop where
  intro ::
  d32 : d ≤ 32
  ok : okP x d = true
  x0 : 0 ≤ x
  x1 : x < 4294967296
theorem Node.eq {x : Int} {d : Nat} (h : Node x d) : mk x d = x := (okP_parts h.ok).1.symm
theorem node_mk {a : Int} {d : Nat} (hd : d ≤ 32) (h0 : 0 ≤ a) (h1 : a < 4294967296) : Node (mk a d) d := by
  have := mk_bd a d h0 h1
  exact ⟨hd, okP_mk hd h0 h1, this.1, by omega⟩
theorem node_zero : Node 0 0 := ⟨by omega, by decide, by omega, by omega⟩
theorem TE.Ok.node {x : TE} (h : x.Ok) : Node x.a x.n.toNat ∧ ((x.n.toNat : Nat) : Int) = x.n := by
  obtain ⟨_, n0, n1⟩ := okP_parts h.ok
  have e : ((x.n.toNat : Nat) : Int) = x.n := by omega
  exact ⟨⟨by omega, by rw [e]; exact h.ok, h.a0, h.a1⟩, e⟩
theorem bit_cases (a : Int) (k : Nat) : bitP a k = 0 ∨ bitP a k = 1 := by have := bitP_bd a k; omega
theorem half_ne {x y : Int} {d : Nat} (hd : d ≤ 31) (hx : Node x d) (hy : Node y d) : x ≠ y + pw d := fun h => by
  obtain ⟨q, hq, _⟩ := mk_mul hd hx.x0 hx.x1
  obtain ⟨r, hr, _⟩ := mk_mul hd hy.x0 hy.x1
  rw [hx.eq] at hq
  rw [hy.eq] at hr
  rw [hq, hr] at h
  have hp := pw_pos d
  have e : pw d * (2 * q - 2 * r - 1) = 0 := by
    have e1 : q * (2 * pw d) = pw d * (2 * q) := by rw [Int.mul_comm q, Int.mul_comm 2, Int.mul_assoc]
    have e2 : r * (2 * pw d) = pw d * (2 * r) := by rw [Int.mul_comm r, Int.mul_comm 2, Int.mul_assoc]
    rw [e1, e2] at h
    rw [Int.mul_sub, Int.mul_sub, Int.mul_one, h]; omega
  rcases Int.mul_eq_zero.1 e with h | h <;> omega
theorem mk_down {a : Int} {d : Nat} (hd : d ≤ 31) (h0 : 0 ≤ a) (h1 : a < 4294967296) : mk (mk a ((d + 1 : Nat) : Int)) d = mk a d := mk_mk a d _ h0 h1 (by omega) (by omega) (by omega)
/-- The two below a node are nodes. -/
theorem Node.left {x : Int} {d : Nat} (h : Node x d) (hd : d ≤ 31) : Node x (d + 1) := by
  have e : mk x ((d + 1 : Nat) : Int) = x := by
    have h1 := mk_next h.x0 h.x1 hd
    rw [h.eq] at h1
    have h2 := mk_bd x ((d + 1 : Nat) : Int) h.x0 h.x1
    have hp := pw_pos d
    rcases bit_cases x d with hb | hb <;> rw [hb] at h1 <;> omega
  have := node_mk (a := x) (d := d + 1) (by omega) h.x0 h.x1
  rwa [e] at this
theorem Node.bit0 {x : Int} {d : Nat} (h : Node x d) (hd : d ≤ 31) : bitP x d = 0 := by
  have h1 := mk_next h.x0 h.x1 hd
  rw [h.eq] at h1
  have h2 := mk_bd x ((d + 1 : Nat) : Int) h.x0 h.x1
  have hp := pw_pos d
  rcases bit_cases x d with hb | hb
  · exact hb
  · rw [hb] at h1; omega
/-- Below a node: of at least so many bits, and it begins as the node does. -/
def inSub (x : Int) (d : Nat) (e : TE) : Bool := decide ((d : Int) ≤ e.n ∧ mk e.a d = x)
theorem sub_last {L : List TE} (h : TL L) {x : Int} (hx : Node x 32) : L.filter (inSub x 32) = (atT L x 32).toList := by
  rw [← filter_is h]
  apply List.filter_congr
  intro e he
  have ho := h.ok e he
  obtain ⟨e1, n0, n1⟩ := okP_parts ho.ok
  unfold inSub TE.is
  rw [decide_eq_decide]
  constructor
  · rintro ⟨h1, h2⟩
    have hn : e.n = 32 := by omega
    rw [hn] at e1
    exact ⟨e1.trans h2, hn⟩
  · rintro ⟨h1, h2⟩
    rw [h2] at e1
    exact ⟨by omega, e1.symm.trans h1⟩
theorem sub_split {L : List TE} (h : TL L) {x : Int} {d : Nat} (hx : Node x d) (hd : d ≤ 31) :
    L.filter (inSub x d) = (atT L x d).toList ++ (L.filter (inSub x (d + 1)) ++ L.filter (inSub (x + pw d) (d + 1))) := by
  have hp := pw_pos d
  have key : ∀ e ∈ L, inSub x d e = (TE.is x d e || (inSub x (d + 1) e || inSub (x + pw d) (d + 1) e)) := fun e he => by
    have ho := h.ok e he
    obtain ⟨e1, n0, n1⟩ := okP_parts ho.ok
    have hs := mk_next (a := e.a) (k := d) ho.a0 ho.a1 hd
    rw [Bool.eq_iff_iff]
    simp only [Bool.or_eq_true]
    unfold inSub TE.is
    rw [decide_eq_true_eq, decide_eq_true_eq, decide_eq_true_eq, decide_eq_true_eq]
    constructor
    · rintro ⟨h1, h2⟩
      by_cases hn : e.n = d
      · rw [hn] at e1; exact .inl ⟨e1.trans h2, hn⟩
      · right
        rcases bit_cases e.a d with hb | hb <;> rw [hb, h2] at hs
        · exact .inl ⟨by omega, by omega⟩
        · exact .inr ⟨by omega, by omega⟩
    · rintro (⟨h1, h2⟩ | ⟨h1, h2⟩ | ⟨h1, h2⟩)
      · rw [h2] at e1; exact ⟨by omega, e1.symm.trans h1⟩
      · refine ⟨by omega, ?_⟩
        have := mk_down (a := e.a) hd ho.a0 ho.a1
        rw [h2, hx.eq] at this; exact this.symm
      · refine ⟨by omega, ?_⟩
        rw [h2] at hs
        have hn := node_mk (a := e.a) (d := d) (by omega) ho.a0 ho.a1
        rcases bit_cases e.a d with hb | hb <;> rw [hb] at hs
        · exact absurd (show mk e.a d = x + pw d by omega) (half_ne hd hn hx)
        · omega
  rw [filter_split (Q := TE.is x d) (R := fun e => inSub x (d + 1) e || inSub (x + pw d) (d + 1) e) h.sorted key ?_, filter_is h,
    filter_split (P := fun e => inSub x (d + 1) e || inSub (x + pw d) (d + 1) e) (Q := inSub x (d + 1)) (R := inSub (x + pw d) (d + 1)) h.sorted (fun _ _ => rfl) ?_]
  · intro e he f hf h1 h2
    have oe := h.ok e he
    have of := h.ok f hf
    unfold inSub at h1 h2
    have h1 := of_decide_eq_true h1
    have h2 := of_decide_eq_true h2
    have b2 := mk_bd f.a ((d + 1 : Nat) : Int) of.a0 of.a1
    have hs := mk_next (a := e.a) (k := d) oe.a0 oe.a1 hd
    -- e.a < x + pw d
    obtain ⟨q, hq, hl⟩ := mk_mul (a := e.a) (d := d) hd oe.a0 oe.a1
    have : e.a < x + pw d := by
      by_cases h31 : d = 31
      · subst h31
        have e32 : mk e.a ((31 + 1 : Nat) : Int) = e.a := by
          obtain ⟨E, hE⟩ := Int.eq_ofNat_of_zero_le oe.a0
          have := mk_div E 32 (by have := oe.a1; omega) (by omega)
          rw [hE]
          simpa using this
        rw [e32] at h1; omega
      · obtain ⟨q, hq, hl⟩ := mk_mul (a := e.a) (d := d + 1) (by omega) oe.a0 oe.a1
        have e2 : 2 * pw (d + 1) = pw d := by
          unfold pw
          rw [show 31 - d = (31 - (d + 1)) + 1 from by omega, Int.pow_succ]; omega
        rw [e2] at hq hl
        rw [← hq, h1.2] at hl
        exact hl
    unfold TE.lt; omega
  · intro e he f hf h1 h2
    have oe := h.ok e he
    have of := h.ok f hf
    have h1 := of_decide_eq_true h1
    simp only [Bool.or_eq_true] at h2
    unfold inSub at h2
    rw [decide_eq_true_eq, decide_eq_true_eq] at h2
    have b2 := mk_bd f.a ((d + 1 : Nat) : Int) of.a0 of.a1
    unfold TE.lt
    rcases h2 with h2 | h2 <;> omega
/-- What a prefix holds is what is below its node. -/
theorem within_sub {L : List TE} (h : TL L) {a n : Int} (hp : okP a n = true) : L.filter (fun e => withinP a n e.a e.n) = L.filter (inSub a n.toNat) := by
  apply List.filter_congr
  intro e he
  have ho := h.ok e he
  obtain ⟨e1, n0, n1⟩ := okP_parts hp
  have en : ((n.toNat : Nat) : Int) = n := by omega
  unfold withinP inSub holdsP
  rw [ho.ok, en, cl_in n0 n1]
  by_cases h1 : n ≤ e.n <;> by_cases h2 : mk e.a n = a <;> simp [h1, h2]
  · exact fun h => h2 h.symm
theorem within_none {L : List TE} (h : TL L) {a n : Int} (hp : okP a n = false) : L.filter (fun e => withinP a n e.a e.n) = [] := by
  rw [List.filter_eq_nil_iff]
  intro e he
  have ho := h.ok e he
  rw [within_no1 ho.a0 ho.a1 hp]; decide
/-- The longest of those on the way to an address, of fewer than k bits. -/
def lngTo (L : List TE) (a : Int) : Nat → Option TE
  | 0 => none
  | k + 1 => match atT L (mk a k) k with | some e => some e | none => lngTo L a k
theorem lngTo_some {L : List TE} {a : Int} : ∀ {k : Nat} {e : TE}, lngTo L a k = some e → ∃ d : Nat, d < k ∧ atT L (mk a d) d = some e
  | k + 1, e, h => by
    unfold lngTo at h
    rcases hc : atT L (mk a k) k with _ | x <;> rw [hc] at h
    · obtain ⟨d, hd, he⟩ := lngTo_some h; exact ⟨d, by omega, he⟩
    · cases h; exact ⟨k, by omega, hc⟩
theorem lngTo_most {L : List TE} {a : Int} : ∀ {k d : Nat} {e : TE}, d < k → atT L (mk a d) d = some e → ∃ f, lngTo L a k = some f ∧ e.n ≤ f.n
  | k + 1, d, e, hd, he => by
    unfold lngTo
    rcases hc : atT L (mk a k) k with _ | x
    · by_cases hk : d = k
      · subst hk; rw [hc] at he; cases he
      · exact lngTo_most (by omega) he
    · refine ⟨x, rfl, ?_⟩
      have := (atT_some hc).2.2
      have := (atT_some he).2.2
      omega
/-- Nothing on the way from d on. -/
theorem lngTo_stop {L : List TE} {a : Int} {d : Nat} (h : ∀ j, d ≤ j → j ≤ 32 → atT L (mk a j) j = none) : ∀ k, d ≤ k → k ≤ 33 → lngTo L a k = lngTo L a d
  | k, hk, h33 => by
    by_cases e : d = k
    · subst e; rfl
    · obtain ⟨j, rfl⟩ : ∃ j, k = j + 1 := ⟨k - 1, by omega⟩
      rw [lngTo, h j (by omega) (by omega)]
      exact lngTo_stop h j (by omega) (by omega)
theorem holds_node {e : TE} (ho : e.Ok) {x : Int} (h : holdsP e.a e.n x = true) : mk x e.n = e.a := (holds_parts h).1.symm
/-- Which one is told is settled by this alone. -/
def IsLong (L : List TE) (x : Int) : Option TE → Prop
  | none => ∀ e ∈ L, holdsP e.a e.n x = false
  | some e => e ∈ L ∧ holdsP e.a e.n x = true ∧ ∀ f ∈ L, holdsP f.a f.n x = true → f.n ≤ e.n
theorem IsLong.unique {L : List TE} (h : TL L) {x : Int} {r s : Option TE} (hr : IsLong L x r) (hs : IsLong L x s) : r = s := by
  rcases r with _ | e <;> rcases s with _ | f
  · rfl
  · have := hr f hs.1; rw [hs.2.1] at this; cases this
  · have := hs e hr.1; rw [hr.2.1] at this; cases this
  · have h1 := hr.2.2 f hs.1 hs.2.1
    have h2 := hs.2.2 e hr.1 hr.2.1
    have hn : e.n = f.n := by omega
    have e1 := holds_node (h.ok e hr.1) hr.2.1
    have e2 := holds_node (h.ok f hs.1) hs.2.1
    rw [hn] at e1
    rw [h.eq hr.1 hs.1 (e1.symm.trans e2) hn]
theorem lng_is {L : List TE} (h : TL L) {x : Int} (h0 : 0 ≤ x) (h1 : x < 4294967296) : IsLong L x (lngTo L x 33) := by
  have key : ∀ f ∈ L, holdsP f.a f.n x = true → atT L (mk x f.n.toNat) f.n.toNat = some f := fun f hf hh => by
    have ho := h.ok f hf
    have en := ho.node.2
    rw [en, holds_node ho hh]
    exact h.at hf
  rcases hc : lngTo L x 33 with _ | e
  · intro f hf
    rcases hh : holdsP f.a f.n x with _ | _
    · rfl
    · have ho := h.ok f hf
      obtain ⟨g, hg, _⟩ := lngTo_most (k := 33) (by have := ho.node.1.d32; omega) (key f hf hh)
      rw [hc] at hg; cases hg
  · obtain ⟨d, hd, he⟩ := lngTo_some hc
    obtain ⟨hm, ea, en⟩ := atT_some he
    have ho := h.ok e hm
    have hh : holdsP e.a e.n x = true := by
      unfold holdsP
      rw [en, ea, cl_in (by omega) (by omega)]
      simp
    refine ⟨hm, hh, fun f hf hfh => ?_⟩
    obtain ⟨g, hg, hl⟩ := lngTo_most (k := 33) (by have := (h.ok f hf).node.1.d32; omega) (key f hf hfh)
    rw [hc] at hg; cases hg; exact hl
end Go.Proofs.Ytlkpalaakncicaa
