/- fsm: a step in memory; do. -/
import Derived.Test.YtbacnjijfffobaaH2
import Derived.Laws.AppendOwn
namespace Go.Proofs.Ytbacnjijfffobaa
open Go.RowKit

theorem gbB {a b : World} {r : Option Nat} (h : Below a.heap.size a b) : a.grownBy b r :=
  ⟨h.os, h.tape, h.output, h.size, fun i hi _ => h.block i hi⟩
theorem rowH_below {w w' : World} {B : Nat} {E : TypeId} {size : Nat} {v : Value} {n : Nat} {xs : List Value} (h : w.ownsRow B E size v n xs) (hb : Below w.heap.size w w') : w'.ownsRow B E size v n xs := by
  refine h.kept (row := none) (gbB hb) ?_
  rcases hv : v.ownBlock with _ | g
  · exact .inl rfl
  · exact .inr (by simp)
/-- A row of another type than that of a block that is written stands. -/
theorem rowH_past {w w' : World} {B : Nat} {E : TypeId} {size : Nat} {v : Value} {n : Nat} {xs : List Value} (h : w.ownsRow B E size v n xs) {g : Nat} {t : TypeId} {vs : List Value} (hb : Blk w g t vs) (ht : t ≠ E) (hg : w.grownBy w' (some g)) : w'.ownsRow B E size v n xs := by
  refine h.kept hg ?_
  rcases h.2 with ⟨rfl, _⟩ | ⟨g', cap, cur, rfl, hB, hh, _⟩
  · exact .inl rfl
  · refine .inr (fun e => ?_)
    have e' : g' = g := by simpa [Value.ownBlock] using e
    subst e'
    obtain ⟨cs, hc, _⟩ := hb
    rw [hh] at hc
    simp at hc
    exact ht hc.2.symm
theorem rowH_ne {w : World} {B : Nat} {E : TypeId} {size : Nat} {v : Value} {n : Nat} {xs : List Value} (h : w.ownsRow B E size v n xs) {g : Nat} {t : TypeId} {vs : List Value} (hb : Blk w g t vs) (ht : t ≠ E) : v.ownBlock ≠ some g := by
  intro e
  rcases h.2 with ⟨rfl, _⟩ | ⟨g', cap, cur, rfl, hB, hh, _⟩
  · cases e
  · have e' : g' = g := by simpa [Value.ownBlock] using e
    subst e'
    obtain ⟨cs, hc, _⟩ := hb
    rw [hh] at hc
    simp at hc
    exact ht hc.2.symm
theorem rowH_form {w : World} {B : Nat} {E : TypeId} {size : Nat} {v : Value} {n : Nat} {xs : List Value} (h : w.ownsRow B E size v n xs) :
    ∃ p c, v = .slice p n c ∧ n ≤ c ∧ c ≤ maxLen := by
  rcases h.2 with ⟨rfl, rfl⟩ | ⟨g, cap, cur, rfl, _, _, h1, h2, _⟩
  · exact ⟨none, 0, rfl, Nat.le_refl _, by unfold maxLen; omega⟩
  · exact ⟨_, cap, rfl, h1, h2⟩
theorem gb_set (w : World) (g i : Nat) (v : Value) : w.grownBy (w.setCell ⟨g, i, none⟩ v) (some g) :=
  ⟨by simp [World.setCell], by simp [World.setCell], by simp [World.setCell], by simp [World.setCell], fun k _ hk => Below.heap_setCell _ _ _ _ (by intro e; exact hk (by rw [e]))⟩
theorem infoParts {t : TypeId} {z : Value} {s b : Nat} (h : (Try.prog.info? t).map (fun i => (i.zero, i.size, i.bytes)) = some (some z, s, b)) : ∃ i : TypeInfo, Try.prog.info? t = some i ∧ i.zero = some z ∧ i.size = s ∧ i.bytes = b := by
  rcases hi : Try.prog.info? t with _ | i
  · rw [hi] at h; cases h
  · rw [hi] at h
    simp only [Option.map_some, Option.some.injEq, Prod.mk.injEq] at h
    exact ⟨i, rfl, h.1, h.2.1, h.2.2⟩

theorem infoAct : (Try.prog.info? 44).map (fun i => (i.zero, i.size, i.bytes)) = some (some (.agg #[.int .i64 0, .int .i64 0, .int .i64 0, .int .i64 0, .slice none 0 0]), 5, 56) := by kernel_rfl
theorem act_one {l : List Ac} : ∀ u ∈ acells l, u.oneCell' = true := by
  intro u hu
  unfold acells at hu
  obtain ⟨a, _, ha⟩ := List.mem_flatMap.1 hu
  simp [Ac.c] at ha
  rcases ha with rfl | rfl | rfl | rfl | rfl <;> rfl
/-- A step's cells. -/
def stC (o : Op) (r : Int) (s : Ph) (v : Value) : List Value :=
  [.int .i64 o.asn, .int .i64 o.hold, .int .u32 o.id, .bool o.four, .int .i64 o.paths, .int .i64 r, .int .i64 s.phase, .int .i64 s.hold, .bool s.four, .bool s.paths, .int .u32 s.id, v]
/-- A step in memory: what we say, the state as far as it came, what was done. -/
structure StM (w : World) (g B : Nat) (o : Op) (r : Int) (s : Ph) (l : List Ac) : Prop where
  ex : ∃ v, Blk w g 52 (stC o r s v) ∧ w.ownsRow B 44 5 v l.length (acells l)
  low : B ≤ g
theorem StM.next {w w' : World} {g B : Nat} {o : Op} {r : Int} {s : Ph} {l : List Ac} (h : StM w g B o r s l) (hb : Below w.heap.size w w') : StM w' g B o r s l := by
  obtain ⟨⟨v, h1, h2⟩, h3⟩ := h
  exact ⟨⟨v, h1.next hb, rowH_below h2 hb⟩, h3⟩
theorem StM.lt {w : World} {g B : Nat} {o : Op} {r : Int} {s : Ph} {l : List Ac} (h : StM w g B o r s l) : g < w.heap.size := by
  obtain ⟨⟨v, h1, h2⟩, h3⟩ := h
  exact h1.lt
/-- The cells of what is done, told as a row of cells. -/
def AcsAt (w : World) (a : Nat) (l : List Ac) : Prop := ∀ j u, (acells l)[j]? = some u → w.cell? ((⟨a, 0, none⟩ : Addr).add j) = some u
theorem AcsAt.new (w : World) (t : TypeId) (l : List Ac) : AcsAt (w.alloc (.cells (acells l).toArray t)) w.heap.size l := by
  intro j u hj
  have hlt : j < (acells l).length := by
    rcases Nat.lt_or_ge j (acells l).length with h | h
    · exact h
    · rw [List.getElem?_eq_none h] at hj; cases hj
  have := (Blk.new w t (acells l)).cell j hlt
  rw [add_lit', Nat.zero_add, this, ← hj]
  simp [List.getD, List.getElem?_eq_getElem hlt]
theorem under_acts : Try.prog.underlying 37 = some (.slice 44) := Try.underlying37
/-- append of acts to acts of one's own. -/
theorem wpList_appa {ops : Array Oper} {rest : List Oper} {o : Oper} {a : Act} {w : World} {Q : Exit → Act → World → Prop} (hgd : o.guard = none) (s x : Operand)
    (ho : o.op = .call { callee := .builtin .append, args := #[s, x], argTypes := #[37, 37] })
    (B : Nat) (v : Value) (n : Nat) (l : List Ac) (hown : w.ownsRow B 44 5 v n (acells l)) (hs : a.eval s = v)
    (ad m c : Nat) (k : List Ac) (hx : a.eval x = .slice (some ⟨ad, 0, none⟩) m c) (hk : k.length = m) (hc : AcsAt w ad k) (hm : n + m ≤ 1000) (hB : B ≤ w.heap.size)
    (h : ∀ q' cap' w', Hid (w'.ownsRow B 44 5 (.slice q' (n + m) cap') (n + m) (acells (l ++ k))) → Hid (w.grownBy w' v.ownBlock) → wpList Try.prog ops Q rest (a.put o.dst (.slice q' (n + m) cap')) w') :
    wpList Try.prog ops Q (o :: rest) a w := by
  obtain ⟨i0, hi, hz0, hz1, hz2⟩ := infoParts infoAct
  refine wpList_append_own w hgd s x 37 ho B 44 i0 _ 5 56 under_acts hi hz0 hz1 hz2 rfl (by decide) v n (acells l) hs hown ⟨ad, 0, none⟩ m c (acells k) hx (by rw [acells_len, hk]) hc act_one (by unfold maxLen; omega) (by omega) hB (fun v' w2 h2 h3 _ => ?_)
  obtain ⟨q', cap', rfl, _, _⟩ := rowH_form h2
  exact h q' cap' w2 (Lib.hid (by rw [acells_app]; exact h2)) (Lib.hid h3)
theorem do_any (w : World) (g B : Nat) (o : Op) (r : Int) (s : Ph) (l : List Ac) (h : StM w g B o r s l) (a m c : Nat) (k : List Ac) (hk : k.length = m) (hc : AcsAt w a k) (hm : l.length + m ≤ 1000) (hB : B ≤ w.heap.size) :
    Calls Try.prog 23 #[.pointer (some ⟨g, 0, none⟩), .slice (some ⟨a, 0, none⟩) m c] w fun e w' => e = .returned (.tuple #[]) ∧ StM w' g B o r s (l ++ k) ∧ Below B w w' := by
  obtain ⟨⟨v, hb, hr⟩, hlow⟩ := h
  obtain ⟨n, hn⟩ : ∃ n, l.length = n := ⟨_, rfl⟩
  rw [hn] at hr hm
  obtain ⟨q, cap, rfl, h1, h2⟩ := rowH_form hr
  have c11 : w.cell? ⟨g, 11, none⟩ = some (.slice q n cap) := hb.cell 11 (by simp [stC])
  have HB := Lib.hid hb
  have HR := Lib.hid hr
  have HK := Lib.hid hk
  have HN := Lib.hid hn
  have HC := Lib.hid hc
  clear hb hr hk hn hc
  go_enter Try.func23, Try.ntmps23
  go_wp2_with (refine wpList_appa (o := ⟨some 10, _, _, _, _, _⟩) (by rfl) (.tmp 8) (.tmp 9) (by rfl) B (.slice q n cap) n l HR.out (by rfl) a m c k (by rfl) HK.out HC.out hm hB ?_; intro q' cap' w2 H2 H3; have HB2 := Lib.hid (HB.out.of_same (H3.out.block g HB.out.lt (rowH_ne HR.out HB.out (by decide)).symm)); have f11 := HB2.out.f 11; have c11' : w2.cell? ⟨g, 11, none⟩ = some (.slice q n cap) := HB2.out.cell 11 (by simp [stC]))
  exact bodyPost_end (v := .tuple #[]) (by simp [results, Try.results23, go_sem]) rfl ⟨rfl, ⟨⟨_, HB2.out.set 11 _, by rw [List.length_append, HN.out, HK.out]; exact rowH_past H2.out HB2.out (by decide) (gb_set _ _ _ _)⟩, hlow⟩, ((Below.refl B w).grown H3.out hB fun b hk => (HR.out.lt b hk).1).setCell hlow _⟩
end Go.Proofs.Ytbacnjijfffobaa
