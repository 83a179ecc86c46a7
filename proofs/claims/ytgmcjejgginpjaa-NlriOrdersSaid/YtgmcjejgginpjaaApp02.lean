/- Bytes that grow by append; the document's own Put. -/
import Derived.Test.YtgmcjejgginpjaaRefB02
import Derived.Maps.AppendAt
import Derived.Deep.AppendLies
import Derived.Deep.RegionHeldLaw
namespace Go.Proofs.Ytgmcjejgginpjaa
open Go.RowKit

/-- A row of bytes of one's own: its first n are these. -/
def OwnB (w : World) (B : Nat) (v : Value) (xs : List Int) : Prop := w.ownsRow B 5 1 v xs.length (xs.map (Value.int .u8))

theorem info5' : ∃ i : TypeInfo, Try.prog.info? 5 = some i ∧ i.zero = some (.int .u8 0) ∧ i.size = 1 ∧ i.bytes = 1 := by
  have h := info5
  rcases hi : Try.prog.info? 5 with _ | i
  · rw [hi] at h; cases h
  · rw [hi] at h
    simp only [Option.map_some, Option.some.injEq, Prod.mk.injEq] at h
    exact ⟨i, rfl, h.1, h.2.1, h.2.2⟩

theorem run_app (w : World) (ty : TypeId) (B : Nat) (v : Value) (xs : List Int) (hv : v ≠ .slice none 0 0) (hown : OwnB w B v xs) (ad : Addr) (c : Nat) (ys : List Int) (hnews : ∀ j, j < ys.length → w.cell? (ad.add j) = some (.int .u8 (ys.getD j 0)))
    (h63 : xs.length + ys.length ≤ 100000) (hB : B ≤ w.heap.size) :
    ∃ g cap w', (Builtin.append_ #[24, 24] ty #[v, .slice (some ad) ys.length c]).run Try.prog w = .ok (.slice (some ⟨g, 0, none⟩) (xs.length + ys.length) cap) w' ∧
      OwnB w' B (.slice (some ⟨g, 0, none⟩) (xs.length + ys.length) cap) (xs ++ ys) ∧ w.grownBy w' v.ownBlock ∧ B ≤ g := by
  obtain ⟨i, hi, hz, hs, hb⟩ := info5'
  obtain ⟨v', w', hr, h2, h3, h4, _⟩ := run_append_own_at (P := Try.prog) w B 24 ty 5 i (.int .u8 0) 1 1 Try.underlying24 hi hz hs hb rfl (by omega) v xs.length (xs.map (Value.int .u8)) hown
    ad ys.length c (ys.map (Value.int .u8)) (by simp) (fun j u hu => by
      have hj : j < ys.length := by
        rcases Nat.lt_or_ge j ys.length with h | h
        · exact h
        · rw [List.getElem?_eq_none (by simpa using h)] at hu; cases hu
      rw [hnews j hj, ← hu]
      simp [List.getD, List.getElem?_eq_getElem hj]) (fun u hu => by
      obtain ⟨x, _, rfl⟩ := List.mem_map.1 hu
      rfl) (by simp only [maxLen]; omega) (by omega) hB
  rcases h2.2 with ⟨hn, _⟩ | ⟨g, cap, cur, rfl, hbg, _⟩
  · exact absurd (h4.1 hn).1 hv
  · refine ⟨g, cap, w', hr, ?_, h3, hbg⟩
    unfold OwnB
    rw [List.length_append, List.map_append]
    exact h2

theorem step_app {ops : Array Oper} {o : Oper} {a : Act} {w : World} {K : Act → World → Prop} {Q : Exit → Act → World → Prop} {E : Prop} (hgd : o.guard = none) (s x : Operand)
    (ho : o.op = .call { callee := .builtin .append, args := #[s, x], argTypes := #[24, 24] })
    (B : Nat) (v : Value) (xs : List Int) (hv : v ≠ .slice none 0 0) (hs : a.eval s = v) (hown : OwnB w B v xs) (ad : Addr) (c : Nat) (ys : List Int) (hx : a.eval x = .slice (some ad) ys.length c) (hnews : ∀ j, j < ys.length → w.cell? (ad.add j) = some (.int .u8 (ys.getD j 0)))
    (h63 : xs.length + ys.length ≤ 100000) (hB : B ≤ w.heap.size)
    (h : ∀ g cap w', Hid (OwnB w' B (.slice (some ⟨g, 0, none⟩) (xs.length + ys.length) cap) (xs ++ ys)) → Hid (w.grownBy w' v.ownBlock) → Hid (B ≤ g) → K (a.put o.dst (.slice (some ⟨g, 0, none⟩) (xs.length + ys.length) cap)) w') :
    if Region.wanted o (yielded ops a.tmps) = true then Oper.wp Try.prog o a w K Q else E := by
  have hw : Region.wanted o (yielded ops a.tmps) = true := by simp [Region.wanted, hgd]
  rw [if_pos hw]
  obtain ⟨g, cap, w', hr, h2, h3, h4⟩ := run_app w o.type B v xs hv hown ad c ys hnews h63 hB
  unfold Oper.wp execOp
  simp only [ho, resolve, invoke, builtin, Sem.run_bind, Sem.run_pure, Result.andThen_ok, List.map_toArray, List.map_cons, List.map_nil, hs, hx, hr]
  exact h g cap w' (Lib.hid h2) (Lib.hid h3) (Lib.hid h4)

theorem wpList_app {ops : Array Oper} {rest : List Oper} {o : Oper} {a : Act} {w : World} {Q : Exit → Act → World → Prop} (hgd : o.guard = none) (s x : Operand)
    (ho : o.op = .call { callee := .builtin .append, args := #[s, x], argTypes := #[24, 24] })
    (B : Nat) (v : Value) (xs : List Int) (hv : v ≠ .slice none 0 0) (hs : a.eval s = v) (hown : OwnB w B v xs) (ad : Addr) (c : Nat) (ys : List Int) (hx : a.eval x = .slice (some ad) ys.length c) (hnews : ∀ j, j < ys.length → w.cell? (ad.add j) = some (.int .u8 (ys.getD j 0)))
    (h63 : xs.length + ys.length ≤ 100000) (hB : B ≤ w.heap.size)
    (h : ∀ g cap w', Hid (OwnB w' B (.slice (some ⟨g, 0, none⟩) (xs.length + ys.length) cap) (xs ++ ys)) → Hid (w.grownBy w' v.ownBlock) → Hid (B ≤ g) → wpList Try.prog ops Q rest (a.put o.dst (.slice (some ⟨g, 0, none⟩) (xs.length + ys.length) cap)) w') :
    wpList Try.prog ops Q (o :: rest) a w :=
  wpList_plain hgd fun K hK => by
    obtain ⟨g, cap, w', hr, h2, h3, h4⟩ := run_app w o.type B v xs hv hown ad c ys hnews h63 hB
    unfold Oper.wp execOp
    simp only [ho, resolve, invoke, builtin, Sem.run_bind, Sem.run_pure, Result.andThen_ok, List.map_toArray, List.map_cons, List.map_nil, hs, hx, hr]
    exact hK _ _ (h g cap w' (Lib.hid h2) (Lib.hid h3) (Lib.hid h4))

theorem OwnB.at {w : World} {B g n cap : Nat} {xs : List Int} (h : OwnB w B (.slice (some ⟨g, 0, none⟩) n cap) xs) : ∀ j, j < xs.length → w.cell? ((⟨g, 0, none⟩ : Addr).add j) = some (.int .u8 (xs.getD j 0)) := fun j hj => by
  have := World.ownsRow.cells h (g := g) rfl j (.int .u8 (xs.getD j 0)) (by simp [List.getD, List.getElem?_eq_getElem hj])
  exact this
end Go.Proofs.Ytgmcjejgginpjaa
