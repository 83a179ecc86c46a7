/- hop: sixteen tries side by side, and the map beside them. -/
import Derived.Test.YtlkpalaakncicaaW1
namespace Go.Proofs.Ytlkpalaakncicaa
open Go.RowKit Go.Maps
set_option linter.unusedVariables false
set_option linter.unusedSimpArgs false

abbrev HPf : TypeId := 78
theorem ne_hop : HPf ≠ NDf ∧ HPf ≠ TRf ∧ HPf ≠ THf := by decide
structure TrF where
  intro ::
  t : Nat
  r : Nat
  N : Int → Nat → Option Nat
  L : List TE
def hopC (b : Nat) (f : Nat → Value) : List Value := .map (some b) :: (List.range 16).map f
def topV (m : Nat) (F : Nat → TrF) (j : Nat) : Value := if j < m then .pointer (some ⟨(F j).t, 0, none⟩) else .pointer none
theorem hopC_len (b : Nat) (f : Nat → Value) : (hopC b f).length = 17 := by simp [hopC]
theorem hopC_get (b : Nat) (f : Nat → Value) (i : Nat) (h : i < 16) : (hopC b f)[1 + i]? = some (f i) := by
  rw [Nat.add_comm]
  simp [hopC, h]
theorem hopC_set (b : Nat) (f g : Nat → Value) (i : Nat) (h : i < 16) (hg : ∀ j, j ≠ i → g j = f j) : (hopC b f).set (1 + i) (g i) = hopC b g := by
  rw [Nat.add_comm]
  unfold hopC
  rw [List.set_cons_succ]
  congr 1
  refine List.ext_getElem (by simp) fun j h1 h2 => ?_
  simp at h1 h2
  rw [List.getElem_set]
  by_cases e : i = j
  · subst e; simp
  · rw [if_neg e]; simp [hg j (fun e' => e e'.symm)]
theorem Blk.cellAt {w : World} {g : Nat} {t : TypeId} {vs : List Value} (h : Blk w g t vs) {k : Nat} {v : Value} (hv : vs[k]? = some v) : w.cell? ⟨g, k, none⟩ = some v := by
  obtain ⟨hl, rfl⟩ := List.getElem?_eq_some_iff.1 hv
  refine (h.cell k hl).trans ?_
  simp [List.getD, hl]
/-- The tries of the first m routers. -/
structure HopB (w : World) (B h b m : Nat) (F : Nat → TrF) : Prop where
  intro ::
  blk : Blk w h HPf (hopC b (topV m F))
  tr : ∀ i, i < m → TrAt TRf NDf THf w B (F i).t (F i).r (F i).L.length (F i).N (F i).L
  dis : ∀ i j, i < m → j < m → i ≠ j → ∀ k, TrIn (F i).t (F i).N k → ¬ TrIn (F j).t (F j).N k
  bh : B ≤ h
section
variable {w w' : World} {B h b m : Nat} {F : Nat → TrF}
theorem HopB.below (H : HopB w B h b m F) (hb : Below w.heap.size w w') : HopB w' B h b m F := ⟨H.blk.next hb, fun i hi => (H.tr i hi).below hb, H.dis, H.bh⟩
theorem HopB.map (H : HopB w B h b m F) : w.cell? ⟨h, 0, none⟩ = some (.map (some b)) := H.blk.cellAt (by simp [hopC])
theorem HopB.top (H : HopB w B h b m F) {i : Nat} (hi : i < m) (h16 : i < 16) : w.cell? ⟨h, 1 + i, none⟩ = some (.pointer (some ⟨(F i).t, 0, none⟩)) :=
  H.blk.cellAt (by rw [hopC_get _ _ _ h16]; unfold topV; rw [if_pos hi])
theorem TrAt.cells {t r : Nat} {s : Int} {N : Int → Nat → Option Nat} {L : List TE} (H : TrAt TRf NDf THf w B t r s N L) {k : Nat} (hk : TrIn t N k) : ∃ T vs, (T = TRf ∨ T = NDf) ∧ Blk w k T vs := by
  rcases hk with rfl | ⟨x, d, hk⟩
  · exact ⟨_, _, .inl rfl, H.tb⟩
  · exact ⟨_, _, .inr rfl, H.node _ _ _ hk⟩
theorem TrAt.notHop {t r : Nat} {s : Int} {N : Int → Nat → Option Nat} {L : List TE} (H : TrAt TRf NDf THf w B t r s N L) {g : Nat} {vs : List Value} (hg : Blk w g HPf vs) : ¬ TrIn t N g := fun hk => by
  obtain ⟨T, us, hT, hb⟩ := H.cells hk
  have := hg.type hb
  rcases hT with rfl | rfl
  · exact ne_hop.2.1 this
  · exact ne_hop.1 this
theorem TrAt.notMap {t r : Nat} {s : Int} {N : Int → Nat → Option Nat} {L : List TE} (H : TrAt TRf NDf THf w B t r s N L) {g : Nat} {es : Array MapEntry} {c : Nat} (hg : w.heap[g]? = some (.map es c)) : ¬ TrIn t N g := fun hk => by
  obtain ⟨T, us, hT, cs, hc, _⟩ := H.cells hk
  rw [hg] at hc
  cases hc
theorem TrAt.notThing {t r u s : Nat} {x y : Int} {N M : Int → Nat → Option Nat} {L K : List TE} {B' : Nat} (H : TrAt TRf NDf THf w B t r x N L) (K' : TrAt TRf NDf THf w B' u s y M K) {e : TE} (he : e ∈ K) : ¬ TrIn t N e.g := fun hk => by
  have hb := (K'.thing e he).2.1
  rcases hk with hk | ⟨x, d, hk⟩
  · rw [hk] at hb; exact H.ne.2.1 (H.tb.type hb)
  · exact H.ne.2.2.1 ((H.node _ _ _ hk).type hb)
/-- One trie turns. -/
theorem HopB.turn (H : HopB w B h b m F) (hB : B ≤ w.heap.size) {i : Nat} (hi : i < m) {N' : Int → Nat → Option Nat} {L' : List TE} (hr : SetR TRf NDf THf w w' B (F i).t (F i).r (F i).N (F i).L N' L') :
    HopB w' B h b m (fun j => if j = i then ⟨(F i).t, (F i).r, N', L'⟩ else F j) := by
  refine ⟨?_, fun j hj => ?_, fun j k hj hk hne q hq => ?_, H.bh⟩
  · have he : topV m (fun j => if j = i then ⟨(F i).t, (F i).r, N', L'⟩ else F j) = topV m F := by
      funext j
      unfold topV
      by_cases e : j = i
      · subst e; simp
      · simp [e]
    rw [he]
    exact H.blk.of_same (hr.turn.block h H.blk.lt ((H.tr i hi).notHop H.blk))
  · by_cases e : j = i
    · subst e; simp only [if_pos]; exact hr.tr
    · simp only [if_neg e]
      exact (H.tr j hj).kept fun k hk hin => hr.turn.block k hk fun hn => by
        rcases hin with hin | ⟨e', he', rfl⟩
        · exact H.dis i j hi hj (fun e2 => e e2.symm) k hn hin
        · exact (H.tr i hi).notThing (H.tr j hj) he' hn
  · by_cases e1 : j = i
    · subst e1
      simp only [if_pos] at hq
      have e2 : k ≠ j := fun e => hne e.symm
      simp only [if_neg e2]
      intro hq2
      rcases hr.grow q hq with h1 | h1
      · exact H.dis j k hj hk hne q h1 hq2
      · have := (H.tr k hk).inLt hq2; omega
    · simp only [if_neg e1] at hq
      by_cases e2 : k = i
      · subst e2
        simp only [if_pos]
        intro hq2
        rcases hr.grow q hq2 with h1 | h1
        · exact H.dis j k hj hk hne q hq h1
        · have := (H.tr j hj).inLt hq; omega
      · simp only [if_neg e2]
        exact H.dis j k hj hk hne q hq
/-- A trie more. -/
theorem HopB.more (H : HopB w B h b m F) (hm : m < 16) (hB : B ≤ w.heap.size) :
    HopB (((w.alloc (.cells #[.pointer none, .pointer none, .pointer none] NDf)).alloc (.cells #[.pointer (some ⟨w.heap.size, 0, none⟩), .int .i64 0] TRf)).setCell ⟨h, 1 + m, none⟩ (.pointer (some ⟨w.heap.size + 1, 0, none⟩))) B h b (m + 1) (fun j => if j = m then ⟨w.heap.size + 1, w.heap.size, N0 w.heap.size, []⟩ else F j) := by
  have hn := TrAt.new (TR := TRf) (ND := NDf) (TH := THf) ne_if w B hB
  obtain ⟨V, hV⟩ : ∃ V, (w.alloc (.cells #[.pointer none, .pointer none, .pointer none] NDf)).alloc (.cells #[.pointer (some ⟨w.heap.size, 0, none⟩), .int .i64 0] TRf) = V := ⟨_, rfl⟩
  rw [hV] at hn ⊢
  have hb : Below w.heap.size w V := by rw [← hV]; exact two_below _ _ _
  have H1 := H.below hb
  have hin : ∀ k, TrIn (w.heap.size + 1) (N0 w.heap.size) k → w.heap.size ≤ k := fun k hk => by
    rcases hk with rfl | ⟨x, d, hk⟩
    · omega
    · unfold N0 at hk; split at hk
      · injection hk with hk; omega
      · cases hk
  have keep : ∀ {t r : Nat} {N : Int → Nat → Option Nat} {L : List TE}, TrAt TRf NDf THf V B t r L.length N L → TrAt TRf NDf THf (V.setCell ⟨h, 1 + m, none⟩ (.pointer (some ⟨w.heap.size + 1, 0, none⟩))) B t r L.length N L := fun {t r N L} hT =>
    hT.kept fun k hk hin => Below.heap_setCell _ _ _ k fun e => by
      have e : k = h := e
      subst e
      rcases hin with hin | ⟨e', he', hg⟩
      · exact hT.notHop H1.blk hin
      · have := (hT.thing e' he').2.1
        rw [hg] at this
        exact ne_hop.2.2 (H1.blk.type this)
  refine ⟨?_, fun j hj => ?_, fun j k hj hk hne q hq => ?_, H.bh⟩
  · have := H1.blk.set (1 + m) (.pointer (some ⟨w.heap.size + 1, 0, none⟩))
    have hs := hopC_set b (topV m F) (topV (m + 1) (fun j => if j = m then ⟨w.heap.size + 1, w.heap.size, N0 w.heap.size, []⟩ else F j)) m hm fun j hj => by
      unfold topV
      by_cases hjm : j < m
      · rw [if_pos hjm, if_pos (by omega)]; simp [hj]
      · rw [if_neg hjm, if_neg (by omega)]
    rw [show topV (m + 1) (fun j => if j = m then (⟨w.heap.size + 1, w.heap.size, N0 w.heap.size, []⟩ : TrF) else F j) m = .pointer (some ⟨w.heap.size + 1, 0, none⟩) by unfold topV; rw [if_pos (by omega)]; simp] at hs
    rw [hs] at this
    exact this
  · by_cases e : j = m
    · subst e; simp only [if_pos]; exact keep hn
    · simp only [if_neg e]; exact keep (H1.tr j (by omega))
  · by_cases e1 : j = m
    · subst e1
      simp only [if_pos] at hq
      have e2 : k ≠ j := fun e => hne e.symm
      simp only [if_neg e2]
      intro hq2
      have h1 := (H.tr k (by omega)).inLt hq2
      have := hin q hq
      omega
    · simp only [if_neg e1] at hq
      by_cases e2 : k = m
      · subst e2
        simp only [if_pos]
        intro hq2
        have h1 := (H.tr j (by omega)).inLt hq
        have := hin q hq2
        omega
      · simp only [if_neg e2]
        exact H.dis j k (by omega) (by omega) hne q hq
end
/-! What a trie holds of a list. -/
def byNet (l : List Ifc) (r a n : Int) : Option Ifc := l.find? fun x => decide (x.r = r ∧ x.a = a ∧ x.n = n)
def TrieIs (L : List TE) (l : List Ifc) (r : Int) : Prop := ∀ a n, (atT L a n).map TE.v = (byNet l r a n).map fun x => ifV x
theorem TrieIs.nil (r : Int) : TrieIs [] [] r := fun _ _ => rfl
theorem TrieIs.val {L : List TE} {l : List Ifc} {r : Int} (h : TrieIs L l r) (hL : TL L) : ∀ e ∈ L, ∃ v : Ifc, e.v = ifV v := fun e he => by
  have := h e.a e.n
  rw [hL.at he] at this
  obtain ⟨x, _, hx⟩ := Option.map_eq_some_iff.1 this.symm
  exact ⟨x, hx.symm⟩
theorem byNet_snoc {l : List Ifc} {x : Ifc} (h : byNet l x.r x.a x.n = none) (r a n : Int) : byNet (l ++ [x]) r a n = if x.r = r ∧ x.a = a ∧ x.n = n then some x else byNet l r a n := by
  unfold byNet at *
  rw [List.find?_append]
  by_cases e : x.r = r ∧ x.a = a ∧ x.n = n
  · obtain ⟨rfl, rfl, rfl⟩ := e
    rw [h, if_pos ⟨rfl, rfl, rfl⟩]
    simp
  · rw [if_neg e]
    simp [e]
theorem TrieIs.other {L : List TE} {l : List Ifc} {r : Int} (h : TrieIs L l r) {x : Ifc} (hx : byNet l x.r x.a x.n = none) (hr : x.r ≠ r) : TrieIs L (l ++ [x]) r := fun a n => by
  rw [byNet_snoc hx, if_neg (fun e => hr e.1)]
  exact h a n
theorem TrieIs.put {L : List TE} {l : List Ifc} {x : Ifc} (h : TrieIs L l x.r) (hL : TL L) (hx : byNet l x.r x.a x.n = none) {g : Nat} (hok : TE.Ok ⟨x.a, x.n, ifV x, g⟩) : TrieIs (insT L ⟨x.a, x.n, ifV x, g⟩) (l ++ [x]) x.r := fun a n => by
  rw [byNet_snoc hx]
  by_cases e : x.a = a ∧ x.n = n
  · obtain ⟨rfl, rfl⟩ := e
    rw [if_pos ⟨rfl, rfl, rfl⟩, show atT (insT L ⟨x.a, x.n, ifV x, g⟩) x.a x.n = some ⟨x.a, x.n, ifV x, g⟩ from at_ins_same hL hok]
    rfl
  · rw [if_neg (fun e' => e e'.2), at_ins_other hL hok e]
    exact h a n
end Go.Proofs.Ytlkpalaakncicaa
