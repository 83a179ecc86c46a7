/- meter: its sources in memory. -/
import Derived.Test.YtgididkpgncdjaaZ1
namespace Go.Proofs.Ytgididkpgncdjaa
open Go.RowKit Go.Maps
set_option linter.unusedVariables false
set_option linter.unusedSimpArgs false
set_option maxRecDepth 100000

theorem flatN_len {g : Nat → List Value} {sz : Nat} (hg : ∀ i, (g i).length = sz) (n : Nat) : ((List.range n).flatMap g).length = n * sz := by
  induction n with
  | zero => simp
  | succ n ih => rw [List.range_succ, List.flatMap_append, List.length_append, ih, Nat.succ_mul]; simp [hg]
theorem flatN_get {g : Nat → List Value} {sz : Nat} (hg : ∀ i, (g i).length = sz) : ∀ (n i j : Nat), i < n → j < sz → ((List.range n).flatMap g)[i * sz + j]? = (g i)[j]?
  | 0, i, j, h, _ => absurd h (Nat.not_lt_zero _)
  | n + 1, i, j, h, hj => by
    rw [List.range_succ, List.flatMap_append]
    by_cases e : i < n
    · have hle : (i + 1) * sz ≤ n * sz := Nat.mul_le_mul_right sz e
      rw [Nat.add_mul, Nat.one_mul] at hle
      rw [List.getElem?_append_left (by rw [flatN_len hg]; omega)]
      exact flatN_get hg n i j e hj
    · obtain rfl : i = n := by omega
      rw [List.getElem?_append_right (by rw [flatN_len hg]; omega), flatN_len hg, show i * sz + j - i * sz = j by omega]
      simp

/-- A source in numbers: its last report's number, when it was, whether there was one; its counts, its rates. -/
structure Mv where
  intro ::
  q : Int
  a : Int
  h : Bool
  L : List Ct
  R : List Ct
def Mv.zero : Mv := ⟨0, 0, false, [], []⟩
abbrev Mp := Option Nat × Option Nat
def msC (v : Mv) (p : Mp) : List Value := [.int .i64 v.q, .int .i64 v.a, .bool v.h, .map p.1, .map p.2]
def srcC (V : Nat → Mv) (P : Nat → Mp) : List Value := (List.range 16).flatMap fun i => msC (V i) (P i)
theorem srcC_len (V : Nat → Mv) (P : Nat → Mp) : (srcC V P).length = 80 := flatN_len (sz := 5) (fun _ => rfl) 16
theorem srcC_get (V : Nat → Mv) (P : Nat → Mp) {i j : Nat} (hi : i < 16) (hj : j < 5) : (srcC V P)[i * 5 + j]? = (msC (V i) (P i))[j]? := flatN_get (sz := 5) (fun _ => rfl) 16 i j hi hj
def setV {α : Type} (V : Nat → α) (i : Nat) (x : α) : Nat → α := fun k => if k = i then x else V k
theorem setV_self {α : Type} (V : Nat → α) (i : Nat) (x : α) : setV V i x i = x := if_pos rfl
theorem setV_ne {α : Type} (V : Nat → α) {i k : Nat} (x : α) (h : k ≠ i) : setV V i x k = V k := if_neg h
theorem srcC_set (V : Nat → Mv) (P : Nat → Mp) (i : Nat) (hi : i < 16) (x : Mv) (p : Mp) :
    (((((srcC V P).set (i * 5) (.int .i64 x.q)).set (i * 5 + 1) (.int .i64 x.a)).set (i * 5 + 2) (.bool x.h)).set (i * 5 + 3) (.map p.1)).set (i * 5 + 4) (.map p.2) = srcC (setV V i x) (setV P i p) := by
  apply List.ext_getElem?
  intro k
  have hl := srcC_len V P
  have hl2 := srcC_len (setV V i x) (setV P i p)
  by_cases hk : k < 80
  · have hq : k / 5 < 16 := by omega
    have hr : k % 5 < 5 := by omega
    have e : k = k / 5 * 5 + k % 5 := by omega
    have g1 := srcC_get V P hq hr
    have g2 := srcC_get (setV V i x) (setV P i p) hq hr
    rw [← e] at g1 g2
    rw [g2]
    by_cases ei : k / 5 = i
    · rw [ei, setV_self, setV_self]
      have h5 : k % 5 = 0 ∨ k % 5 = 1 ∨ k % 5 = 2 ∨ k % 5 = 3 ∨ k % 5 = 4 := by omega
      rcases h5 with h | h | h | h | h <;> rw [h]
      · rw [List.getElem?_set_ne (by omega), List.getElem?_set_ne (by omega), List.getElem?_set_ne (by omega), List.getElem?_set_ne (by omega), show i * 5 = k by omega, List.getElem?_set_self (by omega)]; rfl
      · rw [List.getElem?_set_ne (by omega), List.getElem?_set_ne (by omega), List.getElem?_set_ne (by omega), show i * 5 + 1 = k by omega, List.getElem?_set_self (by simp; omega)]; rfl
      · rw [List.getElem?_set_ne (by omega), List.getElem?_set_ne (by omega), show i * 5 + 2 = k by omega, List.getElem?_set_self (by simp; omega)]; rfl
      · rw [List.getElem?_set_ne (by omega), show i * 5 + 3 = k by omega, List.getElem?_set_self (by simp; omega)]; rfl
      · rw [show i * 5 + 4 = k by omega, List.getElem?_set_self (by simp; omega)]; rfl
    · rw [setV_ne _ _ ei, setV_ne _ _ ei, List.getElem?_set_ne (by omega), List.getElem?_set_ne (by omega), List.getElem?_set_ne (by omega), List.getElem?_set_ne (by omega), List.getElem?_set_ne (by omega), g1]
  · rw [List.getElem?_eq_none (by simp; omega), List.getElem?_eq_none (by omega)]

theorem snocInd {α : Type} {M : List α → Prop} (h0 : M []) (h1 : ∀ l x, M l → M (l ++ [x])) : ∀ l, M l := fun l => by
  rw [← List.reverse_reverse l]
  generalize l.reverse = m
  induction m with
  | nil => exact h0
  | cons x t ih => rw [List.reverse_cons]; exact h1 _ _ ih
/-- What a map is that such a list was put into. -/
def fillT (L : List Ct) : Pf → Option Int := L.foldl (fun f x => putF f x.p x.c) (fun _ => none)
theorem fillT_snoc (L : List Ct) (x : Ct) : fillT (L ++ [x]) = putF (fillT L) x.p x.c := by unfold fillT; rw [List.foldl_append]; rfl
theorem fillT_in {L : List Ct} {p : Pf} {v : Int} (h : fillT L p = some v) : ⟨p, v⟩ ∈ L := by
  induction L using snocInd with
  | h0 => cases h
  | h1 L x ih =>
    rw [fillT_snoc] at h
    unfold putF at h
    split at h
    · rename_i e
      cases h
      subst e
      simp
    · exact List.mem_append_left _ (ih h)
theorem fillT_has (L : List Ct) (p : Pf) : (fillT L p).isSome = L.any (fun x => x.p == p) := by
  induction L using snocInd with
  | h0 => rfl
  | h1 L x ih =>
    rw [fillT_snoc, List.any_append]
    unfold putF
    by_cases e : p = x.p
    · rw [if_pos e]; simp [e]
    · rw [if_neg e, ih]
      have : (x.p == p) = false := by simpa using fun h => e h.symm
      simp [this]
/-- Unlike prefixes. -/
def Uniq (L : List Ct) : Prop := (L.map (·.p)).Nodup
theorem fillT_mem {L : List Ct} (hu : Uniq L) {x : Ct} (h : x ∈ L) : fillT L x.p = some x.c := by
  induction L using snocInd with
  | h0 => cases h
  | h1 L y ih =>
    unfold Uniq at hu ih
    rw [List.map_append, List.nodup_append] at hu
    obtain ⟨h1, _, h3⟩ := hu
    rw [fillT_snoc]
    unfold putF
    rcases List.mem_append.1 h with h | h
    · rw [if_neg (fun e => h3 x.p (List.mem_map_of_mem h) y.p (by simp) e)]
      exact ih h1 h
    · obtain rfl : x = y := by simpa using h
      rw [if_pos rfl]

/-- A map that may be nil, of at most 1024 entries. -/
def MapO (w : World) (B : Nat) (m : Option Nat) (f : Pf → Option Int) : Prop := (m = none ∧ ∀ p, f p = none) ∨ ∃ b nn s, m = some b ∧ B ≤ b ∧ nn ≤ 1024 ∧ s ≤ 1024 ∧ MapP w b nn s f
theorem MapO.kept {w w' : World} {B : Nat} {m : Option Nat} {f : Pf → Option Int} (h : MapO w B m f) (hk : ∀ b, b < w.heap.size → (∃ es c, w.heap[b]? = some (.map es c)) → w'.heap[b]? = w.heap[b]?) : MapO w' B m f := by
  rcases h with h | ⟨b, nn, s, h1, h2, h3, h4, h5⟩
  · exact .inl h
  · exact .inr ⟨b, nn, s, h1, h2, h3, h4, h5.of_same (hk b h5.lt h5.heap)⟩
theorem MapO.below {w w' : World} {B : Nat} {m : Option Nat} {f : Pf → Option Int} (h : MapO w B m f) (hb : Below w.heap.size w w') : MapO w' B m f := h.kept fun b hlt _ => hb.block b hlt
theorem MapO.mono {w : World} {B B' : Nat} {m : Option Nat} {f : Pf → Option Int} (h : MapO w B m f) (hB : B' ≤ B) : MapO w B' m f := by
  rcases h with h | ⟨b, nn, s, h1, h2, h3, h4, h5⟩
  · exact .inl h
  · exact .inr ⟨b, nn, s, h1, Nat.le_trans hB h2, h3, h4, h5⟩

abbrev MEf : TypeId := 65
abbrev SRf : TypeId := 63
/-- What may stand there. -/
structure OkMv (v : Mv) : Prop where
  intro ::
  len : v.L.length ≤ 1024
  lenR : v.R.length ≤ 1024
  inL : ∀ x ∈ v.L, InCt x ∧ 0 ≤ x.c ∧ x.c ≤ 9007199254740991
  inR : ∀ x ∈ v.R, InCt x ∧ 1 ≤ x.c ∧ x.c ≤ 9007199254740991
  uL : Uniq v.L
  uR : Uniq v.R
  a0 : 0 ≤ v.a
  a1 : v.a ≤ 9007199254740991
  q0 : 0 ≤ v.q
  no : v.h = false → v = Mv.zero
/-- A Meter. -/
structure MtAt (w : World) (B m b : Nat) (V : Nat → Mv) (P : Nat → Mp) : Prop where
  intro ::
  top : Blk w m MEf [.pointer (some ⟨b, 0, none⟩)]
  blk : Blk w b SRf (srcC V P)
  cm : ∀ i, i < 16 → MapO w B (P i).1 (fillT (V i).L)
  rm : ∀ i, i < 16 → MapO w B (P i).2 (fillT (V i).R)
  ok : ∀ i, i < 16 → OkMv (V i)
  bm : B ≤ m
  bb : B ≤ b
  ne : m ≠ b
section
variable {w w' : World} {B m b : Nat} {V : Nat → Mv} {P : Nat → Mp}
theorem MtAt.below (H : MtAt w B m b V P) (hb : Below w.heap.size w w') : MtAt w' B m b V P :=
  ⟨H.top.next hb, H.blk.next hb, fun i hi => (H.cm i hi).below hb, fun i hi => (H.rm i hi).below hb, H.ok, H.bm, H.bb, H.ne⟩
theorem MtAt.at0 (H : MtAt w B m b V P) : w.cell? ⟨m, 0, none⟩ = some (.pointer (some ⟨b, 0, none⟩)) := H.top.cellAt rfl
theorem MtAt.src (H : MtAt w B m b V P) {i : Nat} (hi : i < 16) : w.cell? ⟨b, i * 5, none⟩ = some (.int .i64 (V i).q) ∧ w.cell? ⟨b, i * 5 + 1, none⟩ = some (.int .i64 (V i).a) ∧ w.cell? ⟨b, i * 5 + 2, none⟩ = some (.bool (V i).h) ∧ w.cell? ⟨b, i * 5 + 3, none⟩ = some (.map (P i).1) ∧ w.cell? ⟨b, i * 5 + 4, none⟩ = some (.map (P i).2) :=
  ⟨H.blk.cellAt (srcC_get V P hi (j := 0) (by omega)), H.blk.cellAt (srcC_get V P hi (j := 1) (by omega)), H.blk.cellAt (srcC_get V P hi (j := 2) (by omega)), H.blk.cellAt (srcC_get V P hi (j := 3) (by omega)), H.blk.cellAt (srcC_get V P hi (j := 4) (by omega))⟩
theorem MtAt.lt (H : MtAt w B m b V P) : m < w.heap.size ∧ b < w.heap.size := ⟨H.top.lt, H.blk.lt⟩
/-- A source reports. -/
theorem MtAt.heard (H : MtAt w B m b V P) {i : Nat} (hi : i < 16) (x : Mv) (p : Mp) (hx : OkMv x) (hc : MapO w B p.1 (fillT x.L)) (hr : MapO w B p.2 (fillT x.R)) :
    MtAt (((((w.setCell ⟨b, i * 5, none⟩ (.int .i64 x.q)).setCell ⟨b, i * 5 + 1, none⟩ (.int .i64 x.a)).setCell ⟨b, i * 5 + 2, none⟩ (.bool x.h)).setCell ⟨b, i * 5 + 3, none⟩ (.map p.1)).setCell ⟨b, i * 5 + 4, none⟩ (.map p.2)) B m b (setV V i x) (setV P i p) := by
  have hs := ((((H.blk.set (i * 5) (.int .i64 x.q)).set (i * 5 + 1) (.int .i64 x.a)).set (i * 5 + 2) (.bool x.h)).set (i * 5 + 3) (.map p.1)).set (i * 5 + 4) (.map p.2)
  rw [srcC_set V P i hi x p] at hs
  have hk : ∀ k, k ≠ b → (((((w.setCell ⟨b, i * 5, none⟩ (.int .i64 x.q)).setCell ⟨b, i * 5 + 1, none⟩ (.int .i64 x.a)).setCell ⟨b, i * 5 + 2, none⟩ (.bool x.h)).setCell ⟨b, i * 5 + 3, none⟩ (.map p.1)).setCell ⟨b, i * 5 + 4, none⟩ (.map p.2)).heap[k]? = w.heap[k]? := fun k hk => by
    rw [Below.heap_setCell _ _ _ k hk, Below.heap_setCell _ _ _ k hk, Below.heap_setCell _ _ _ k hk, Below.heap_setCell _ _ _ k hk, Below.heap_setCell _ _ _ k hk]
  have hm : ∀ k, k < w.heap.size → (∃ es c, w.heap[k]? = some (.map es c)) → (((((w.setCell ⟨b, i * 5, none⟩ (.int .i64 x.q)).setCell ⟨b, i * 5 + 1, none⟩ (.int .i64 x.a)).setCell ⟨b, i * 5 + 2, none⟩ (.bool x.h)).setCell ⟨b, i * 5 + 3, none⟩ (.map p.1)).setCell ⟨b, i * 5 + 4, none⟩ (.map p.2)).heap[k]? = w.heap[k]? := fun k _ ⟨es, c, hh⟩ => hk k (fun e => H.blk.notMap (e ▸ hh) rfl)
  refine ⟨H.top.of_same (hk m H.ne), hs, fun j hj => ?_, fun j hj => ?_, fun j hj => ?_, H.bm, H.bb, H.ne⟩
  · by_cases e : j = i
    · subst e; rw [setV_self, setV_self]; exact hc.kept hm
    · rw [setV_ne _ _ e, setV_ne _ _ e]; exact (H.cm j hj).kept hm
  · by_cases e : j = i
    · subst e; rw [setV_self, setV_self]; exact hr.kept hm
    · rw [setV_ne _ _ e, setV_ne _ _ e]; exact (H.rm j hj).kept hm
  · by_cases e : j = i
    · subst e; rw [setV_self]; exact hx
    · rw [setV_ne _ _ e]; exact H.ok j hj
end
end Go.Proofs.Ytgididkpgncdjaa
