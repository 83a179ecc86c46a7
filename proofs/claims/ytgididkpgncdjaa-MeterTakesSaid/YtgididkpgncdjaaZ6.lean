/- nlri.Sort: those of a list, each once, in order. -/
import Derived.Test.YtgididkpgncdjaaZ5
import Derived.Test.YtgididkpgncdjaaShelf
namespace Go.Proofs.Ytgididkpgncdjaa
open Go.RowKit Go.Maps Go.Sort Go.Shelf

/-- The order, without branches. -/
def cmpPf (x y : Pf) : Int := cmpP x.a x.n y.a y.n
def ltN (x y : Pf) : Prop := x.a < y.a ∨ x.a = y.a ∧ x.n < y.n
theorem cmpN_lt (x y : Pf) : cmpPf x y < 0 ↔ ltN x y := by
  obtain ⟨a, n⟩ := x
  obtain ⟨b, m⟩ := y
  unfold cmpPf cmpP ltN
  simp only
  by_cases h1 : a = b ∧ n = m
  · rw [if_pos h1]; omega
  · rw [if_neg h1]
    by_cases h2 : a < b ∨ a = b ∧ n < m
    · rw [if_pos h2]; omega
    · rw [if_neg h2]; omega
theorem ltN_irrefl (x : Pf) : ¬ ltN x x := by unfold ltN; omega
theorem ltN_trans {x y z : Pf} (h : ltN x y) (k : ltN y z) : ltN x z := by unfold ltN at *; omega
theorem ltN_total (x y : Pf) : ltN x y ∨ x = y ∨ ltN y x := by
  obtain ⟨a, n⟩ := x
  obtain ⟨b, m⟩ := y
  unfold ltN
  simp only [Pf.mk.injEq]
  omega
theorem ltOf_cmpN (x y : Pf) : ltOf cmpPf x y = true ↔ ltN x y := by unfold ltOf; rw [decide_eq_true_iff]; exact cmpN_lt x y
theorem ltOf_not (x y : Pf) : ltOf cmpPf x y = false ↔ ¬ ltN x y := by rw [← ltOf_cmpN]; simp
theorem cmpN_swo : SWO (ltOf cmpPf) where
  irrefl x := (ltOf_not x x).2 (ltN_irrefl x)
  trans x y z h k := (ltOf_cmpN x z).2 (ltN_trans ((ltOf_cmpN x y).1 h) ((ltOf_cmpN y z).1 k))
  ntrans x y z h k := by
    rw [ltOf_not] at *
    intro hz
    rcases ltN_total x y with e | e | e
    · exact h e
    · subst e; exact k hz
    · exact k (ltN_trans e hz)
theorem cmpN_parts (x y : Pf) (h : ltOf cmpPf x y = false) (k : ltOf cmpPf y x = false) : x = y := by
  rw [ltOf_not] at *
  rcases ltN_total x y with e | e | e
  · exact absurd e h
  · exact e
  · exact absurd e k

/-- In order, each once. -/
def Srt (ss : List Pf) : Prop := ss.Pairwise ltN
/-- There is one such list. -/
theorem Srt.unique : ∀ {ss ts : List Pf}, Srt ss → Srt ts → (∀ x, x ∈ ss ↔ x ∈ ts) → ss = ts
  | [], [], _, _, _ => rfl
  | [], y :: t, _, _, h => by have := (h y).2 (by simp); simp at this
  | x :: s, [], _, _, h => by have := (h x).1 (by simp); simp at this
  | x :: s, y :: t, h1, h2, h => by
    obtain ⟨a1, a2⟩ := List.pairwise_cons.1 h1
    obtain ⟨b1, b2⟩ := List.pairwise_cons.1 h2
    have hxy : x = y := by
      rcases List.mem_cons.1 ((h x).1 (by simp)) with e | hx
      · exact e
      · rcases List.mem_cons.1 ((h y).2 (by simp)) with e | hy
        · exact e.symm
        · exact absurd (ltN_trans (a1 y hy) (b1 x hx)) (ltN_irrefl _)
    subst hxy
    rw [Srt.unique a2 b2 fun z => ?_]
    constructor
    · intro hz
      rcases List.mem_cons.1 ((h z).1 (by simp [hz])) with e | h'
      · subst e; exact absurd (a1 z hz) (ltN_irrefl _)
      · exact h'
    · intro hz
      rcases List.mem_cons.1 ((h z).2 (by simp [hz])) with e | h'
      · subst e; exact absurd (b1 z hz) (ltN_irrefl _)
      · exact h'
theorem merged_srt {ss : List Pf} (h : ss.Nodup) : Srt (ss.mergeSort fun x y => !(ltOf cmpPf) y x) := by
  have hp := List.mergeSort_perm ss fun x y => !(ltOf cmpPf) y x
  have hn : (ss.mergeSort fun x y => !(ltOf cmpPf) y x).Nodup := hp.nodup_iff.2 h
  have hs := List.pairwise_mergeSort (le := fun x y => !(ltOf cmpPf) y x) (fun a b c h1 h2 => by
    simp only [Bool.not_eq_true', ltOf_not] at *
    intro hc
    rcases ltN_total b c with e | e | e
    · exact h1 (ltN_trans e hc)
    · subst e; exact h1 hc
    · exact h2 e) (fun a b => by
    simp only [Bool.or_eq_true, Bool.not_eq_true', ltOf_not]
    rcases ltN_total a b with e | e | e
    · left; intro hb; exact ltN_irrefl _ (ltN_trans e hb)
    · subst e; left; exact ltN_irrefl _
    · right; intro hb; exact ltN_irrefl _ (ltN_trans e hb)) ss
  refine (hs.and hn).imp fun {a b} ⟨hl, hne⟩ => ?_
  simp only [Bool.not_eq_true', ltOf_not] at hl
  rcases ltN_total a b with e | e | e
  · exact e
  · exact absurd e hne
  · exact absurd e hl

instance : Inhabited Pf := ⟨Pf.zero⟩
theorem pf_isAgg (w : World) : (isAgg 25).run Try.prog w = .ok true w := by kernel_rfl
theorem pf_sizeOf (w : World) : (Go.sizeOf 25).run Try.prog w = .ok 2 w := by kernel_rfl
theorem pf_cmpLays (blk off size : Nat) (w : World) : CmpLays Try.prog 41 #[] pfC 2 cmpPf blk off size w :=
  fun m os dk _ x y => compare_gr x.a x.n y.a y.n (sortWorldK pfC 2 w blk off m dk os)
theorem sort_none (p : Option Addr) (cap : Nat) (fv : Value) (w : World) :
    Calls Try.prog 52 #[.slice p 0 cap, fv] w fun e w' => e = .returned (.tuple #[]) ∧ w' = w :=
  AnyF.slices_SortFunc_none Try.sortK p cap fv w

theorem get!_of {α : Type} [Inhabited α] {l : List α} {i : Nat} {x : α} (h : l[i]? = some x) : l[i]! = x := by
  simp [List.getElem!_eq_getElem?_getD, h]
theorem arr_get (ss : List Pf) (i : Nat) (h : i < ss.length) : ss.toArray[i]! = ss.getD i Pf.zero := by
  simp [List.getD, h]
theorem row_holds {w : World} {B g k cap : Nat} {ss : List Pf} (h : w.ownsRow B 25 2 (.slice (some ⟨g, 0, none⟩) k cap) k (pcells ss)) : HoldsK pfC 2 w g 0 ss.toArray ∧ g < w.heap.size ∧ B ≤ g := by
  have hlt := h.lt g rfl
  refine ⟨fun t ht => ?_, hlt.2, hlt.1⟩
  have ht' : t < ss.length * 2 := by simpa using ht
  have hi : t / 2 < ss.length := by omega
  have e := get_flatK pfC 2 ss.toArray t (by simpa using ht')
  rw [arr_get ss _ hi] at e
  constructor
  · rw [e]
    have hm : t % 2 < 2 := by omega
    have hc := cellsL_get rowPf ss (t / 2) hi (t % 2) hm
    rw [show t / 2 * 2 + t % 2 = t by omega] at hc
    have hv : ∃ v, (pfC (ss.getD (t / 2) Pf.zero))[t % 2]? = some v := by
      have hc : t % 2 = 0 ∨ t % 2 = 1 := by omega
      rcases hc with hc | hc <;> rw [hc] <;> exact ⟨_, rfl⟩
    obtain ⟨v, hv⟩ := hv
    have := h.cells (g := g) rfl t v (hc.trans hv)
    rw [add_litL] at this
    rw [this]
    simp only [List.getElem!_eq_getElem?_getD, hv, Option.getD_some]
    rfl
  · rcases h.2 with ⟨hv, _⟩ | ⟨g', cap', cur, hv, _, hg, _⟩
    · cases hv
    · simp only [Value.slice.injEq, Option.some.injEq, Addr.mk.injEq] at hv
      obtain ⟨⟨rfl, _⟩, _⟩ := hv
      simp [World.frozen?, hg]
theorem holds_nls {w : World} {g : Nat} {ss : List Pf} (h : HoldsK pfC 2 w g 0 ss.toArray) (hok : ∀ x ∈ ss, InPf x) : PfsAt w (some ⟨g, 0, none⟩) ss := by
  refine ⟨hok, .inr ⟨g, 0, rfl, fun i hi j v hv => ?_⟩⟩
  have hs : i < ss.toArray.size := by simpa using hi
  have hj : j < 2 := (List.getElem?_eq_some_iff.1 hv).1
  have h0 := (h.cell hs hj).1
  rw [arr_get ss i hi] at h0
  rw [h0]
  simp only [List.getElem!_eq_getElem?_getD, hv, Option.getD_some]
theorem sortWorld_below {w : World} {B g m : Nat} {d : Array Pf} {os : Array Obj} (hB : B ≤ w.heap.size) (hg : B ≤ g) : Below B w (sortWorldK pfC 2 w g 0 m d os) := by
  refine ⟨rfl, rfl, rfl, ?_, fun b hb => ?_⟩
  · unfold sortWorldK putRowK
    simp
  · unfold sortWorldK putRowK putRow mapBlock grow
    show ((Array.modify w.heap g _) ++ os)[b]? = w.heap[b]?
    rw [Array.getElem?_append_left (by simp; omega), Array.getElem?_modify, if_neg (by omega)]
/-- slices.SortFunc at such a list of one's own. -/
theorem sort_some {w : World} {B g k cap : Nat} {ss : List Pf} (h : w.ownsRow B 25 2 (.slice (some ⟨g, 0, none⟩) k cap) k (pcells ss)) (hk : ss.length = k) (hB : B ≤ w.heap.size) (hok : ∀ x ∈ ss, InPf x) (h40 : k ≤ 1099511627776) :
    Calls Try.prog 52 #[.slice (some ⟨g, 0, none⟩) k cap, .func (.func 41) #[] #[]] w fun e w' =>
      e = .returned (.tuple #[]) ∧ PfsAt w' (some ⟨g, 0, none⟩) (ss.mergeSort fun x y => !(ltOf cmpPf) y x) ∧ Below B w w' := by
  obtain ⟨hH, hlt, hBg⟩ := row_holds h
  have eg : ∀ args w, (callFunc 41 args).run Try.prog w = .ok (.enter 41 args) w := enters_of Try.func41 (by kernel_rfl) rfl
  have hcon := AnyQ.slices_SortFunc_total Try.sortK 2 pf_isAgg pf_sizeOf pfC (fun _ => rfl) pf_one cmpPf cmpN_swo 41 #[] g 0 cap ss.toArray w eg (pf_cmpLays g 0 _ w) hH hlt (by simp; omega) cmpN_parts
  simp only [List.size_toArray, hk] at hcon
  refine Calls.mono hcon fun e w' ⟨he, n, os, hw⟩ => ⟨he, ?_, ?_⟩
  · have hp := List.mergeSort_perm ss fun x y => !(ltOf cmpPf) y x
    have hl : (ss.mergeSort fun x y => !(ltOf cmpPf) y x).length = ss.length := hp.length_eq
    refine holds_nls ?_ fun x hx => hok x (hp.mem_iff.1 hx)
    rw [hw]
    exact holdsK_grow pfC 2 _ _ _ _ _ (by unfold putRowK; simpa using hlt) (holdsK_putRowK pfC 2 _ g 0 ss.toArray _ (holdsK_ahead pfC 2 w n g 0 _ hH) (by simp [hl]))
  · rw [hw]
    exact sortWorld_below hB hBg
end Go.Proofs.Ytgididkpgncdjaa
