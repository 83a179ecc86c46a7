/- hop: All. -/
import Derived.Test.YtlkpalaakncicaaWE
import Derived.Test.YtlkpalaakncicaaShelf
namespace Go.Proofs.Ytlkpalaakncicaa
open Go.RowKit Go.Maps Go.Sort Go.Shelf
set_option linter.unusedVariables false
set_option linter.unusedSimpArgs false

def cmpF (x y : Ifc) : Int := cmpI x.id y.id
theorem ltOf_cmpF (x y : Ifc) : ltOf cmpF x y = true ↔ x.id < y.id := by
  unfold ltOf cmpF cmpI
  rw [decide_eq_true_iff]
  by_cases h : x.id < y.id
  · rw [if_pos h]; simp [h]
  · rw [if_neg h]; split <;> simp [h]
theorem ltOf_notF (x y : Ifc) : ltOf cmpF x y = false ↔ ¬ x.id < y.id := by rw [← ltOf_cmpF]; simp
theorem cmpF_swo : SWO (ltOf cmpF) where
  irrefl x := (ltOf_notF x x).2 (by omega)
  trans x y z h k := (ltOf_cmpF x z).2 (by have := (ltOf_cmpF x y).1 h; have := (ltOf_cmpF y z).1 k; omega)
  ntrans x y z h k := by
    rw [ltOf_notF] at *
    omega
instance : Inhabited Ifc := ⟨Ifc.zero⟩
theorem if_isAgg (w : World) : (isAgg 34).run Try.prog w = .ok true w := by kernel_rfl
theorem if_sizeOf (w : World) : (Go.sizeOf 34).run Try.prog w = .ok 5 w := by kernel_rfl
theorem if_cmpLays (blk off size : Nat) (w : World) : CmpLays Try.prog 43 #[] ifC 5 cmpF blk off size w :=
  fun m os dk _ x y => allcmp_gr x.id x.r x.a x.n x.c y.id y.r y.a y.n y.c (sortWorldK ifC 5 w blk off m dk os)
theorem sort_noneF (p : Option Addr) (cap : Nat) (fv : Value) (w : World) :
    Calls Try.prog 61 #[.slice p 0 cap, fv] w fun e w' => e = .returned (.tuple #[]) ∧ w' = w :=
  AnyF.slices_SortFunc_none Try.sortK p cap fv w
theorem arr_getF (ss : List Ifc) (i : Nat) (h : i < ss.length) : ss.toArray[i]! = ss.getD i Ifc.zero := by
  simp [List.getD, h]
theorem row_holdsF {w : World} {B g k cap : Nat} {ss : List Ifc} (h : w.ownsRow B 34 5 (.slice (some ⟨g, 0, none⟩) k cap) k (icells ss)) : HoldsK ifC 5 w g 0 ss.toArray ∧ g < w.heap.size ∧ B ≤ g := by
  have hlt := h.lt g rfl
  refine ⟨fun t ht => ?_, hlt.2, hlt.1⟩
  have ht' : t < ss.length * 5 := by simpa using ht
  have hi : t / 5 < ss.length := by omega
  have e := get_flatK ifC 5 ss.toArray t (by simpa using ht')
  rw [arr_getF ss _ hi] at e
  constructor
  · rw [e]
    obtain ⟨e0, e1, e2, e3, e4⟩ := icells_get ss (t / 5) hi
    have hc : t % 5 = 0 ∨ t % 5 = 1 ∨ t % 5 = 2 ∨ t % 5 = 3 ∨ t % 5 = 4 := by omega
    rcases hc with hc | hc | hc | hc | hc
    · have := h.cells (g := g) rfl (t / 5 * 5) _ e0
      rw [add_litN, show 0 + t / 5 * 5 = 0 + t by omega] at this
      rw [this, hc]; rfl
    · have := h.cells (g := g) rfl (t / 5 * 5 + 1) _ e1
      rw [add_litN, show 0 + (t / 5 * 5 + 1) = 0 + t by omega] at this
      rw [this, hc]; rfl
    · have := h.cells (g := g) rfl (t / 5 * 5 + 2) _ e2
      rw [add_litN, show 0 + (t / 5 * 5 + 2) = 0 + t by omega] at this
      rw [this, hc]; rfl
    · have := h.cells (g := g) rfl (t / 5 * 5 + 3) _ e3
      rw [add_litN, show 0 + (t / 5 * 5 + 3) = 0 + t by omega] at this
      rw [this, hc]; rfl
    · have := h.cells (g := g) rfl (t / 5 * 5 + 4) _ e4
      rw [add_litN, show 0 + (t / 5 * 5 + 4) = 0 + t by omega] at this
      rw [this, hc]; rfl
  · rcases h.2 with ⟨hv, _⟩ | ⟨g', cap', cur, hv, _, hg, _⟩
    · cases hv
    · simp only [Value.slice.injEq, Option.some.injEq, Addr.mk.injEq] at hv
      obtain ⟨⟨rfl, _⟩, _⟩ := hv
      simp [World.frozen?, hg]
theorem holds_ifs {w : World} {g : Nat} {ss : List Ifc} (h : HoldsK ifC 5 w g 0 ss.toArray) (hok : ∀ x ∈ ss, InIf x) : IfsAt w (some ⟨g, 0, none⟩) ss := by
  refine ⟨hok, .inr ⟨g, 0, rfl, fun i hi => ?_⟩⟩
  have hs : i < ss.toArray.size := by simpa using hi
  have h0 := (h.cell hs (show 0 < 5 by omega)).1
  have h1 := (h.cell hs (show 1 < 5 by omega)).1
  have h2 := (h.cell hs (show 2 < 5 by omega)).1
  have h3 := (h.cell hs (show 3 < 5 by omega)).1
  have h4 := (h.cell hs (show 4 < 5 by omega)).1
  rw [arr_getF ss i hi] at h0 h1 h2 h3 h4
  exact ⟨h0, h1, h2, h3, h4⟩
theorem sortWorld_belowF {w : World} {B g m : Nat} {d : Array Ifc} {os : Array Obj} (hB : B ≤ w.heap.size) (hg : B ≤ g) : Below B w (sortWorldK ifC 5 w g 0 m d os) := by
  refine ⟨rfl, rfl, rfl, ?_, fun b hb => ?_⟩
  · unfold sortWorldK putRowK
    simp
  · unfold sortWorldK putRowK putRow mapBlock grow
    show ((Array.modify w.heap g _) ++ os)[b]? = w.heap[b]?
    rw [Array.getElem?_append_left (by simp; omega), Array.getElem?_modify, if_neg (by omega)]
/-- slices.SortFunc at such a list of one's own. -/
theorem sort_someF {w : World} {B g k cap : Nat} {ss : List Ifc} (h : w.ownsRow B 34 5 (.slice (some ⟨g, 0, none⟩) k cap) k (icells ss)) (hk : ss.length = k) (hB : B ≤ w.heap.size) (hok : ∀ x ∈ ss, InIf x) (h40 : k ≤ 1099511627776) :
    Calls Try.prog 61 #[.slice (some ⟨g, 0, none⟩) k cap, .func (.func 43) #[] #[]] w fun e w' =>
      e = .returned (.tuple #[]) ∧ ∃ ts : List Ifc, ss.Perm ts ∧ ts.Pairwise (fun x y => ¬ y.id < x.id) ∧ IfsAt w' (some ⟨g, 0, none⟩) ts ∧ Below B w w' := by
  obtain ⟨hH, hlt, hBg⟩ := row_holdsF h
  have eg : ∀ args w, (callFunc 43 args).run Try.prog w = .ok (.enter 43 args) w := enters_of Try.func43 (by kernel_rfl) rfl
  have hcon := AnyQ.slices_SortFunc Try.sortK 5 if_isAgg if_sizeOf ifC (fun _ => rfl) if_one cmpF cmpF_swo 43 #[] g 0 cap ss.toArray w eg (if_cmpLays g 0 _ w) hH hlt (by simp; omega)
  simp only [List.size_toArray, hk] at hcon
  refine Calls.mono hcon fun e w' ⟨he, d', n, os, hp, hs, hw⟩ => ⟨he, d'.toList, ?_, ?_, ?_, ?_⟩
  · obtain ⟨hsz, _, hperm⟩ := hp
    have e1 : d'.extract 0 k = d' := by
      have : d'.size = k := by rw [hsz]; simp [hk]
      rw [← this]; exact Array.extract_size
    have e2 : ss.toArray.extract 0 k = ss.toArray := by rw [show k = ss.toArray.size by simp [hk]]; exact Array.extract_size
    rw [e1, e2] at hperm
    exact hperm.symm
  · have hsz : d'.size = k := by rw [hp.1]; simp [hk]
    rw [List.pairwise_iff_getElem]
    intro i j hi hj hij
    have hj' : j < d'.size := by simpa using hj
    have hi' : i < d'.size := by omega
    have := hs i j (Nat.zero_le _) hij (by omega)
    rw [getElem!_pos d' i hi', getElem!_pos d' j hj', ltOf_notF] at this
    simpa using this
  · have hsz : d'.size = k := by rw [hp.1]; simp [hk]
    obtain ⟨hsz2, _, hperm⟩ := hp
    have e1 : d'.extract 0 k = d' := by rw [← hsz]; exact Array.extract_size
    have e2 : ss.toArray.extract 0 k = ss.toArray := by rw [show k = ss.toArray.size by simp [hk]]; exact Array.extract_size
    rw [e1, e2] at hperm
    refine holds_ifs ?_ fun x hx => hok x (hperm.mem_iff.1 hx)
    rw [hw]
    exact holdsK_grow ifC 5 _ _ _ _ _ (by unfold putRowK; simpa using hlt) (holdsK_putRowK ifC 5 _ g 0 ss.toArray _ (holdsK_ahead ifC 5 w n g 0 _ hH) (by simp [hsz, hk]))
  · rw [hw]
    exact sortWorld_belowF hB hBg
theorem nodup_leF : ∀ {ss ls : List Ifc}, ss.Nodup → (∀ x ∈ ss, x ∈ ls) → ss.length ≤ ls.length
  | [], _, _, _ => Nat.zero_le _
  | x :: s, ls, h, hm => by
    obtain ⟨a, b, rfl⟩ := List.append_of_mem (hm x (by simp))
    obtain ⟨h1, h2⟩ := List.nodup_cons.1 h
    have := nodup_leF (ls := a ++ b) h2 fun y hy => by
      have hne : y ≠ x := fun e => h1 (e ▸ hy)
      have := hm y (by simp [hy])
      simp [hne] at this
      simpa using this
    simp at this ⊢
    omega
theorem once_perm {l ss : List Ifc} (hl : l.Nodup) (h : Once l ss) : l.Perm ss := (List.perm_ext_iff_of_nodup hl h.1).2 fun x => (h.2 x).symm
theorem strict_of {l ts : List Ifc} (hl : l.Nodup) (hA : Apart l) (hp : l.Perm ts) (hs : ts.Pairwise (fun x y => ¬ y.id < x.id)) : ts.Pairwise (fun x y => x.id < y.id) := by
  have hn : ts.Nodup := hp.nodup_iff.1 hl
  have h2 := hs.and hn
  refine h2.imp_of_mem fun {a b} ha hb ⟨h1, hne⟩ => ?_
  have a1 := hA a (hp.mem_iff.2 ha)
  have b1 := hA b (hp.mem_iff.2 hb)
  have : a.id ≠ b.id := fun e => hne (by rw [e, b1] at a1; exact (Option.some.inj a1).symm)
  omega
/-- slices.SortedFunc(maps.Values(m), ..). -/
theorem sorted_vals (Bm b nn : Nat) (D0 : DataW Unit) (ls : List Ifc) (hD : MapIs D0 ls) (hok : okIfs ls = true) (hin : ∀ x ∈ ls, InIf x) (w : World) (hBm : Bm < w.heap.size) (hn : nn ≤ 1099511627776) (hl : ls.length ≤ 1000)
    (hm : w.cell? ⟨Bm, 0, none⟩ = some (.map (some b))) (hown : w.ownsMap Try.prog 3 ifElem b nn D0) :
    Calls Try.prog 41 #[.func (.func 62) #[] #[.pointer (some ⟨Bm, 0, none⟩)], .func (.func 43) #[] #[]] w fun e w' => AllTo w w' ls e := by
  have HC := Lib.hid (collect_vals Bm b nn D0 ls hD (okIfs_apart hok) w hBm hn hm hown)
  have HIN := Lib.hid hin
  have HOK := Lib.hid hok
  have HL := Lib.hid hl
  clear hD hm hown hin hok hl
  go_enter Try.func41, Try.ntmps41
  go_wp2_with fail
  refine HC.out.mono ?_
  rintro e w1 ⟨v, ss, rfl, honce, hrow, hnil, hb⟩
  have hperm := once_perm (okIfs_nodup HOK.out) honce
  have hokS : ∀ x ∈ ss, InIf x := fun x hx => HIN.out x (hperm.mem_iff.2 hx)
  have hls : ss.length ≤ 1099511627776 := by rw [← hperm.length_eq]; have := HL.out; omega
  have HB := Lib.hid hb
  have HP := Lib.hid hperm
  rcases hrow.2 with ⟨rfl, h0⟩ | ⟨g, cap, cur, rfl, hBg, _⟩
  · have hss : ss = [] := List.eq_nil_of_length_eq_zero h0
    have HN := Lib.hid (sort_noneF none 0 (.func (.func 43) #[] #[]) w1)
    have HSS := Lib.hid hss
    clear hrow hnil hb honce HC hperm hss
    go_wp2_with (go_at_call 61; refine HN.out.mono ?_; rintro e w2 ⟨rfl, rfl⟩)
    go_ret
    exact ⟨none, 0, 0, [], rfl, rfl, HSS.out ▸ HP.out, List.Pairwise.nil, IfsAt.nil _ _, HB.out⟩
  · have HS := Lib.hid (sort_someF (B := w.heap.size) hrow rfl hb.size hokS hls)
    clear hrow hnil hb honce HC hperm
    obtain ⟨k, hk⟩ : ∃ k, ss.length = k := ⟨_, rfl⟩
    have HK := Lib.hid hk
    rw [hk] at HS ⊢
    clear hk
    go_wp2_with (go_at_call 61; refine HS.out.mono ?_; rintro e w2 ⟨rfl, ts, hp2, hs2, hat, hb2⟩)
    go_ret
    exact ⟨_, k, cap, ts, rfl, by rw [← hp2.length_eq, HK.out], HP.out.trans hp2, strict_of (okIfs_nodup HOK.out) (okIfs_apart HOK.out) (HP.out.trans hp2) (hs2.imp fun h => by omega), hat, HB.out.trans hb2⟩
theorem all_ok : AllOk := fun w B h b F l H hok hin hl => by
  obtain ⟨D, ho, hD, _⟩ := H.map
  have hm := H.hb.map
  have hms : (w.alloc (.cells #[.map (some b)] 74)).cell? ⟨w.heap.size, 0, none⟩ = some (.map (some b)) := (Blk.new w 74 [.map (some b)]).cell 0 (by simp)
  have HS := Lib.hid (sorted_vals w.heap.size b l.length D l hD hok hin (w.alloc (.cells #[.map (some b)] 74)) (by rw [sz_alloc]; omega) (by omega) hl hms (ho.alloc _))
  have HB := Lib.hid (newB w (.cells #[.map (some b)] 74))
  clear H ho hD hok hin hms
  go_enter Try.func16, Try.ntmps16
  go_wp2_with (first
    | (go_at_call 40; refine (ifaces_any _ _ _ hm).mono ?_; rintro e w' ⟨rfl, rfl⟩)
    | (go_at_call 42; refine (ifVals_any _ _).mono ?_; rintro e w' ⟨rfl, rfl⟩)
    | (go_at_call 41; refine HS.out.mono ?_; rintro e w2 ⟨q, k, cap, ss, rfl, h1, h2, h3, h4, h5⟩))
  go_ret
  exact ⟨q, k, cap, ss, rfl, h1, h2, h3, h4, HB.out.trans (h5.mono HB.out.size)⟩
theorem all_nil (w : World) : Calls Try.prog 16 #[.pointer none] w fun e w' => e = .returned (.slice none 0 0) ∧ Below w.heap.size w w' := by
  have hms : (w.alloc (.cells #[.map none] 74)).cell? ⟨w.heap.size, 0, none⟩ = some (.map none) := (Blk.new w 74 [.map none]).cell 0 (by simp)
  have HC := Lib.hid (collect_nil w.heap.size (w.alloc (.cells #[.map none] 74)) (by rw [sz_alloc]; omega) hms)
  have HS : Hid (Calls Try.prog 41 #[.func (.func 62) #[] #[.pointer (some ⟨w.heap.size, 0, none⟩)], .func (.func 43) #[] #[]] (w.alloc (.cells #[.map none] 74)) fun e w' => e = .returned (.slice none 0 0) ∧ Below (w.alloc (.cells #[.map none] 74)).heap.size (w.alloc (.cells #[.map none] 74)) w') := Lib.hid (by
    obtain ⟨V, hV⟩ : ∃ V, w.alloc (.cells #[.map none] 74) = V := ⟨_, rfl⟩
    rw [hV] at HC ⊢
    clear hV hms
    go_enter Try.func41, Try.ntmps41
    go_wp2_with fail
    refine HC.out.mono ?_
    rintro e w1 ⟨rfl, hb⟩
    have HB := Lib.hid hb
    have HN := Lib.hid (sort_noneF none 0 (.func (.func 43) #[] #[]) w1)
    clear hb HC
    go_wp2_with (go_at_call 61; refine HN.out.mono ?_; rintro e w2 ⟨rfl, rfl⟩)
    go_ret
    exact ⟨rfl, HB.out⟩)
  have HB := Lib.hid (newB w (.cells #[.map none] 74))
  clear hms HC
  go_enter Try.func16, Try.ntmps16
  go_wp2_with (first
    | (go_at_call 40; refine (ifaces_nil _).mono ?_; rintro e w' ⟨rfl, rfl⟩)
    | (go_at_call 42; refine (ifVals_any _ _).mono ?_; rintro e w' ⟨rfl, rfl⟩)
    | (go_at_call 41; refine HS.out.mono ?_; rintro e w2 ⟨rfl, h5⟩))
  go_ret
  exact ⟨rfl, HB.out.trans (h5.mono HB.out.size)⟩
theorem lives_any (w : World) : Calls Try.prog 7 #[] w fun e w' => e = .returned (.bool true) ∧ Below w.heap.size w w' := livesH_if all_ok w
end Go.Proofs.Ytlkpalaakncicaa
