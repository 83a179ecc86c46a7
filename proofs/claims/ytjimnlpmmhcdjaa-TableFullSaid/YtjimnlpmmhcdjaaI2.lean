/- table: slices.SortFunc at detours. -/
import Derived.Test.YtjimnlpmmhcdjaaI3
import Derived.Test.YtjimnlpmmhcdjaaShelf
namespace Go.Proofs.Ytjimnlpmmhcdjaa
open Go.RowKit Go.Maps Go.Sort Go.Shelf
set_option linter.unusedVariables false
set_option linter.unusedSimpArgs false
set_option maxRecDepth 100000

def cmpDt (x y : Dt) : Int := cmpPf x.p y.p
theorem ltOf_cmpDt (x y : Dt) : ltOf cmpDt x y = true ↔ ltN x.p y.p := by unfold ltOf; rw [decide_eq_true_iff]; exact cmpN_lt x.p y.p
theorem ltOf_notD (x y : Dt) : ltOf cmpDt x y = false ↔ ¬ ltN x.p y.p := by rw [← ltOf_cmpDt]; simp
theorem cmpDt_swo : SWO (ltOf cmpDt) where
  irrefl x := (ltOf_notD x x).2 (ltN_irrefl _)
  trans x y z h k := (ltOf_cmpDt x z).2 (ltN_trans ((ltOf_cmpDt x y).1 h) ((ltOf_cmpDt y z).1 k))
  ntrans x y z h k := by
    rw [ltOf_notD] at *
    intro hz
    rcases ltN_total x.p y.p with e | e | e
    · exact h e
    · rw [e] at hz; exact k hz
    · exact k (ltN_trans e hz)
instance : Inhabited Dt := ⟨Dt.zero⟩
set_option maxHeartbeats 4000000 in
theorem dcmp_gr (x y : Dt) (w : World) :
    Calls Try.prog 34 #[dtV x, dtV y] w fun e w' => e = .returned (.int .i64 (cmpDt x y)) ∧ Gr w w' := by
  obtain ⟨x0, ⟨x1, x2⟩, x3, x4⟩ := x
  obtain ⟨y0, ⟨y1, y2⟩, y3, y4⟩ := y
  have HG := Lib.hid (Gr.two w (.cells #[.int .i64 x0, .int .u32 x1, .int .i64 x2, .int .i64 x3, .int .i64 x4] 36) (.cells #[.int .i64 y0, .int .u32 y1, .int .i64 y2, .int .i64 y3, .int .i64 y4] 36))
  have hb := newB (w.alloc (.cells #[.int .i64 x0, .int .u32 x1, .int .i64 x2, .int .i64 x3, .int .i64 x4] 36)) (.cells #[.int .i64 y0, .int .u32 y1, .int .i64 y2, .int .i64 y3, .int .i64 y4] 36)
  have hX := (Blk.new w 36 [.int .i64 x0, .int .u32 x1, .int .i64 x2, .int .i64 x3, .int .i64 x4]).next hb
  have hY := Blk.new (w.alloc (.cells #[.int .i64 x0, .int .u32 x1, .int .i64 x2, .int .i64 x3, .int .i64 x4] 36)) 36 [.int .i64 y0, .int .u32 y1, .int .i64 y2, .int .i64 y3, .int .i64 y4]
  rw [sz_alloc] at hY
  obtain ⟨P, hP⟩ : ∃ P, w.heap.size = P := ⟨_, rfl⟩
  obtain ⟨V, hV⟩ : ∃ V, (w.alloc (.cells #[.int .i64 x0, .int .u32 x1, .int .i64 x2, .int .i64 x3, .int .i64 x4] 36)).alloc (.cells #[.int .i64 y0, .int .u32 y1, .int .i64 y2, .int .i64 y3, .int .i64 y4] 36) = V := ⟨_, rfl⟩
  have hX : Blk V P 36 [.int .i64 x0, .int .u32 x1, .int .i64 x2, .int .i64 x3, .int .i64 x4] := by rw [← hV, ← hP]; exact hX
  have hY : Blk V (P + 1) 36 [.int .i64 y0, .int .u32 y1, .int .i64 y2, .int .i64 y3, .int .i64 y4] := by rw [← hV, ← hP]; exact hY
  have HVE := Lib.hid hV
  have HPE := Lib.hid hP
  rw [hV] at HG
  obtain ⟨a0, a1, a2, a3, a4⟩ := dt_boxes hX
  obtain ⟨c0, c1, c2, c3, c4⟩ := dt_boxes hY
  clear hX hY hV hP hb
  go_enter Try.func34, Try.ntmps34
  go_wp2_with fail
  rw [HVE.out, HPE.out]
  go_wp2_with (go_at_call 35; refine (compare_gr x1 x2 y1 y2 _).mono ?_; rintro e w' ⟨rfl, hg⟩)
  go_ret
  exact ⟨rfl, HG.out.trans hg⟩
theorem dt_isAgg (w : World) : (isAgg 36).run Try.prog w = .ok true w := by kernel_rfl
theorem dt_sizeOf (w : World) : (Go.sizeOf 36).run Try.prog w = .ok 5 w := by kernel_rfl
theorem dt_cmpLays (blk off size : Nat) (w : World) : CmpLays Try.prog 34 #[] dtC 5 cmpDt blk off size w :=
  fun m os dk _ x y => dcmp_gr x y (sortWorldK dtC 5 w blk off m dk os)
theorem sort_noneD (p : Option Addr) (cap : Nat) (fv : Value) (w : World) :
    Calls Try.prog 33 #[.slice p 0 cap, fv] w fun e w' => e = .returned (.tuple #[]) ∧ w' = w :=
  AnyF.slices_SortFunc_none Try.sortK p cap fv w
theorem arr_getD (ss : List Dt) (i : Nat) (h : i < ss.length) : ss.toArray[i]! = ss.getD i Dt.zero := by
  simp [List.getD, h]
theorem dt_one (x : Dt) : ∀ u ∈ dtC x, u.oneCell' = true := rowDt.one x
theorem row_holdsD {w : World} {B g k cap : Nat} {ss : List Dt} (h : w.ownsRow B 36 5 (.slice (some ⟨g, 0, none⟩) k cap) k (cellsL dtC ss)) : HoldsK dtC 5 w g 0 ss.toArray ∧ g < w.heap.size ∧ B ≤ g := by
  have hlt := h.lt g rfl
  refine ⟨fun t ht => ?_, hlt.2, hlt.1⟩
  have ht' : t < ss.length * 5 := by simpa using ht
  have hi : t / 5 < ss.length := by omega
  have e := get_flatK dtC 5 ss.toArray t (by simpa using ht')
  rw [arr_getD ss _ hi] at e
  constructor
  · rw [e]
    have hm : t % 5 < 5 := by omega
    have hc := cellsL_get rowDt ss (t / 5) hi (t % 5) hm
    rw [show t / 5 * 5 + t % 5 = t by omega] at hc
    have hv : ∃ v, (dtC (ss.getD (t / 5) Dt.zero))[t % 5]? = some v := ⟨_, List.getElem?_eq_getElem (by rw [rowDt.len]; exact hm)⟩
    obtain ⟨v, hv⟩ := hv
    have := h.cells (g := g) rfl t v (hc.trans hv)
    rw [add_litL] at this
    rw [this]
    simp only [List.getElem!_eq_getElem?_getD, hv, Option.getD_some]
    rfl
  · rcases h.2 with ⟨hv, _⟩ | ⟨g', cap', cur, hv, _, hg, _⟩
    · cases hv
    · simp only [Value.slice.injEq, Option.some.injEq, Addr.mk.injEq] at hv
      obtain ⟨⟨rfl, _⟩, _⟩ := hv
      simp [World.frozen?, hg]
theorem holds_dts {w : World} {g : Nat} {ss : List Dt} (h : HoldsK dtC 5 w g 0 ss.toArray) (hok : ∀ x ∈ ss, InDt x) : DtsAt w (some ⟨g, 0, none⟩) ss := by
  refine ⟨hok, .inr ⟨g, 0, rfl, fun i hi j v hv => ?_⟩⟩
  have hs : i < ss.toArray.size := by simpa using hi
  have hj : j < 5 := (List.getElem?_eq_some_iff.1 hv).1
  have h0 := (h.cell hs hj).1
  rw [arr_getD ss i hi] at h0
  rw [h0]
  simp only [List.getElem!_eq_getElem?_getD, hv, Option.getD_some]
theorem sortWorld_belowD {w : World} {B g m : Nat} {d : Array Dt} {os : Array Obj} (hB : B ≤ w.heap.size) (hg : B ≤ g) : Below B w (sortWorldK dtC 5 w g 0 m d os) := by
  refine ⟨rfl, rfl, rfl, ?_, fun b hb => ?_⟩
  · unfold sortWorldK putRowK
    simp
  · unfold sortWorldK putRowK putRow mapBlock grow
    show ((Array.modify w.heap g _) ++ os)[b]? = w.heap[b]?
    rw [Array.getElem?_append_left (by simp; omega), Array.getElem?_modify, if_neg (by omega)]
/-- slices.SortFunc at such a list of one's own. -/
theorem sort_someD {w : World} {B g k cap : Nat} {ss : List Dt} (h : w.ownsRow B 36 5 (.slice (some ⟨g, 0, none⟩) k cap) k (cellsL dtC ss)) (hk : ss.length = k) (hB : B ≤ w.heap.size) (hok : ∀ x ∈ ss, InDt x) (h40 : k ≤ 1099511627776) :
    Calls Try.prog 33 #[.slice (some ⟨g, 0, none⟩) k cap, .func (.func 34) #[] #[]] w fun e w' =>
      e = .returned (.tuple #[]) ∧ ∃ ts : List Dt, ss.Perm ts ∧ ts.Pairwise (fun x y => ¬ ltN y.p x.p) ∧ DtsAt w' (some ⟨g, 0, none⟩) ts ∧ Below B w w' := by
  obtain ⟨hH, hlt, hBg⟩ := row_holdsD h
  have eg : ∀ args w, (callFunc 34 args).run Try.prog w = .ok (.enter 34 args) w := enters_of Try.func34 (by kernel_rfl) rfl
  have hcon := AnyQ.slices_SortFunc Try.sortK 5 dt_isAgg dt_sizeOf dtC (fun _ => rfl) dt_one cmpDt cmpDt_swo 34 #[] g 0 cap ss.toArray w eg (dt_cmpLays g 0 _ w) hH hlt (by simp; omega)
  simp only [List.size_toArray, hk] at hcon
  refine Calls.mono hcon fun e w' ⟨he, d', n, os, hp, hs, hw⟩ => ⟨he, d'.toList, ?_, ?_, ?_, ?_⟩
  · obtain ⟨hsz, _, hperm⟩ := hp
    have e1 : d'.extract 0 k = d' := by
      have : d'.size = k := by rw [hsz]; simp [hk]
      rw [← this]; exact Array.extract_size
    have e2 : ss.toArray.extract 0 k = ss.toArray := by rw [show k = ss.toArray.size by simp [hk]]; exact Array.extract_size
    rw [e1, e2] at hperm
    exact hperm.symm
  · have hsz : d'.size = k := by rw [hp.1]; simp [hk]
    rw [List.pairwise_iff_getElem]
    intro i j hi hj hij
    have hj' : j < d'.size := by simpa using hj
    have hi' : i < d'.size := by omega
    have := hs i j (Nat.zero_le _) hij (by omega)
    rw [getElem!_pos d' i hi', getElem!_pos d' j hj', ltOf_notD] at this
    simpa using this
  · have hsz : d'.size = k := by rw [hp.1]; simp [hk]
    obtain ⟨hsz2, _, hperm⟩ := hp
    have e1 : d'.extract 0 k = d' := by rw [← hsz]; exact Array.extract_size
    have e2 : ss.toArray.extract 0 k = ss.toArray := by rw [show k = ss.toArray.size by simp [hk]]; exact Array.extract_size
    rw [e1, e2] at hperm
    refine holds_dts ?_ fun x hx => hok x (hperm.mem_iff.1 hx)
    rw [hw]
    exact holdsK_grow dtC 5 _ _ _ _ _ (by unfold putRowK; simpa using hlt) (holdsK_putRowK dtC 5 _ g 0 ss.toArray _ (holdsK_ahead dtC 5 w n g 0 _ hH) (by simp [hsz, hk]))
  · rw [hw]
    exact sortWorld_belowD hB hBg
/-- Unlike prefixes, sorted: that is in order. -/
theorem srt_of {L ss ts : List Dt} {q : Dt → Bool} (hL : SrtD L) (hn : ss.Nodup) (hm : ∀ x, x ∈ ss ↔ x ∈ L ∧ q x = true) (hp : ss.Perm ts) (hs : ts.Pairwise (fun x y => ¬ ltN y.p x.p)) : ts = L.filter q := by
  have hnt : ts.Nodup := hp.nodup_iff.1 hn
  have hmt : ∀ x, x ∈ ts ↔ x ∈ L ∧ q x = true := fun x => (hp.mem_iff.symm).trans (hm x)
  refine SrtD.unique ?_ (hL.filter q) fun x => by rw [hmt, List.mem_filter]
  refine (hs.and hnt).imp_of_mem fun {a b} ha hb ⟨h1, h2⟩ => ?_
  rcases ltN_total a.p b.p with e | e | e
  · exact e
  · exact absurd (hL.inj ((hmt a).1 ha).1 ((hmt b).1 hb).1 e) h2
  · exact absurd e h1
end Go.Proofs.Ytjimnlpmmhcdjaa
