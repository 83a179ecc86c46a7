/- trie: what the trie and the document's trie tell is the same. -/
import Derived.Test.YtipecocalmmmbaaTGa
import Derived.Test.YtipecocalmmmbaaTK
namespace Go.Proofs.Ytipecocalmmmbaa
open Go.RowKit
set_option linter.unusedVariables false
set_option linter.unusedSimpArgs false

/-- All things are numbers. -/
def Ints (L : List TE) : Prop := ∀ e ∈ L, ∃ v, e.v = .int .i64 v
theorem get_o3 {L : List TE} (h : TL L) {a n : Int} {e : TE} (he : atT L a n = some e) : (L.map o3)[fI (L.map o3) a n]? = some (o3 e) := by
  have hc := cut3 h a n
  have hmap : L.map o3 = (L.filter (TE.less a n)).map o3 ++ ((atT L a n).toList ++ L.filter (TE.more a n)).map o3 := by rw [← List.map_append]; exact congrArg (List.map o3) hc
  rw [fI_o3 h]
  have e1 : (L.map o3)[(L.filter (TE.less a n)).length]? = (((atT L a n).toList ++ L.filter (TE.more a n)).map o3)[0]? := by
    rw [hmap, List.getElem?_append_right (by rw [List.length_map]; exact Nat.le_refl _), List.length_map, Nat.sub_self]
  rw [e1, he]
  rfl
theorem got_o3 {L : List TE} (h : TL L) (hv : Ints L) {a n v : Int} (h0 : fB (L.map o3) a n = false → v = 0) (h1 : ∀ y, fB (L.map o3) a n = true → (L.map o3)[fI (L.map o3) a n]? = some y → v = y.2.2) : gotV (.int .i64 0) (atT L a n) = .tuple #[.int .i64 v, .bool (fB (L.map o3) a n)] := by
  unfold gotV
  rw [fB_o3 h] at *
  rcases hq : atT L a n with _ | e
  · rw [hq] at h0
    rw [h0 rfl]
  · have := h1 (o3 e) (by rw [hq]; rfl) (get_o3 h hq)
    obtain ⟨x, hx⟩ := hv e (atT_some hq).1
    have e2 : (o3 e).2.2 = x := by unfold o3; rw [hx]
    rw [this, e2]
    show Value.tuple #[e.v, .bool true] = _
    rw [hx]
    rfl
theorem got_ex {L : List TE} (h : TL L) (hv : Ints L) (a n : Int) : ∃ gv, gotV (.int .i64 0) (atT L a n) = .tuple #[.int .i64 gv, .bool (fB (L.map o3) a n)] ∧ ∀ v, (fB (L.map o3) a n = false → v = 0) → (∀ y, fB (L.map o3) a n = true → (L.map o3)[fI (L.map o3) a n]? = some y → v = y.2.2) → v = gv := by
  rcases hq : fB (L.map o3) a n with _ | _
  · refine ⟨0, ?_, fun v h0 _ => h0 rfl⟩
    have := got_o3 (a := a) (n := n) (v := 0) h hv (fun _ => rfl) (fun y hy => by rw [hq] at hy; cases hy)
    rw [hq] at this
    exact this
  · obtain ⟨y, hy⟩ : ∃ y, (L.map o3)[fI (L.map o3) a n]? = some y := ⟨_, List.getElem?_eq_getElem (fB_lt hq)⟩
    refine ⟨y.2.2, ?_, fun v _ h1 => h1 y rfl hy⟩
    have := got_o3 (a := a) (n := n) (v := y.2.2) h hv (fun h0 => by rw [hq] at h0; cases h0) (fun z _ hz => by rw [hy] at hz; cases hz; rfl)
    rw [hq] at this
    exact this
theorem lng_o3 {L : List TE} (h : TL L) (hv : Ints L) {a : Int} {v : Value} (a0 : 0 ≤ a) (a1 : a < 4294967296) (hl : lngO (L.map o3) a v) : v = .tuple #[.agg (lP (lngTo L a 33)).toArray, lV (.int .i64 0) (lngTo L a 33), .bool (lngTo L a 33).isSome] := by
  have hi := lng_is h a0 a1
  rcases hl with ⟨rfl, hn⟩ | ⟨y, hy, rfl, hh, hm⟩
  · have : IsLong L a none := fun e he => hn (o3 e) (List.mem_map.2 ⟨e, he, rfl⟩)
    rw [IsLong.unique h hi this]
    rfl
  · obtain ⟨e, he, rfl⟩ := List.mem_map.1 hy
    have : IsLong L a (some e) := ⟨he, hh, fun f hf hq => hm (o3 f) (List.mem_map.2 ⟨f, hf, rfl⟩) hq⟩
    rw [IsLong.unique h hi this]
    obtain ⟨x, hx⟩ := hv e he
    have e2 : (o3 e).2.2 = x := by unfold o3; rw [hx]
    rw [e2]
    show _ = Value.tuple #[.agg #[.int .u32 e.a, .int .i64 e.n], e.v, .bool true]
    rw [hx]
    rfl
theorem hold_o3 (L : List TE) (pa pn : Int) : heldL pa pn ((L.map o3).map okey) (L.map o3).length = (L.filter (fun e => withinP pa pn e.a e.n)).map tkey := by
  unfold heldL
  rw [List.take_of_length_le (by simp), List.map_map]
  rw [show okey ∘ o3 = tkey from rfl, List.filter_map]
  rfl
theorem ints_set {L : List TE} (h : Ints L) (a n x : Int) (g : Nat) : Ints (setT L a n (.int .i64 x) g) := by
  unfold setT
  split
  · intro e he
    rcases mem_ins.1 he with rfl | ⟨he, _⟩
    · exact ⟨x, rfl⟩
    · exact h e he
  · exact h
theorem ints_del {L : List TE} (h : Ints L) (a n : Int) : Ints (delT L a n) := fun e he => h e (mem_del.1 he).1
theorem del_le {L : List TE} (h : TL L) (a n : Int) : (delT L a n).length ≤ L.length := by
  rw [len_del h]
  split <;> omega
theorem set_full_int (W : World) (B t r : Nat) (N : Int → Nat → Option Nat) (L : List TE) (a n x : Int) (h : TrAt TRi NDi THi W B t r L.length N L) (hB : B ≤ W.heap.size) (a0 : 0 ≤ a) (a1 : a < 4294967296) (hl : L.length ≤ 1000000) :
    Calls Try.prog 10 #[.pointer (some ⟨t, 0, none⟩), .agg #[.int .u32 a, .int .i64 n], .int .i64 x] W fun e w' => ∃ N' g, e = .returned (.int .i64 (if okP a n then 0 else 20)) ∧ SetR TRi NDi THi W w' B t r N L N' (setT L a n (.int .i64 x) g) := by
  unfold setT
  rcases hk : okP a n with _ | _
  · refine (set_no_int W t r a n x (h.tb.cell 0 (by simp)) hk).mono ?_
    rintro e w' ⟨he, hb⟩
    exact ⟨N, 0, he, h.below hb, .of_below hb, fun i hi => .inl hi⟩
  · obtain ⟨_, n0, n1⟩ := okP_parts hk
    obtain ⟨m, rfl⟩ := Int.eq_ofNat_of_zero_le n0
    refine (set_yes_int W B t r N L a m x h hB a0 a1 hk hl).mono ?_
    rintro e w' ⟨N', g, he, hr⟩
    exact ⟨N', g, he, hr⟩
end Go.Proofs.Ytipecocalmmmbaa
