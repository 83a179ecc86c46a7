/- nlri.Sort itself. -/
import Derived.Test.YtgmcjejgginpjaaMk5
namespace Go.Proofs.Ytgmcjejgginpjaa
open Go.RowKit Go.Maps Go.Sort Go.Shelf

/-- In order, each of l once, anywhere behind B. -/
structure SrtAt (w : World) (B : Nat) (q : Option Addr) (ss l : List Nl) : Prop where
  srt : Srt ss
  mem : ∀ x, x ∈ ss ↔ x ∈ l
  at_ : NlsAt w q ss
def SortTo (w w' : World) (l : List Nl) (e : Ending) : Prop := ∃ q k cap ss, e = .returned (.slice q k cap) ∧ ss.length = k ∧ SrtAt w' w.heap.size q ss l ∧ Below w.heap.size w w'

theorem nodup_le : ∀ {ss ls : List Nl}, ss.Nodup → (∀ x ∈ ss, x ∈ ls) → ss.length ≤ ls.length
  | [], _, _, _ => Nat.zero_le _
  | x :: s, ls, h, hm => by
    obtain ⟨a, b, rfl⟩ := List.append_of_mem (hm x (by simp))
    obtain ⟨h1, h2⟩ := List.nodup_cons.1 h
    have := nodup_le (ls := a ++ b) h2 fun y hy => by
      have hne : y ≠ x := fun e => h1 (e ▸ hy)
      have := hm y (by simp [hy])
      simp [hne] at this
      simpa using this
    simp at this ⊢
    omega
theorem collect_keys (Bm b nn : Nat) (D0 : DataW Unit) (ls : List Nl) (hH : Held D0 ls) (hok : ∀ x ∈ ls, okN x) (w : World) (hBm : Bm < w.heap.size) (hn : nn ≤ 1099511627776)
    (hm : w.cell? ⟨Bm, 0, none⟩ = some (.map (some b))) (hown : w.ownsMap Try.prog 41 unitElem b nn D0) :
    Calls Try.prog 49 #[.func (.func 51) #[] #[.pointer (some ⟨Bm, 0, none⟩)]] w fun e w' => ∃ (v : Value) (ss : List Nl), e = .returned v ∧ Once ls ss ∧ w'.ownsRow w.heap.size 41 3 v ss.length (ncells ss) ∧ (v = .slice none 0 0 ↔ ss = []) ∧ Below w.heap.size w w' := by
  have eg : ∀ args w, (callFunc 51 args).run Try.prog w = .ok (.enter 51 args) w := enters_of Try.func51 (by kernel_rfl) rfl
  exact callsIn_wide.1 (collectN Fence.wide 6 trivial trivial rfl (by omega) _ _ trivial eg (fun ss => Once ls ss) (Maps.size D0) (Nat.le_trans hown.size_le hn) w
    (nlKeys_gives Fence.wide _ trivial rfl (by omega) Bm b nn D0 ls hH hok w hBm hm hown))

/-- slices.SortedFunc(maps.Keys(m), Compare). -/
theorem sorted_keys (Bm b nn : Nat) (D0 : DataW Unit) (ls : List Nl) (hH : Held D0 ls) (hok : ∀ x ∈ ls, okN x) (w : World) (hBm : Bm < w.heap.size) (hn : nn ≤ 1099511627776) (hlen : ls.length ≤ 1099511627776)
    (hm : w.cell? ⟨Bm, 0, none⟩ = some (.map (some b))) (hown : w.ownsMap Try.prog 41 unitElem b nn D0) :
    Calls Try.prog 38 #[.func (.func 51) #[] #[.pointer (some ⟨Bm, 0, none⟩)], .func (.func 18) #[] #[]] w fun e w' => SortTo w w' ls e := by
  have HC := Lib.hid (collect_keys Bm b nn D0 ls hH hok w hBm hn hm hown)
  have HOK := Lib.hid hok
  clear hH hm hown hok
  go_enter Try.func38, Try.ntmps38
  go_wp2_with fail
  refine HC.out.mono ?_; rintro e w1 ⟨v, ss, rfl, honce, hrow, hnil, hb⟩
  have hokS : ∀ x ∈ ss, okN x := fun x hx => HOK.out x ((honce.2 x).1 hx)
  have hls : ss.length ≤ 1099511627776 := by
    have := nodup_le honce.1 fun x hx => (honce.2 x).1 hx
    omega
  have HB := Lib.hid hb
  have HO := Lib.hid honce
  rcases hrow.2 with ⟨rfl, h0⟩ | ⟨g, cap, cur, rfl, hBg, _⟩
  · have hss : ss = [] := List.eq_nil_of_length_eq_zero h0
    have HN := Lib.hid (sort_none none 0 (.func (.func 18) #[] #[]) w1)
    clear hrow hnil hb honce HC
    go_wp2_with (go_at_call 50; refine HN.out.mono ?_; rintro e w2 ⟨rfl, rfl⟩)
    go_ret
    refine ⟨none, 0, 0, [], rfl, rfl, ⟨List.Pairwise.nil, fun x => ?_, NlsAt.nil _ _⟩, HB.out⟩
    rw [← HO.out.2 x, hss]
  · have HS := Lib.hid (sort_some (B := w.heap.size) hrow rfl hb.size hokS hls)
    have hsz := hb.size
    clear hrow hnil hb honce HC
    obtain ⟨k, hk⟩ : ∃ k, ss.length = k := ⟨_, rfl⟩
    have HK := Lib.hid hk
    rw [hk] at HS ⊢
    clear hk
    go_wp2_with (go_at_call 50; refine HS.out.mono ?_; rintro e w2 ⟨rfl, hat, hb2⟩)
    go_ret
    have hp := List.mergeSort_perm ss fun x y => !(ltOf cmpN) y x
    exact ⟨_, k, cap, _, rfl, by rw [hp.length_eq, HK.out], ⟨merged_srt HO.out.1, fun x => by rw [hp.mem_iff, HO.out.2 x], hat⟩, HB.out.trans hb2⟩

/-- The map while it is filled. -/
def FillN (W : World) (b : Nat) (l : List Nl) (i : Value) (wr : World) : Prop := ∃ (j : Nat) (D : DataW Unit), i = .int .i64 j ∧ j ≤ l.length ∧ wr.ownsMap Try.prog 41 unitElem b j D ∧ Held D (l.take j) ∧ Below b W wr

theorem small_maxLen {j n : Nat} (h : j < n) (k : n ≤ 1099511627776) : j < maxLen := by unfold maxLen; omega
set_option maxRecDepth 100000 in
set_option maxHeartbeats 2000000 in
theorem sortNl_any (q : Option Addr) (n c : Nat) (l : List Nl) (w : World) (hl : NlsAt w q l) (hn : l.length = n) (hok : ∀ x ∈ l, okN x) (h40 : n ≤ 1099511627776) :
    Calls Try.prog 21 #[.slice q n c] w fun e w' => SortTo w w' l e := by
  have HL := Lib.hid hl
  have HN := Lib.hid hn
  have HOK := Lib.hid hok
  have hmm := @run_makeMap Try.prog
  clear hl hn hok
  go_enter Try.func21, Try.ntmps21
  go_wp2_with fail
  clear hmm
  go_loopw [9] (fun i wr => FillN w w.heap.size l i wr) (fun i _ => n - (intOf i).toNat)
  case atStart => exact ⟨0, .map [], rfl, Nat.zero_le _, World.ownsMap_made _ _ _ _, Held.nil, newB _ _⟩
  case round =>
    obtain ⟨j, D, rfl, hj, hown, hheld, hbw⟩ := hrel
    have HH := Lib.hid hheld
    have HB := Lib.hid hbw
    have HM := Lib.hid hown
    by_cases hlt : j < n
    · have t1 : decide ((j : Int) < (n : Int)) = true := by simp; omega
      obtain ⟨b, off, rfl, ⟨hc0, hc1, hc2⟩, _⟩ := nl_cell HL.out HN.out hlt
      have hx : l.getD j Nl.none ∈ l := by simp [List.getD, show j < l.length by have := HN.out; omega]
      have hokx := HOK.out _ hx
      have htk : l.take (j + 1) = l.take j ++ [l.getD j Nl.none] := by
        rw [List.take_succ_eq_append_getElem (show j < l.length by have := HN.out; omega)]; simp [List.getD, show j < l.length by have := HN.out; omega]
      have d0 := kept hbw hc0
      have d1 := kept hbw hc1
      have d2 := kept hbw hc2
      generalize l.getD j Nl.none = x at *
      have hkey := keyOf_mk x hokx
      have HT := Lib.hid htk
      have HOX := Lib.hid hokx
      obtain ⟨i, a, m⟩ := x
      unfold nlV at hkey
      have hownA := hown.alloc (.cells #[.int .i64 i, .int .u32 a, .int .i64 m] 41)
      have hg : wr.grownBy (wr.alloc (.cells #[.int .i64 i, .int .u32 a, .int .i64 m] 41)) none := World.grownBy_alloc _ _ _
      clear hheld hbw hown hc0 hc1 hc2 htk hx hokx hj
      dsimp only at d0 d1 d2
      go_wp2_with (first
        | (at_mapUpdate; refine wpList_mapUpdate_own _ rfl (.tmp 13) (.tmp 14) (.tmp 15) 66 rfl 41 67 nl_keyed Try.underlying66 unitElem w.heap.size j D rfl hownA (small_maxLen hlt h40) _ _ _ rfl rfl hkey _ [] unitElem_mk ?_; intro w1 hown1 hgrow1)
        | fail)
      go_roundw
      case rel => exact ⟨j + 1, _, by first | rfl | go_num, by have := HN.out; omega, hown1, by rw [HT.out]; exact HH.out.put HM.out.isMap HOX.out _, (HB.out.alloc HB.out.size _).grown hgrow1 (by have := HB.out.size; simp; omega) (fun k e => by cases e; exact Nat.le_refl _)⟩
      case measure => simp [intOf]; omega
    · obtain rfl : j = n := by have := HN.out; omega
      have t1 : decide ((j : Int) < (j : Int)) = false := by simp
      have hH : Held D l := by have := hheld; rwa [← HN.out, List.take_length] at this
      obtain ⟨W, hW⟩ : ∃ W, wr.alloc (.cells #[.map (some w.heap.size)] 66) = W := ⟨_, rfl⟩
      have hmW : W.cell? ⟨wr.heap.size, 0, none⟩ = some (.map (some w.heap.size)) := hW ▸ (Blk.new wr 66 [.map (some w.heap.size)]).cell 0 (by simp)
      have hsz : W.heap.size = wr.heap.size + 1 := by rw [← hW]; simp
      have HS := Lib.hid (sorted_keys wr.heap.size w.heap.size j D l hH HOK.out W (by omega) h40 (by have := HN.out; omega) hmW (hW ▸ hown.alloc _))
      have HW := Lib.hid hW
      have HBW := Lib.hid (show Below w.heap.size w W from hW ▸ hbw.alloc hbw.size _)
      clear hheld hbw hown hH hmW hW
      go_wp2_with (first
        | (go_at_call 39; refine (nlKeys_any _ _).mono ?_; rintro e w2 ⟨rfl, rfl⟩; rw [HW.out])
        | (go_at_call 38; refine HS.out.mono ?_; rintro e w2 ⟨q2, k2, c2, ss, rfl, hk2, hs2, hb2⟩))
      go_ret
      exact ⟨q2, k2, c2, ss, rfl, hk2, ⟨hs2.srt, hs2.mem, hs2.at_⟩, HBW.out.trans (hb2.mono HBW.out.size)⟩
end Go.Proofs.Ytgmcjejgginpjaa
