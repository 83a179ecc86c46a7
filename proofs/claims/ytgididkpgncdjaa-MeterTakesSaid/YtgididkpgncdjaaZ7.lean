/- Keys of such a map in order. -/
import Derived.Test.YtgididkpgncdjaaZ6
namespace Go.Proofs.Ytgididkpgncdjaa
open Go.RowKit Go.Maps Go.Sort Go.Shelf

/-- In order, each of l once, anywhere behind B. -/
structure SrtAt (w : World) (B : Nat) (q : Option Addr) (ss l : List Pf) : Prop where
  srt : Srt ss
  mem : ∀ x, x ∈ ss ↔ x ∈ l
  at_ : PfsAt w q ss
def SortTo (w w' : World) (l : List Pf) (e : Ending) : Prop := ∃ q k cap ss, e = .returned (.slice q k cap) ∧ ss.length = k ∧ SrtAt w' w.heap.size q ss l ∧ Below w.heap.size w w'

theorem nodup_le : ∀ {ss ls : List Pf}, ss.Nodup → (∀ x ∈ ss, x ∈ ls) → ss.length ≤ ls.length
  | [], _, _, _ => Nat.zero_le _
  | x :: s, ls, h, hm => by
    obtain ⟨a, b, rfl⟩ := List.append_of_mem (hm x (by simp))
    obtain ⟨h1, h2⟩ := List.nodup_cons.1 h
    have := nodup_le (ls := a ++ b) h2 fun y hy => by
      have hne : y ≠ x := fun e => h1 (e ▸ hy)
      have := hm y (by simp [hy])
      simp [hne] at this
      simpa using this
    simp at this ⊢
    omega
theorem collect_keys (Bm b nn : Nat) (D0 : DataW Unit) (ls : List Pf) (hH : Held D0 ls) (hok : ∀ x ∈ ls, InPf x) (w : World) (hBm : Bm < w.heap.size) (hn : nn ≤ 1099511627776)
    (hm : w.cell? ⟨Bm, 0, none⟩ = some (.map (some b))) (hown : w.ownsMap Try.prog 25 (plainElem Try.prog 3) b nn D0) :
    Calls Try.prog 51 #[.func (.func 53) #[] #[.pointer (some ⟨Bm, 0, none⟩)]] w fun e w' => ∃ (v : Value) (ss : List Pf), e = .returned v ∧ Once ls ss ∧ w'.ownsRow w.heap.size 25 2 v ss.length (pcells ss) ∧ (v = .slice none 0 0 ↔ ss = []) ∧ Below w.heap.size w w' := by
  have eg : ∀ args w, (callFunc 53 args).run Try.prog w = .ok (.enter 53 args) w := enters_of Try.func53 (by kernel_rfl) rfl
  exact callsIn_wide.1 (collectN Fence.wide 6 trivial trivial rfl (by omega) _ _ trivial eg (fun ss => Once ls ss) (Maps.size D0) (Nat.le_trans hown.size_le hn) w
    (pfKeys_gives Fence.wide _ trivial rfl (by omega) Bm b nn D0 ls hH hok w hBm hm hown))

/-- slices.SortedFunc(maps.Keys(m), Compare). -/
theorem sorted_keys (Bm b nn : Nat) (D0 : DataW Unit) (ls : List Pf) (hH : Held D0 ls) (hok : ∀ x ∈ ls, InPf x) (w : World) (hBm : Bm < w.heap.size) (hn : nn ≤ 1099511627776) (hlen : ls.length ≤ 1099511627776)
    (hm : w.cell? ⟨Bm, 0, none⟩ = some (.map (some b))) (hown : w.ownsMap Try.prog 25 (plainElem Try.prog 3) b nn D0) :
    Calls Try.prog 39 #[.func (.func 53) #[] #[.pointer (some ⟨Bm, 0, none⟩)], .func (.func 41) #[] #[]] w fun e w' => SortTo w w' ls e := by
  have HC := Lib.hid (collect_keys Bm b nn D0 ls hH hok w hBm hn hm hown)
  have HOK := Lib.hid hok
  clear hH hm hown hok
  go_enter Try.func39, Try.ntmps39
  go_wp2_with fail
  refine HC.out.mono ?_; rintro e w1 ⟨v, ss, rfl, honce, hrow, hnil, hb⟩
  have hokS : ∀ x ∈ ss, InPf x := fun x hx => HOK.out x ((honce.2 x).1 hx)
  have hls : ss.length ≤ 1099511627776 := by
    have := nodup_le honce.1 fun x hx => (honce.2 x).1 hx
    omega
  have HB := Lib.hid hb
  have HO := Lib.hid honce
  rcases hrow.2 with ⟨rfl, h0⟩ | ⟨g, cap, cur, rfl, hBg, _⟩
  · have hss : ss = [] := List.eq_nil_of_length_eq_zero h0
    have HN := Lib.hid (sort_none none 0 (.func (.func 41) #[] #[]) w1)
    clear hrow hnil hb honce HC
    go_wp2_with (go_at_call 52; refine HN.out.mono ?_; rintro e w2 ⟨rfl, rfl⟩)
    go_ret
    refine ⟨none, 0, 0, [], rfl, rfl, ⟨List.Pairwise.nil, fun x => ?_, LAt.nil _ _ _ _ _ _⟩, HB.out⟩
    rw [← HO.out.2 x, hss]
  · have HS := Lib.hid (sort_some (B := w.heap.size) hrow rfl hb.size hokS hls)
    have hsz := hb.size
    clear hrow hnil hb honce HC
    obtain ⟨k, hk⟩ : ∃ k, ss.length = k := ⟨_, rfl⟩
    have HK := Lib.hid hk
    rw [hk] at HS ⊢
    clear hk
    go_wp2_with (go_at_call 52; refine HS.out.mono ?_; rintro e w2 ⟨rfl, hat, hb2⟩)
    go_ret
    have hp := List.mergeSort_perm ss fun x y => !(ltOf cmpPf) y x
    exact ⟨_, k, cap, _, rfl, by rw [hp.length_eq, HK.out], ⟨merged_srt HO.out.1, fun x => by rw [hp.mem_iff, HO.out.2 x], hat⟩, HB.out.trans hb2⟩

end Go.Proofs.Ytgididkpgncdjaa
