/- 'AddrCodes': the walk as its frame takes it; bytes that come as an argument. -/
import Derived.Test.YtbkpbjjddgmilaaDoorCodesB
import Derived.Test.YtbkpbjjddgmilaaDoorCard02
namespace Go.Proofs.YtbkpbjjddgmilaaDoor
open Go.ChangeShapes Go.WideShapes Go.ChangeAt Go.RowKit Go.Joins Go.Deep

theorem open_bytes {H : Type} {enc : TypeId × Value → H} {w : World} {base b0 : Nat} {spare : Nat → Bool} {held : Bool} {r : Reach} {v : Value} {d : DataW H} {p : List MemPlace} (hv : Value.okWide Tryd.prog w r b0 46 v) (h : DataW.Trod enc Tryd.prog w base spare held 46 v d p) :
    ∃ (q : Option Addr) (ys : List Int) (c : Nat), v = .slice q ys.length c ∧ BytesAt w q ys ∧ ys.length ≤ c ∧ c ≤ maxLen := by
  obtain ⟨a0, len0, cap0, rfl⟩ := okWide_slice Tryd.underlying46 hv
  obtain ⟨fuel, hf⟩ := h
  rcases open_ints Tryd.underlying46 Tryd.underlying5 (by kernel_rfl) hf with ⟨hcs, _⟩ | ⟨a, l, c, zs, hcs, _, hl, hm, hz, _, hcell, hwz⟩
  · simp [Value.cells] at hcs
    obtain ⟨rfl, rfl, rfl⟩ := hcs
    exact ⟨none, [], 0, rfl, BytesAt.nil _ _, Nat.le_refl _, by unfold maxLen; omega⟩
  · simp [Value.cells] at hcs
    obtain ⟨rfl, rfl, rfl⟩ := hcs
    have hlz : len0 ≤ zs.length := by rw [hz]; split <;> omega
    obtain ⟨ys, hy1, hy2⟩ := bytesOfArg (c := zs.length) hlz rfl hcell hwz
    exact ⟨some a, ys, cap0, by rw [hy1], hy2, by omega, hm⟩

theorem codesA_big (a n : Int) (p : Option Addr) (l cap : Nat) (w : World) (ht : Tab w) (hl1 : 1000 < l) :
    Calls Tryd.prog 7 #[.agg #[.int .u32 a, .int .i64 n], .slice p l cap] w fun e w' => e = .returned (.bool true) ∧ Below w.heap.size w w' := by
  have h0 := (Below.refl w.heap.size w).alloc (Nat.le_refl _) (.cells #[.int .u32 a, .int .i64 n] 24)
  have HL := Lib.hid (lives_any _ (ht.below h0))
  have H0 := Lib.hid h0
  have t1 : decide ((1000 : Int) < (l : Int)) = true := by simp; omega
  clear h0 ht
  go_enter Tryd.func7, Tryd.ntmps7
  go_wp2_with fail
  refine HL.out.mono ?_; rintro e w1 ⟨rfl, hb⟩
  have HB := Lib.hid (H0.out.trans (hb.mono (by simp)))
  clear hb
  go_wp2_with fail
  go_ret
  exact ⟨rfl, HB.out⟩

theorem codesA_walk (w : World) (ht : Tab w) (a n : Int) (a0 : 0 ≤ a) (a1 : a < 4294967296) (p : Option Addr) (xs : List Int) (cap : Nat) (hb : BytesAt w p xs) (hlc : xs.length ≤ cap) (hm : cap ≤ maxLen) :
    Calls Tryd.prog 7 #[.agg #[.int .u32 a, .int .i64 n], .slice p xs.length cap] w fun e w' => e = .returned (.bool true) ∧ Below w.heap.size w w' := by
  have hcap : cap ≤ 9223372036854775807 := by unfold maxLen at hm; omega
  rcases Nat.lt_or_ge 1000 xs.length with h | h
  · exact codesA_big a n p xs.length cap w ht h
  · have hg := fun w (hb : BytesAt w p xs) => getp_any p xs cap w hb hlc hcap
    have hr := fun w (hb : BytesAt w p xs) => rgetp_any p xs cap w hb hlc hcap
    rcases ho : gotP xs with _ | ⟨v, m, c⟩
    · rw [ho] at hg hr
      rcases hk : okP a n with _ | _
      · exact codesA_no a n p xs _ cap w ht a0 a1 hk hb rfl h hlc hcap 0 0 0 20 false (.inl ⟨rfl, rfl⟩) hg hr
      · exact codesA_yes a n p xs _ cap w ht a0 a1 hk hb rfl h hlc hcap 0 0 0 20 false (.inl ⟨rfl, rfl⟩) hg hr
    · rw [ho] at hg hr
      rcases hk : okP a n with _ | _
      · exact codesA_no a n p xs _ cap w ht a0 a1 hk hb rfl h hlc hcap (mk v m) (cl m) c 0 true (.inr ⟨rfl, rfl⟩) hg hr
      · exact codesA_yes a n p xs _ cap w ht a0 a1 hk hb rfl h hlc hcap (mk v m) (cl m) c 0 true (.inr ⟨rfl, rfl⟩) hg hr
end Go.Proofs.YtbkpbjjddgmilaaDoor
