/- The walk of NumCodes. -/
import Derived.Test.YtmicbpkhlgceoaaLives
import Derived.Deep.RegionWith
namespace Go.Proofs.Ytmicbpkhlgceoaa
open Go.RowKit

theorem BytesAt.below {w w' : World} {p : Option Addr} {xs : List Int} (h : BytesAt w p xs) (hb : Below w.heap.size w w') : BytesAt w' p xs := by
  obtain ⟨hx, h⟩ := h
  refine ⟨hx, ?_⟩
  rcases h with h | ⟨b, off, rfl, hc⟩
  · exact .inl h
  · exact .inr ⟨b, off, rfl, fun i hi => by
      have hk := hc i hi
      exact (hb.cell (p := ⟨b, off + i, none⟩) (World.block_lt_of_cell? w _ hk)).trans hk⟩

/-- The slice of bytes as the form reads it. -/
theorem bytesOfArg {W : World} {x : Addr} {l c : Nat} {zs : List Int} (hl : l ≤ c) (hz : zs.length = c) (hcell : ∀ i, i < zs.length → W.cell? (x.add i) = some (.int .u8 (zs.getD i 0))) (hwz : ∀ n ∈ zs, (Lit.int .u8 n).wf = true) :
    ∃ ys, l = ys.length ∧ BytesAt W (some x) ys := by
  refine ⟨zs.take l, by rw [List.length_take]; omega, ?_, ?_⟩
  · intro i hi
    rw [List.length_take] at hi
    have e : (zs.take l).getD i 0 = zs[i]'(by omega) := by
      simp [List.getD, List.getElem?_take_of_lt (show i < l by omega), List.getElem?_eq_getElem (show i < zs.length by omega)]
    rw [e]
    have := hwz _ (List.getElem_mem (show i < zs.length by omega))
    simp [Lit.wf, IntKind.min, IntKind.max, IntKind.signed, IntKind.bits] at this
    exact this
  · rcases Nat.eq_zero_or_pos l with h0 | h0
    · subst h0; exact .inl (by simp)
    · have h := hcell 0 (by omega)
      obtain ⟨b, off, spot⟩ := x
      have hspot : spot = none := by simpa [Addr.add] using World.cell?_spot h
      subst hspot
      refine .inr ⟨b, off, rfl, fun i hi => ?_⟩
      rw [List.length_take] at hi
      have hc := hcell i (by omega)
      rw [show (⟨b, off, none⟩ : Addr).add i = ⟨b, off + i, none⟩ from by unfold Addr.add; split <;> simp_all] at hc
      rw [hc]
      simp [List.getD, List.getElem?_take_of_lt (show i < l by omega)]

theorem codes_big (n wide : Int) (p : Option Addr) (len cap : Nat) (w : World) (h : 1000 < len) :
    Calls Try.prog 3 #[.int .i64 n, .int .i64 wide, .slice p len cap] w fun e w' => e = .returned (.bool true) ∧ Below w.heap.size w w' := by
  go_enter Try.func3, Try.ntmps3
  go_wp2_with (go_at_call 10; refine (lives_any _).mono ?_; rintro e w1 ⟨rfl, hb⟩; have HB := Lib.hid hb; clear hb)
  go_ret
  exact ⟨rfl, HB.out⟩

/-- What Get makes of bytes that came in: one statement for both ways. -/
def getOut (xs : List Int) : Int := if wideB xs.length then getV xs else 0
def getErr (xs : List Int) : Int := if wideB xs.length then 0 else 10
theorem get_any (p : Option Addr) (xs : List Int) (cap : Nat) (w : World) (hb : BytesAt w p xs) :
    Calls Try.prog 12 #[.slice p xs.length cap] w fun e w' => e = .returned (.tuple #[.int .i64 (getOut xs), .int .i64 (getErr xs)]) ∧ w = w' := by
  rcases hw : wideB xs.length with _ | _
  · refine (get_wide p xs.length cap w hw).mono fun e w' ⟨he, hq⟩ => ⟨?_, hq⟩
    rw [he]; simp [getOut, getErr, hw]
  · have := wideB_yes hw
    refine (get_some p xs cap w (by omega) (by omega) hb).mono fun e w' ⟨he, hq⟩ => ⟨?_, hq⟩
    rw [he]; simp [getOut, getErr, hw]

theorem codes_wide (n wide : Int) (p : Option Addr) (xs : List Int) (cap : Nat) (w : World) (h : xs.length ≤ 1000) (hb : BytesAt w p xs) (hw : wideB wide = false) :
    Calls Try.prog 3 #[.int .i64 n, .int .i64 wide, .slice p xs.length cap] w fun e w' => e = .returned (.bool true) ∧ Below w.heap.size w w' := by
  have HG := Lib.hid (get_any p xs cap w hb)
  have HX := Lib.hid hb
  have hww := wideB_no hw
  obtain ⟨m, hm⟩ : ∃ m, xs.length = m := ⟨_, rfl⟩
  have HM := Lib.hid hm
  rw [hm] at h ⊢
  clear hb hm
  go_enter Try.func3, Try.ntmps3
  go_wp2_with fail
  refine (put_wide _ _ _ hw).mono ?_; rintro e w' ⟨rfl, rfl⟩
  go_wp2_with fail
  have hg := HG.out
  rw [HM.out] at hg
  refine hg.mono ?_; rintro e w' ⟨rfl, rfl⟩
  clear hg
  go_wp2_with fail
  refine (lives_any _).mono ?_; rintro e w1 ⟨rfl, hb⟩
  have HB := Lib.hid hb
  clear hb
  by_cases hm : 1 ≤ m ∧ m ≤ 4
  · obtain ⟨m1, m4⟩ := hm
    have hmw : wideB (m : Int) = true := by simp [wideB]; omega
    have e1 : getOut xs = getV xs := by unfold getOut; rw [HM.out, if_pos hmw]
    have e2 : getErr xs = 0 := by unfold getErr; rw [HM.out, if_pos hmw]
    rw [e1, e2]
    clear e1 e2 hmw
    go_wp2_with fail
    have hr := rget_any p xs cap w1 (by rw [HM.out]; exact m4) (HX.out.below HB.out)
    rw [HM.out] at hr
    refine hr.mono ?_; rintro e w' ⟨rfl, rfl⟩
    clear hr
    rcases hww with hw1 | hw1
    · go_wp2_with fail
      go_ret
      exact ⟨rfl, HB.out⟩
    · go_wp2_with fail
      go_ret
      exact ⟨rfl, HB.out⟩
  · have hmw : wideB (m : Int) = false := by
      rcases h1 : wideB (m : Int) with _ | _
      · rfl
      · have := wideB_yes h1; omega
    have e1 : getOut xs = 0 := by unfold getOut; rw [HM.out, if_neg (by rw [hmw]; decide)]
    have e2 : getErr xs = 10 := by unfold getErr; rw [HM.out, if_neg (by rw [hmw]; decide)]
    rw [e1, e2]
    clear e1 e2 hmw
    rcases Nat.lt_or_ge m 1 with hm1 | hm1
    · rcases hww with hw1 | hw1
      · go_wp2_with fail
        go_ret
        exact ⟨rfl, HB.out⟩
      · go_wp2_with fail
        go_ret
        exact ⟨rfl, HB.out⟩
    · have hm4 : 4 < m := by omega
      clear hm
      rcases hww with hw1 | hw1
      · go_wp2_with fail
        go_ret
        exact ⟨rfl, HB.out⟩
      · go_wp2_with fail
        go_ret
        exact ⟨rfl, HB.out⟩
theorem codes_num (n : Int) (wide : Nat) (p : Option Addr) (xs : List Int) (cap : Nat) (w : World) (h : xs.length ≤ 1000) (hb : BytesAt w p xs) (h1 : 1 ≤ wide) (h4 : wide ≤ 4) (hf : fitsB n wide = false) :
    Calls Try.prog 3 #[.int .i64 n, .int .i64 wide, .slice p xs.length cap] w fun e w' => e = .returned (.bool true) ∧ Below w.heap.size w w' := by
  have HG := Lib.hid (get_any p xs cap w hb)
  have HX := Lib.hid hb
  obtain ⟨m, hm⟩ : ∃ m, xs.length = m := ⟨_, rfl⟩
  have HM := Lib.hid hm
  rw [hm] at h ⊢
  clear hb hm
  go_enter Try.func3, Try.ntmps3
  go_wp2_with fail
  refine (put_num n wide _ h1 h4 hf).mono ?_; rintro e w' ⟨rfl, rfl⟩
  go_wp2_with fail
  have hg := HG.out
  rw [HM.out] at hg
  refine hg.mono ?_; rintro e w' ⟨rfl, rfl⟩
  clear hg
  go_wp2_with fail
  refine (lives_any _).mono ?_; rintro e w1 ⟨rfl, hb⟩
  have HB := Lib.hid hb
  clear hb
  by_cases hm : 1 ≤ m ∧ m ≤ 4
  · obtain ⟨m1, m4⟩ := hm
    have hmw : wideB (m : Int) = true := by simp [wideB]; omega
    have e1 : getOut xs = getV xs := by unfold getOut; rw [HM.out, if_pos hmw]
    have e2 : getErr xs = 0 := by unfold getErr; rw [HM.out, if_pos hmw]
    rw [e1, e2]
    clear e1 e2 hmw
    go_wp2_with fail
    have hr := rget_any p xs cap w1 (by rw [HM.out]; exact m4) (HX.out.below HB.out)
    rw [HM.out] at hr
    refine hr.mono ?_; rintro e w' ⟨rfl, rfl⟩
    clear hr
    go_wp2_with fail
    refine (rfits_any n wide _ h4).mono ?_; rintro e w' ⟨rfl, rfl⟩
    rw [hf]
    go_wp2_with fail
    go_ret
    exact ⟨rfl, HB.out⟩
  · have hmw : wideB (m : Int) = false := by
      rcases h1 : wideB (m : Int) with _ | _
      · rfl
      · have := wideB_yes h1; omega
    have e1 : getOut xs = 0 := by unfold getOut; rw [HM.out, if_neg (by rw [hmw]; decide)]
    have e2 : getErr xs = 10 := by unfold getErr; rw [HM.out, if_neg (by rw [hmw]; decide)]
    rw [e1, e2]
    clear e1 e2 hmw
    rcases Nat.lt_or_ge m 1 with hm1 | hm1
    · clear hm
      go_wp2_with fail
      refine (rfits_any n wide _ h4).mono ?_; rintro e w' ⟨rfl, rfl⟩
      rw [hf]
      go_wp2_with fail
      go_ret
      exact ⟨rfl, HB.out⟩
    · have hm4 : 4 < m := by omega
      clear hm
      go_wp2_with fail
      refine (rfits_any n wide _ h4).mono ?_; rintro e w' ⟨rfl, rfl⟩
      rw [hf]
      go_wp2_with fail
      go_ret
      exact ⟨rfl, HB.out⟩

/-- The bytes of a number, as a list. -/
def putL (n : Int) (wide : Nat) : List Int := (List.range wide).map (byteOf n wide)
theorem putL_len (n : Int) (wide : Nat) : (putL n wide).length = wide := by simp [putL]
theorem putL_get (n : Int) (wide j : Nat) (h : j < wide) : byteOf n wide j = (putL n wide).getD j 0 := by
  simp [putL, List.getD, List.getElem?_map, List.getElem?_range h]
theorem putL_byte (n : Int) (wide : Nat) : InByte (putL n wide) := by
  intro i hi
  rw [putL_len] at hi
  rw [← putL_get n wide i hi]
  unfold byteOf
  omega
theorem PutRow.list {w : World} {g : Nat} {n : Int} {wide : Nat} (h : PutRow w g n wide) : BRow w g (putL n wide) := h.row (putL_len n wide) (putL_get n wide)
theorem putL_back {n : Int} {wide : Nat} (h1 : 1 ≤ wide) (h4 : wide ≤ 4) (h : fitsB n wide = true) : getV (putL n wide) = n := by
  obtain ⟨h0, hlt⟩ := fitsB_yes h
  have hw : wide = 1 ∨ wide = 2 ∨ wide = 3 ∨ wide = 4 := by omega
  rcases hw with rfl | rfl | rfl | rfl
  · rw [show (2 : Int) ^ (8 * 1) = 256 from rfl] at hlt
    simp [putL, List.range_succ, byteOf, getV]; omega
  · rw [show (2 : Int) ^ (8 * 2) = 65536 from rfl] at hlt
    simp [putL, List.range_succ, byteOf, getV]; omega
  · rw [show (2 : Int) ^ (8 * 3) = 16777216 from rfl] at hlt
    simp [putL, List.range_succ, byteOf, getV]; omega
  · rw [show (2 : Int) ^ (8 * 4) = 4294967296 from rfl] at hlt
    simp [putL, List.range_succ, byteOf, getV]; omega

theorem run_put (w : World) (g : Nat) (n : Int) (wide cap : Nat) (h : BRow w g (putL n wide)) :
    (convert 22 9 (.slice (some ⟨g, 0, none⟩) wide cap)).run Try.prog w = .ok (.string (strOfNums (putL n wide))) w := by
  have := run_string w g (putL n wide) cap h
  rwa [putL_len] at this

set_option maxHeartbeats 4000000 in
/-- The last statement: what was put is the document's, and is got. -/
theorem codes_fits (n : Int) (wide : Nat) (p : Option Addr) (xs : List Int) (cap : Nat) (w : World) (h : xs.length ≤ 1000) (hb : BytesAt w p xs) (h1 : 1 ≤ wide) (h4 : wide ≤ 4) (hf : fitsB n wide = true) :
    Calls Try.prog 3 #[.int .i64 n, .int .i64 wide, .slice p xs.length cap] w fun e w' => e = .returned (.bool true) ∧ Below w.heap.size w w' := by
  have HX := Lib.hid hb
  obtain ⟨m, hm⟩ : ∃ m, xs.length = m := ⟨_, rfl⟩
  have HM := Lib.hid hm
  rw [hm] at h ⊢
  clear hb hm
  go_enter Try.func3, Try.ntmps3
  go_wp2_with fail
  refine (put_fits n wide _ h1 h4 hf).mono ?_; rintro e w0 ⟨rfl, hr0, hb0⟩
  have R0 := Lib.hid hr0.list
  have B0 := Lib.hid hb0
  clear hr0 hb0
  go_wp2_with fail
  have hg := get_any p xs cap w0 (HX.out.below B0.out)
  rw [HM.out] at hg
  refine hg.mono ?_; rintro e w' ⟨rfl, rfl⟩
  clear hg
  go_wp2_with fail
  refine (lives_any _).mono ?_; rintro e w1 ⟨rfl, hb⟩
  have HB := Lib.hid (B0.out.trans (hb.mono B0.out.size))
  have R1 := Lib.hid (R0.out.below hb)
  clear hb B0 R0
  by_cases hm : 1 ≤ m ∧ m ≤ 4
  · obtain ⟨m1, m4⟩ := hm
    have hmw : wideB (m : Int) = true := by simp [wideB]; omega
    have e1 : getOut xs = getV xs := by unfold getOut; rw [HM.out, if_pos hmw]
    have e2 : getErr xs = 0 := by unfold getErr; rw [HM.out, if_pos hmw]
    rw [e1, e2]
    clear e1 e2 hmw
    go_wp2_with fail
    have hr := rget_any p xs cap w1 (by rw [HM.out]; exact m4) (HX.out.below HB.out)
    rw [HM.out] at hr
    refine hr.mono ?_; rintro e w' ⟨rfl, rfl⟩
    clear hr
    go_wp2_with fail
    refine (rfits_any n wide _ h4).mono ?_; rintro e w' ⟨rfl, rfl⟩
    rw [hf]
    go_wp2_with fail
    have hgc := get_some (some ⟨w.heap.size, 0, none⟩) (putL n wide) wide w1 (by rw [putL_len]; exact h1) (by rw [putL_len]; exact h4) (R1.out.bytes (putL_byte n wide))
    rw [putL_len, putL_back h1 h4 hf] at hgc
    refine hgc.mono ?_; rintro e w' ⟨rfl, rfl⟩
    clear hgc
    go_wp2_with fail
    have R2 := Lib.hid (show BRow w1.drew w.heap.size (putL n wide) from World.rowIs.drew R1.out)
    have C1 := run_put w1.drew w.heap.size n wide wide R2.out
    go_region_held (fun w' => (convert 22 9 (.slice (some ⟨w.heap.size, 0, none⟩) wide wide)).run Try.prog w' = .ok (.string (strOfNums (putL n wide))) w') (assumption) (first | (go_at_call 15; refine (rput_fits n wide w1.drew h1 h4 hf).mono ?_; rintro e w2 ⟨rfl, hr2, hb2⟩; have C2 := run_put w2 w1.heap.size n wide wide (show BRow w2 w1.heap.size (putL n wide) from hr2.list); have C3 := run_put w2 w.heap.size n wide wide (R2.out.below hb2); have HB2 := Lib.hid hb2; clear hr2 hb2))
    go_wp2_with fail
    go_ret
    exact ⟨rfl, HB.out.drew.trans (HB2.out.mono (show w.heap.size ≤ w1.heap.size from HB.out.size))⟩
  · have hmw : wideB (m : Int) = false := by
      rcases h1 : wideB (m : Int) with _ | _
      · rfl
      · have := wideB_yes h1; omega
    have e1 : getOut xs = 0 := by unfold getOut; rw [HM.out, if_neg (by rw [hmw]; decide)]
    have e2 : getErr xs = 10 := by unfold getErr; rw [HM.out, if_neg (by rw [hmw]; decide)]
    rw [e1, e2]
    clear e1 e2 hmw
    rcases Nat.lt_or_ge m 1 with hm1 | hm1
    · clear hm
      go_wp2_with fail
      refine (rfits_any n wide _ h4).mono ?_; rintro e w' ⟨rfl, rfl⟩
      rw [hf]
      go_wp2_with fail
      have hgc := get_some (some ⟨w.heap.size, 0, none⟩) (putL n wide) wide w1 (by rw [putL_len]; exact h1) (by rw [putL_len]; exact h4) (R1.out.bytes (putL_byte n wide))
      rw [putL_len, putL_back h1 h4 hf] at hgc
      refine hgc.mono ?_; rintro e w' ⟨rfl, rfl⟩
      clear hgc
      go_wp2_with fail
      have R2 := Lib.hid (show BRow w1.drew w.heap.size (putL n wide) from World.rowIs.drew R1.out)
      have C1 := run_put w1.drew w.heap.size n wide wide R2.out
      go_region_held (fun w' => (convert 22 9 (.slice (some ⟨w.heap.size, 0, none⟩) wide wide)).run Try.prog w' = .ok (.string (strOfNums (putL n wide))) w') (assumption) (first | (go_at_call 15; refine (rput_fits n wide w1.drew h1 h4 hf).mono ?_; rintro e w2 ⟨rfl, hr2, hb2⟩; have C2 := run_put w2 w1.heap.size n wide wide (show BRow w2 w1.heap.size (putL n wide) from hr2.list); have C3 := run_put w2 w.heap.size n wide wide (R2.out.below hb2); have HB2 := Lib.hid hb2; clear hr2 hb2))
      go_wp2_with fail
      go_ret
      exact ⟨rfl, HB.out.drew.trans (HB2.out.mono (show w.heap.size ≤ w1.heap.size from HB.out.size))⟩
    · have hm4 : 4 < m := by omega
      clear hm
      go_wp2_with fail
      refine (rfits_any n wide _ h4).mono ?_; rintro e w' ⟨rfl, rfl⟩
      rw [hf]
      go_wp2_with fail
      have hgc := get_some (some ⟨w.heap.size, 0, none⟩) (putL n wide) wide w1 (by rw [putL_len]; exact h1) (by rw [putL_len]; exact h4) (R1.out.bytes (putL_byte n wide))
      rw [putL_len, putL_back h1 h4 hf] at hgc
      refine hgc.mono ?_; rintro e w' ⟨rfl, rfl⟩
      clear hgc
      go_wp2_with fail
      have R2 := Lib.hid (show BRow w1.drew w.heap.size (putL n wide) from World.rowIs.drew R1.out)
      have C1 := run_put w1.drew w.heap.size n wide wide R2.out
      go_region_held (fun w' => (convert 22 9 (.slice (some ⟨w.heap.size, 0, none⟩) wide wide)).run Try.prog w' = .ok (.string (strOfNums (putL n wide))) w') (assumption) (first | (go_at_call 15; refine (rput_fits n wide w1.drew h1 h4 hf).mono ?_; rintro e w2 ⟨rfl, hr2, hb2⟩; have C2 := run_put w2 w1.heap.size n wide wide (show BRow w2 w1.heap.size (putL n wide) from hr2.list); have C3 := run_put w2 w.heap.size n wide wide (R2.out.below hb2); have HB2 := Lib.hid hb2; clear hr2 hb2))
      go_wp2_with fail
      go_ret
      exact ⟨rfl, HB.out.drew.trans (HB2.out.mono (show w.heap.size ≤ w1.heap.size from HB.out.size))⟩
theorem codes_walk (n wide : Int) (p : Option Addr) (xs : List Int) (cap : Nat) {w : World} (hb : BytesAt w p xs) (w' : World) (hw : w' = w) :
    Calls Try.prog 3 #[.int .i64 n, .int .i64 wide, .slice p xs.length cap] w' fun e w'' => e = .returned (.bool true) ∧ Below w'.heap.size w' w'' := by
  subst hw
  rcases Nat.lt_or_ge 1000 xs.length with h | h
  · exact codes_big n wide p xs.length cap w' h
  · rcases hwb : wideB wide with _ | _
    · exact codes_wide n wide p xs cap w' h hb hwb
    · have ⟨h1, h4⟩ := wideB_yes hwb
      obtain ⟨k, rfl⟩ := Int.eq_ofNat_of_zero_le (show 0 ≤ wide by omega)
      rcases hf : fitsB n k with _ | _
      · exact codes_num n k p xs cap w' h hb (by omega) (by omega) hf
      · exact codes_fits n k p xs cap w' h hb (by omega) (by omega) hf
end Go.Proofs.Ytmicbpkhlgceoaa
