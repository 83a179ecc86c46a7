/- best: what is looked at: Length, First, the closures. -/
import Derived.Test.YtljbebeaahcjaaaJ3
namespace Go.Proofs.Ytljbebeaahcjaaa
open Go.RowKit Go.Maps
set_option linter.unusedVariables false
set_option linter.unusedSimpArgs false
set_option maxRecDepth 100000

theorem sgs_cell {w : World} {p : Option Addr} {L : List Sg} {n k : Nat} (h : SgsAt w p L) (hn : L.length = n) (hk : k < n) : ∃ b off, p = some ⟨b, off, none⟩ ∧ w.cell? ⟨b, off + k * 2, none⟩ = some (.bool (L.getD k Sg.zero).set) ∧ w.cell? ⟨b, off + k * 2 + 1, none⟩ = some (.slice (L.getD k Sg.zero).q (L.getD k Sg.zero).n (L.getD k Sg.zero).c) := by
  obtain ⟨b, off, rfl, hc⟩ := h.at_.cell hn hk
  exact ⟨b, off, rfl, hc 0 _ rfl, hc 1 _ rfl⟩
theorem take_snocS {l : List Sg} {k n : Nat} (hn : l.length = n) (hk : k < n) : l.take (k + 1) = l.take k ++ [l.getD k Sg.zero] := by rw [List.take_add_one]; simp [List.getD, show k < l.length by omega]
theorem lenL_take (l : List Sg) (k : Nat) : lenL (l.take k) ≤ lenL l := by
  induction l generalizing k with
  | nil => simp
  | cons s t ih =>
    cases k with
    | zero => simp [lenL]
    | succ k => simp only [List.take_succ_cons, lenL]; have := ih k; omega
set_option maxHeartbeats 4000000 in
theorem length_any (w : World) (x : Ao) (h : AoAt w x) (hb : lenL x.L ≤ 1000000) : Calls Try.prog 45 #[aoV x] w fun e w' => e = .returned (.int .i64 (lenL x.L : Nat)) ∧ Below w.heap.size w w' := by
  obtain ⟨og, p1, n1, c1, L, nx, md, pf, p2, n2, c2, K⟩ := x
  have HH := Lib.hid h
  have HLB := Lib.hid hb
  have HB0 := Lib.hid (newB w (.cells #[.int .i64 og, .slice p1 n1 c1, .int .u32 nx, .int .i64 md, .int .i64 pf, .slice p2 n2 c2] 33))
  have hm1 : n1 ≤ 9223372036854775807 := Nat.le_trans (Nat.le_trans h.ps.le h.ps.max) (by unfold maxLen; decide)
  clear h hb
  go_enter Try.func45, Try.ntmps45
  go_wp2_with fail
  go_loopw [9, 3] (fun iv nv wr => ∃ k : Nat, k ≤ n1 ∧ iv = .int .i64 k ∧ nv = .int .i64 (lenL (L.take k) : Nat) ∧ Below w.heap.size w wr) (fun iv _ _ => n1 - (intOf iv).toNat)
  case atStart => exact ⟨0, Nat.zero_le _, rfl, rfl, HB0.out⟩
  case round =>
    obtain ⟨k, hk, rfl, rfl, hB⟩ := hrel
    have HB := Lib.hid hB
    clear hB
    by_cases hlt : k < n1
    · have hltI : (k : Int) < (n1 : Int) := by omega
      obtain ⟨b, off, rfl, c0, c1'⟩ := sgs_cell (HH.out.path.below HB.out) HH.out.pl hlt
      have HX := Lib.hid (take_snocS HH.out.pl hlt)
      have HLT := Lib.hid (lenL_take L (k + 1))
      obtain ⟨s, hs⟩ : ∃ s, L.getD k Sg.zero = s := ⟨_, rfl⟩
      have hsn : s.n ≤ 9223372036854775807 := by
        have hm : s ∈ L := by rw [← hs]; simp [List.getD, show k < L.length by have h9 : L.length = n1 := HH.out.pl; omega]
        have h1 := (HH.out.path.at_.ok s hm).2
        exact Nat.le_trans (Nat.le_trans h1.le h1.max) (by unfold maxLen; decide)
      rw [hs] at c0 c1' HX
      obtain ⟨T, hT⟩ : ∃ T, lenL (L.take k) = T := ⟨_, rfl⟩
      have HT := Lib.hid hT
      have HL1 := Lib.hid (show lenL (L.take (k + 1)) = T + if s.set then 1 else s.n from by rw [HX.out, lenL_snoc, hT])
      have hbd : T + (if s.set then 1 else s.n) ≤ 1000000 := by have h1 := HL1.out; have h2 := HLT.out; have h3 := HLB.out; omega
      rw [hT]
      have HN := Lib.hid (newB wr (.cells #[.bool s.set, .slice s.q s.n s.c] 42))
      obtain ⟨st, sq, sn, sc, sA⟩ := s
      dsimp only at c0 c1' hbd hsn
      clear hs hT
      rcases st with _ | _
      · simp only [Bool.false_eq_true, if_false] at hbd
        go_wp2_with fail
        go_roundw
        case rel => exact ⟨k + 1, by omega, by go_num, by have h := HL1.out; simp only [Bool.false_eq_true, if_false] at h; rw [h]; simp, HB.out.trans (HN.out.mono HB.out.size)⟩
        case measure => simp [intOf]; omega
      · simp only [if_true] at hbd
        go_wp2_with fail
        go_roundw
        case rel => exact ⟨k + 1, by omega, by go_num, by have h := HL1.out; simp only [if_true] at h; rw [h]; simp, HB.out.trans (HN.out.mono HB.out.size)⟩
        case measure => simp [intOf]; omega
    · obtain rfl : k = n1 := by omega
      have e : L.take k = L := List.take_of_length_le (by rw [HH.out.pl]; exact Nat.le_refl _)
      rw [e]
      have hkI : ¬ (k : Int) < (k : Int) := by omega
      go_wp2_with fail
      go_ret
      exact ⟨rfl, HB.out⟩
set_option maxHeartbeats 4000000 in
theorem first_any (w : World) (x : Ao) (h : AoAt w x) : Calls Try.prog 34 #[aoV x] w fun e w' => e = .returned (.int .i64 (firstL x.L)) ∧ Below w.heap.size w w' := by
  obtain ⟨og, p1, n1, c1, L, nx, md, pf, p2, n2, c2, K⟩ := x
  have HH := Lib.hid h
  have HB0 := Lib.hid (newB w (.cells #[.int .i64 og, .slice p1 n1 c1, .int .u32 nx, .int .i64 md, .int .i64 pf, .slice p2 n2 c2] 33))
  have hm1 : n1 ≤ 9223372036854775807 := Nat.le_trans (Nat.le_trans h.ps.le h.ps.max) (by unfold maxLen; decide)
  obtain ⟨F, hF⟩ : ∃ F, firstL L = F := ⟨_, rfl⟩
  have HF := Lib.hid hF
  dsimp only
  rw [hF]
  clear h hF
  go_enter Try.func34, Try.ntmps34
  go_wp2_with fail
  go_loopw [8] (fun iv wr => ∃ k : Nat, k ≤ n1 ∧ iv = .int .i64 k ∧ (∀ s ∈ L.take k, s.set = false ∧ s.n = 0) ∧ Below w.heap.size w wr) (fun iv _ => n1 - (intOf iv).toNat)
  case atStart => exact ⟨0, Nat.zero_le _, rfl, fun s hs => by simp at hs, HB0.out⟩
  case round =>
    obtain ⟨k, hk, rfl, hall, hB⟩ := hrel
    have HB := Lib.hid hB
    have HFD := Lib.hid (firstL_drop hall)
    have HALL := Lib.hid hall
    clear hB hall
    by_cases hlt : k < n1
    · have hltI : (k : Int) < (n1 : Int) := by omega
      obtain ⟨b, off, rfl, c0, c1'⟩ := sgs_cell (HH.out.path.below HB.out) HH.out.pl hlt
      have HX := Lib.hid (take_snocS HH.out.pl hlt)
      obtain ⟨s, hs⟩ : ∃ s, L.getD k Sg.zero = s := ⟨_, rfl⟩
      have hkl : k < L.length := by rw [HH.out.pl]; exact hlt
      have hm : s ∈ L := by rw [← hs]; simp [List.getD, hkl]
      have HDR := Lib.hid (show F = firstL (s :: L.drop (k + 1)) from by
        rw [← HF.out, HFD.out, List.drop_eq_getElem_cons hkl, ← hs]; simp [List.getD, hkl])
      have hi := HH.out.path.at_.ok s hm
      have hn := HH.out.path.nums s hm
      rw [hs] at c0 c1' HX
      have HN := Lib.hid (newB wr (.cells #[.bool s.set, .slice s.q s.n s.c] 42))
      obtain ⟨st, sq, sn, sc, sA⟩ := s
      dsimp only [firstL] at c0 c1' HDR hi hn
      clear hs hm
      rcases st with _ | _
      · by_cases h0 : sn = 0
        · subst h0
          clear hi hn
          go_wp2_with fail
          go_roundw
          case rel =>
            refine ⟨k + 1, by omega, by go_num, fun y hy => ?_, HB.out.trans (HN.out.mono HB.out.size)⟩
            rw [HX.out] at hy
            rcases List.mem_append.1 hy with hy | hy
            · exact HALL.out y hy
            · rw [List.mem_singleton] at hy; subst hy; exact ⟨rfl, rfl⟩
          case measure => simp [intOf]; omega
        · have h1 : (0 : Int) < (sn : Int) := by omega
          have t1 : decide ((0 : Int) < (sn : Int)) = true := decide_eq_true h1
          obtain ⟨b2, off2, rfl, d0⟩ := in_cell (hn.below HB.out) hi.1 (show 0 < sn by omega)
          have hr := HDR.out
          simp only [Bool.false_eq_true, if_false] at hr
          rw [if_neg h0] at hr
          rw [← hr, Nat.add_zero] at d0
          replace d0 := kept HN.out d0
          clear hi hn hr
          go_wp2_with fail
          go_ret
          exact ⟨rfl, HB.out.trans (HN.out.mono HB.out.size)⟩
      · have hr := HDR.out
        simp only [if_true] at hr
        subst hr
        clear hi hn
        go_wp2_with fail
        go_ret
        exact ⟨rfl, HB.out.trans (HN.out.mono HB.out.size)⟩
    · obtain rfl : k = n1 := by omega
      have hr := HFD.out
      rw [HF.out, show L.drop k = [] from List.drop_of_length_le (by rw [HH.out.pl]; exact Nat.le_refl _)] at hr
      have hr : F = 0 := hr
      subst hr
      have hkI : ¬ (k : Int) < (k : Int) := by omega
      go_wp2_with fail
      go_ret
      exact ⟨rfl, HB.out⟩
/-- What the closures look at. -/
def keyV : Nat → Rv → Int
  | 0, y => -prefV y.x
  | 1, y => (lenL y.x.L : Nat)
  | 2, y => y.x.og
  | 3, y => max y.x.md 0
  | 4, y => y.r
  | _, y => y.i
theorem look0_any (w : World) (b o : Nat) (y : Rv) (h : RvHere w b o y) : Calls Try.prog 43 #[.pointer (some ⟨b, o, none⟩)] w fun e w' => e = .returned (.int .i64 (keyV 0 y)) ∧ Below w.heap.size w w' := by
  have c4 := h.c4; have c5 := h.c5; have c6 := h.c6; have c7 := h.c7; have c8 := h.c8; have c9 := h.c9
  have HP := Lib.hid (pref_any w y.x)
  have hw := h.in_.wp
  have hw : IntKind.i64.min ≤ y.x.pf ∧ y.x.pf ≤ IntKind.i64.max := by simpa [Lit.wf] using hw
  rw [show IntKind.i64.min = -9223372036854775808 from rfl, show IntKind.i64.max = 9223372036854775807 from rfl] at hw
  have hp : 0 ≤ prefV y.x ∧ prefV y.x ≤ 9223372036854775807 := by unfold prefV; split <;> omega
  obtain ⟨P, hP⟩ : ∃ P, prefV y.x = P := ⟨_, rfl⟩
  have HK := Lib.hid (show keyV 0 y = -P from by show -prefV y.x = -P; rw [hP])
  rw [hP] at HP hp
  clear h hw hP
  go_enter Try.func43, Try.ntmps43
  go_wp2_with (go_at_call 14; refine HP.out.mono ?_; rintro e u ⟨rfl, hu⟩)
  go_ret
  exact ⟨by rw [HK.out]; rfl, hu⟩
theorem look1_any (w : World) (b o : Nat) (y : Rv) (h : RvHere w b o y) (hb : lenL y.x.L ≤ 1000000) : Calls Try.prog 44 #[.pointer (some ⟨b, o, none⟩)] w fun e w' => e = .returned (.int .i64 (keyV 1 y)) ∧ Below w.heap.size w w' := by
  have c4 := h.c4; have c5 := h.c5; have c6 := h.c6; have c7 := h.c7; have c8 := h.c8; have c9 := h.c9
  have HP := Lib.hid (show Calls Try.prog 45 #[aoV y.x] w fun e w' => e = .returned (.int .i64 (keyV 1 y)) ∧ Below w.heap.size w w' from length_any w y.x h.ao hb)
  clear h hb
  go_enter Try.func44, Try.ntmps44
  go_wp2_with (go_at_call 45; refine HP.out.mono ?_; rintro e u ⟨rfl, hu⟩)
  go_ret
  exact ⟨rfl, hu⟩
theorem look2_any (w : World) (b o : Nat) (y : Rv) (h : RvHere w b o y) : Calls Try.prog 46 #[.pointer (some ⟨b, o, none⟩)] w fun e w' => e = .returned (.int .i64 (keyV 2 y)) ∧ Below w.heap.size w w' := by
  have c4 : w.cell? ⟨b, o + 4, none⟩ = some (.int .i64 (keyV 2 y)) := h.c4
  clear h
  go_enter Try.func46, Try.ntmps46
  go_wp2
  go_ret
  exact ⟨rfl, Below.refl _ _⟩
theorem look3_any (w : World) (b o : Nat) (y : Rv) (h : RvHere w b o y) : Calls Try.prog 35 #[.pointer (some ⟨b, o, none⟩)] w fun e w' => e = .returned (.int .i64 (keyV 3 y)) ∧ w = w' := by
  have c7 := h.c7
  obtain ⟨m, hm⟩ : ∃ m, y.x.md = m := ⟨_, rfl⟩
  rw [hm] at c7
  have HK := Lib.hid (show keyV 3 y = max m 0 from by show max y.x.md 0 = max m 0; rw [hm])
  clear h hm
  go_enter Try.func35, Try.ntmps35
  go_wp2
  go_ret
  exact ⟨by rw [HK.out]; rfl, rfl⟩
theorem look4_any (w : World) (b o : Nat) (y : Rv) (h : RvHere w b o y) : Calls Try.prog 29 #[.pointer (some ⟨b, o, none⟩)] w fun e w' => e = .returned (.int .i64 (keyV 4 y)) ∧ Below w.heap.size w w' := by
  have c0 : w.cell? ⟨b, o, none⟩ = some (.int .i64 (keyV 4 y)) := h.c0
  clear h
  go_enter Try.func29, Try.ntmps29
  go_wp2
  go_ret
  exact ⟨rfl, Below.refl _ _⟩
theorem look5_any (w : World) (b o : Nat) (y : Rv) (h : RvHere w b o y) : Calls Try.prog 30 #[.pointer (some ⟨b, o, none⟩)] w fun e w' => e = .returned (.int .i64 (keyV 5 y)) ∧ Below w.heap.size w w' := by
  have c3 : w.cell? ⟨b, o + 3, none⟩ = some (.int .i64 (keyV 5 y)) := h.c3
  clear h
  go_enter Try.func30, Try.ntmps30
  go_wp2
  go_ret
  exact ⟨rfl, Below.refl _ _⟩
end Go.Proofs.Ytljbebeaahcjaaa
