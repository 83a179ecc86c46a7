/- fsm: fall, stop, beats, try, idle, connect. -/
import Derived.Test.YtbacnjijfffobaaH5
import Derived.Deep.RegionHeldLaw
namespace Go.Proofs.Ytbacnjijfffobaa
open Go.RowKit

theorem doL (w : World) (g B : Nat) (o : Op) (r : Int) (s : Ph) (l : List Ac) (h : StM w g B o r s l) (k : List Ac) (m c : Nat) (hk : k.length = m) (hm : l.length + m ≤ 1000) (hB : B ≤ w.heap.size) (t : TypeId) (vs : Array Value) (hv : (acells k).toArray = vs) :
    Calls Try.prog 23 #[.pointer (some ⟨g, 0, none⟩), .slice (some ⟨w.heap.size, 0, none⟩) m c] (w.alloc (.cells vs t)) fun e w' => Did w' w g B o r (s, k) l e := by
  subst hv
  exact doA w g B o r s l h k m c hk hm hB t
theorem Did.after {w' w1 w : World} {g B : Nat} {o : Op} {r : Int} {R : Ph × List Ac} {l : List Ac} {e : Ending} (h : Did w' w1 g B o r R l e) (hb : Below B w w1) : Did w' w g B o r R l e := ⟨h.1, h.2.1, hb.trans h.2.2⟩
theorem ffall_any (w : World) (g B : Nat) (o : Op) (r : Int) (s : Ph) (l : List Ac) (h : StM w g B o r s l) (hl : l.length ≤ 900) (hB : B ≤ w.heap.size) (code sub : Int) (p : Option Addr) (xs : List Int) (n c : Nat) (hb : BytesAt w p xs) (hn : xs.length = n) (hm : n ≤ 1099511627776) :
    Calls Try.prog 26 #[.pointer (some ⟨g, 0, none⟩), .agg #[.int .i64 code, .int .i64 sub, .slice p n c]] w fun e w' => DidD w' w g B o r (fun d => fallV r s code sub d) l e := by
  have hA := (newB w (.cells #[.int .i64 code, .int .i64 sub, .slice p n c] 34)).drew
  obtain ⟨V, hV⟩ : ∃ V, w.alloc (.cells #[.int .i64 code, .int .i64 sub, .slice p n c] 34) = V := ⟨_, rfl⟩
  have hX : Blk V w.heap.size 34 [.int .i64 code, .int .i64 sub, .slice p n c] := hV ▸ Blk.new w 34 [.int .i64 code, .int .i64 sub, .slice p n c]
  rw [hV] at hA
  have hS := h.next hA
  have P := Lib.hid (leave_any V.drew g B o r s l hS hl (by have := hA.size; omega) code sub p xs n c (hb.below hA) hn hm 2 r)
  have hSS : V.drew.cell? ⟨w.heap.size, 0, none⟩ = some (.int .i64 code) ∧ V.drew.cell? ⟨w.heap.size, 1, none⟩ = some (.int .i64 sub) ∧ V.drew.cell? ⟨w.heap.size, 2, none⟩ = some (.slice p n c) ∧ V.drew.cell? ⟨g, 5, none⟩ = some (.int .i64 r) := ⟨hX.cell 0 (by simp), hX.cell 1 (by simp), hX.cell 2 (by simp), hS.cells.2.2.2.2.2.1⟩
  have HV := Lib.hid hV
  have HA := Lib.hid (hA.mono hB)
  clear h hA hX hV hS hb hn hm hl hB
  go_enter Try.func26, Try.ntmps26
  go_wp2_with fail
  rw [HV.out]
  go_region_law (first
    | (go_simp; go_at_call 21; (with_reducible refine P.out.mono ?_); rintro e w1 ⟨d, rfl, hS, hb⟩; have HS := Lib.hid hS; have HB := Lib.hid hb; clear hS hb))
  all_goals
    go_wp2_with fail
    exact bodyPost_end (v := .tuple #[]) (by simp [results, Try.results26, go_sem]) rfl ⟨d, rfl, HS.out, HA.out.trans HB.out⟩
theorem fnext_any (w : World) (g B : Nat) (o : Op) (r : Int) (s : Ph) (l : List Ac) (h : StM w g B o r s l) (hl : l.length ≤ 900) (hB : B ≤ w.heap.size) :
    Calls Try.prog 30 #[.pointer (some ⟨g, 0, none⟩)] w fun e w' => e = .returned (.agg #[.int .i64 7, .int .i64 (wrap64 (s.hold.tdiv 3)), .int .i64 0, .int .i64 0, .slice none 0 0]) ∧ Below w.heap.size w w' := by
  have hA := newB w (.cells #[.int .i64 0, .int .i64 0, .int .i64 0, .int .i64 0, .slice none 0 0] 44)
  obtain ⟨H, hH⟩ : ∃ H, s.hold = H := ⟨_, rfl⟩
  have c7 := (h.next hA).cells.2.2.2.2.2.2.2.1
  rw [hH] at c7 ⊢
  clear h hH hA hl hB
  go_enter Try.func30, Try.ntmps30
  go_wp2_with fail
  exact bodyPost_ret (v := .agg #[.int .i64 7, .int .i64 (wrap64 (H.tdiv 3)), .int .i64 0, .int .i64 0, .slice none 0 0]) (by simp [results, Try.results30, go_sem]) rfl ⟨rfl, by repeat (first | exact newB _ _ | refine Below.setCell ?_ (Nat.le_refl _) _)⟩
theorem fbeat_any (w : World) (g B : Nat) (o : Op) (r : Int) (s : Ph) (l : List Ac) (h : StM w g B o r s l) (hl : l.length ≤ 900) (hB : B ≤ w.heap.size) :
    Calls Try.prog 31 #[.pointer (some ⟨g, 0, none⟩)] w fun e w' => Did w' w g B o r (s, beatL s) l e := by
  have HN := Lib.hid (fnext_any w g B o r s l h hl hB)
  have HS := Lib.hid h
  have HB := Lib.hid hB
  have HL := Lib.hid hl
  unfold beatL
  clear h hB hl
  go_enter Try.func31, Try.ntmps31
  go_wp2_with fail
  refine HN.out.mono ?_
  rintro e w1 ⟨rfl, hb⟩
  have HB1 := Lib.hid hb
  clear hb
  go_wp2_with fail
  refine (doL w1 g B o r s l (HS.out.next HB1.out) [ac 3 0, ac 7 (wrap64 (s.hold.tdiv 3))] 2 2 rfl (by have := HL.out; omega) (by have h1 := HB1.out.size; have h2 := HB.out; omega) _ _ (by rfl)).mono ?_
  rintro e w2 ⟨rfl, hS, hb⟩
  have HS2 := Lib.hid hS
  have HB2 := Lib.hid hb
  clear hS hb
  go_wp2_with fail
  exact bodyPost_end (v := .tuple #[]) (by simp [results, Try.results31, go_sem]) rfl ⟨rfl, HS2.out, (HB1.out.mono HB.out).trans HB2.out⟩
theorem fagain_any (w : World) (g B : Nat) (o : Op) (r : Int) (s : Ph) (l : List Ac) (h : StM w g B o r s l) (hl : l.length ≤ 900) (hB : B ≤ w.heap.size) :
    Calls Try.prog 25 #[.pointer (some ⟨g, 0, none⟩)] w fun e w' => Did w' w g B o r (againV s) l e := by
  obtain ⟨_, _, _, _, _, _, c6, c7, _, _, _⟩ := h.cells
  have HN := Lib.hid (fnext_any w g B o r s l h hl hB)
  have HB := Lib.hid (fbeat_any w g B o r s l h hl hB)
  have HS := Lib.hid h
  have HW := Lib.hid hB
  have HL := Lib.hid hl
  have HV : Hid (againV s = if s.phase = 3 then (s, []) else if s.hold = 0 then (s, [ac 7 (wrap64 (s.hold.tdiv 3))]) else (s, beatL s)) := Lib.hid rfl
  obtain ⟨R, hR⟩ : ∃ R, againV s = R := ⟨_, rfl⟩
  rw [hR] at HV ⊢
  clear h hB hl hR
  by_cases h3 : s.phase = 3
  · obtain rfl : R = (s, []) := by have := HV.out; rwa [if_pos h3] at this
    rw [h3] at c6
    go_enter Try.func25, Try.ntmps25
    go_wp2_with fail
    exact bodyPost_end (v := .tuple #[]) (by simp [results, Try.results25, go_sem]) rfl ⟨rfl, by rw [List.append_nil]; exact HS.out, Below.refl _ _⟩
  · have h3' : (s.phase == 3) = false := by simpa using h3
    by_cases h0 : s.hold = 0
    · obtain rfl : R = (s, [ac 7 (wrap64 0)]) := by have := HV.out; rw [if_neg h3, if_pos h0, h0] at this; exact this
      rw [h0] at HN
      rw [h0] at c7
      go_enter Try.func25, Try.ntmps25
      go_wp2_with fail
      refine HN.out.mono ?_
      rintro e w1 ⟨rfl, hb⟩
      have HB1 := Lib.hid hb
      clear hb
      go_wp2_with fail
      refine (doL w1 g B o r s l (HS.out.next HB1.out) [ac 7 (wrap64 0)] 1 1 rfl (by have := HL.out; omega) (by have h1 := HB1.out.size; have h2 := HW.out; omega) _ _ (by rfl)).mono ?_
      rintro e w2 ⟨rfl, hS, hb⟩
      have HS2 := Lib.hid hS
      have HB2 := Lib.hid hb
      clear hS hb
      go_wp2_with fail
      exact bodyPost_end (v := .tuple #[]) (by simp [results, Try.results25, go_sem]) rfl ⟨rfl, HS2.out, (HB1.out.mono HW.out).trans HB2.out⟩
    · obtain rfl : R = (s, beatL s) := by have := HV.out; rwa [if_neg h3, if_neg h0] at this
      have h0' : (s.hold == 0) = false := by simpa using h0
      go_enter Try.func25, Try.ntmps25
      go_wp2_with fail
      refine HB.out.mono ?_
      rintro e w2 ⟨rfl, hS, hb⟩
      have HS2 := Lib.hid hS
      have HB2 := Lib.hid hb
      clear hS hb
      go_wp2_with fail
      exact bodyPost_end (v := .tuple #[]) (by simp [results, Try.results25, go_sem]) rfl ⟨rfl, HS2.out, HB2.out⟩
theorem ftry_any (w : World) (g B : Nat) (o : Op) (r : Int) (s : Ph) (l : List Ac) (h : StM w g B o r s l) (hl : l.length ≤ 900) (hB : B ≤ w.heap.size) :
    Calls Try.prog 22 #[.pointer (some ⟨g, 0, none⟩)] w fun e w' => Did w' w g B o r (s, tryL r) l e := by
  have c5 := h.cells.2.2.2.2.2.1
  have HS := Lib.hid h
  have HW := Lib.hid hB
  have HL := Lib.hid hl
  unfold tryL
  clear h hB hl
  go_enter Try.func22, Try.ntmps22
  go_wp2_with fail
  refine (doL w g B o r s l HS.out [ac 8 r, ac 1 0] 2 2 rfl (by have := HL.out; omega) HW.out _ _ (by rfl)).mono ?_
  rintro e w2 ⟨rfl, hS, hb⟩
  have HS2 := Lib.hid hS
  have HB2 := Lib.hid hb
  clear hS hb
  go_wp2_with fail
  exact bodyPost_end (v := .tuple #[]) (by simp [results, Try.results22, go_sem]) rfl ⟨rfl, HS2.out, HB2.out⟩
theorem fidle_any (w : World) (g B : Nat) (o : Op) (r : Int) (s : Ph) (l : List Ac) (h : StM w g B o r s l) (hl : l.length ≤ 900) (hB : B ≤ w.heap.size) (kind : Int) :
    Calls Try.prog 17 #[.pointer (some ⟨g, 0, none⟩), .int .i64 kind] w fun e w' => Did w' w g B o r (idleV r s kind) l e := by
  have HT := Lib.hid (ftry_any w g B o r s l h hl hB)
  have HS := Lib.hid h
  clear h hB hl
  by_cases h1 : kind = 1
  · subst h1
    go_enter Try.func17, Try.ntmps17
    go_wp2_with fail
    refine HT.out.mono ?_
    rintro e w2 ⟨rfl, hS, hb⟩
    have HS2 := Lib.hid hS
    have HB2 := Lib.hid hb
    clear hS hb
    have f6 := HS2.out.fz 6
    obtain ⟨_, _, _, _, _, _, c6', _, _, _, _⟩ := HS2.out.cells
    go_wp2_with fail
    exact bodyPost_end (v := .tuple #[]) (by simp [results, Try.results17, go_sem]) rfl ⟨rfl, HS2.out.phase 2, HB2.out.setCell HS2.out.low _⟩
  · have h1' : (kind == 1) = false := by simpa using h1
    go_enter Try.func17, Try.ntmps17
    go_wp2_with fail
    exact bodyPost_end (v := .tuple #[]) (by simp [results, Try.results17, go_sem]) rfl ⟨rfl, by unfold idleV; rw [if_neg h1, List.append_nil]; exact HS.out, Below.refl _ _⟩
theorem fconnect_any (w : World) (g B : Nat) (o : Op) (r : Int) (s : Ph) (l : List Ac) (h : StM w g B o r s l) (hl : l.length ≤ 900) (hB : B ≤ w.heap.size) (kind : Int) :
    Calls Try.prog 18 #[.pointer (some ⟨g, 0, none⟩), .int .i64 kind] w fun e w' => Did w' w g B o r (connectV r s kind) l e := by
  have HT := Lib.hid (ftry_any w g B o r s l h hl hB)
  have c5 := h.cells.2.2.2.2.2.1
  have HS := Lib.hid h
  have HW := Lib.hid hB
  have HL := Lib.hid hl
  have HV : Hid (connectV r s kind = if kind = 3 then ({ s with phase := 3 }, [ac 8 0, ac 2 0, ac 6 240]) else if kind = 12 then (s, tryL r) else if kind = 4 then (s, [ac 8 r]) else (s, [])) := Lib.hid rfl
  obtain ⟨R, hR⟩ : ∃ R, connectV r s kind = R := ⟨_, rfl⟩
  rw [hR] at HV ⊢
  clear h hB hl hR
  by_cases h1 : kind = 3
  · obtain rfl : R = ({ s with phase := 3 }, [ac 8 0, ac 2 0, ac 6 240]) := by have := HV.out; rwa [if_pos h1] at this
    subst h1
    go_enter Try.func18, Try.ntmps18
    go_wp2_with fail
    refine (doL w g B o r s l HS.out [ac 8 0, ac 2 0, ac 6 240] 3 3 rfl (by have := HL.out; omega) HW.out _ _ (by rfl)).mono ?_
    rintro e w2 ⟨rfl, hS, hb⟩
    have HS2 := Lib.hid hS
    have HB2 := Lib.hid hb
    clear hS hb
    have f6 := HS2.out.fz 6
    obtain ⟨_, _, _, _, _, _, c6', _, _, _, _⟩ := HS2.out.cells
    go_wp2_with fail
    exact bodyPost_end (v := .tuple #[]) (by simp [results, Try.results18, go_sem]) rfl ⟨rfl, HS2.out.phase 3, HB2.out.setCell HS2.out.low _⟩
  · have h1' : (kind == 3) = false := by simpa using h1
    by_cases h2 : kind = 12
    · obtain rfl : R = (s, tryL r) := by have := HV.out; rwa [if_neg h1, if_pos h2] at this
      subst h2
      go_enter Try.func18, Try.ntmps18
      go_wp2_with fail
      refine HT.out.mono ?_
      rintro e w2 ⟨rfl, hS, hb⟩
      have HS2 := Lib.hid hS
      have HB2 := Lib.hid hb
      clear hS hb
      go_wp2_with fail
      exact bodyPost_end (v := .tuple #[]) (by simp [results, Try.results18, go_sem]) rfl ⟨rfl, HS2.out, HB2.out⟩
    · have h2' : (kind == 12) = false := by simpa using h2
      by_cases h4 : kind = 4
      · obtain rfl : R = (s, [ac 8 r]) := by have := HV.out; rwa [if_neg h1, if_neg h2, if_pos h4] at this
        subst h4
        go_enter Try.func18, Try.ntmps18
        go_wp2_with fail
        refine (doL w g B o r s l HS.out [ac 8 r] 1 1 rfl (by have := HL.out; omega) HW.out _ _ (by rfl)).mono ?_
        rintro e w2 ⟨rfl, hS, hb⟩
        have HS2 := Lib.hid hS
        have HB2 := Lib.hid hb
        clear hS hb
        go_wp2_with fail
        exact bodyPost_end (v := .tuple #[]) (by simp [results, Try.results18, go_sem]) rfl ⟨rfl, HS2.out, HB2.out⟩
      · obtain rfl : R = (s, []) := by have := HV.out; rwa [if_neg h1, if_neg h2, if_neg h4] at this
        have h4' : (kind == 4) = false := by simpa using h4
        go_enter Try.func18, Try.ntmps18
        go_wp2_with fail
        exact bodyPost_end (v := .tuple #[]) (by simp [results, Try.results18, go_sem]) rfl ⟨rfl, by rw [List.append_nil]; exact HS.out, Below.refl _ _⟩
theorem fstop_any (w : World) (g B : Nat) (o : Op) (r : Int) (s : Ph) (l : List Ac) (h : StM w g B o r s l) (hl : l.length ≤ 900) (hB : B ≤ w.heap.size) :
    Calls Try.prog 16 #[.pointer (some ⟨g, 0, none⟩)] w fun e w' => DidD w' w g B o r (fun d => stopV s d) l e := by
  obtain ⟨_, _, _, _, _, _, c6, _, _, _, _⟩ := h.cells
  have HS := Lib.hid h
  have HL0 := Lib.hid (leave_any w g B o r s l h hl hB 0 0 none [] 0 0 (BytesAt.nil _ _) rfl (by omega) 1 0)
  have HL6 := Lib.hid (leave_any w g B o r s l h hl hB 6 2 none [] 0 0 (BytesAt.nil _ _) rfl (by omega) 1 0)
  clear h hB hl
  by_cases h1 : s.phase = 1
  · rw [h1] at c6
    go_enter Try.func16, Try.ntmps16
    go_wp2_with fail
    exact bodyPost_end (v := .tuple #[]) (by simp [results, Try.results16, go_sem]) rfl ⟨⟨none, 0, 0⟩, rfl, by dsimp only; unfold stopV; rw [if_pos h1, List.append_nil]; exact HS.out, Below.refl _ _⟩
  · have h1' : (s.phase == 1) = false := by simpa using h1
    by_cases h2 : s.phase = 2
    · have hst : ∀ d, stopV s d = (Ph.at 1, leaveL s 0 0 d 0) := fun d => by unfold stopV; rw [if_neg h1, if_pos h2]
      have HST := Lib.hid hst
      rw [h2] at c6
      clear hst
      go_enter Try.func16, Try.ntmps16
      go_wp2_with fail
      refine HL0.out.mono ?_
      rintro e w2 ⟨d, rfl, hS, hb⟩
      have HS2 := Lib.hid hS
      have HB2 := Lib.hid hb
      clear hS hb
      go_wp2_with fail
      exact bodyPost_end (v := .tuple #[]) (by simp [results, Try.results16, go_sem]) rfl ⟨d, rfl, by dsimp only; rw [HST.out]; exact HS2.out, HB2.out⟩
    · have h2' : (s.phase == 2) = false := by simpa using h2
      have hst : ∀ d, stopV s d = (Ph.at 1, leaveL s 6 2 d 0) := fun d => by unfold stopV; rw [if_neg h1, if_neg h2]
      have HST := Lib.hid hst
      clear hst
      go_enter Try.func16, Try.ntmps16
      go_wp2_with fail
      refine HL6.out.mono ?_
      rintro e w2 ⟨d, rfl, hS, hb⟩
      have HS2 := Lib.hid hS
      have HB2 := Lib.hid hb
      clear hS hb
      go_wp2_with fail
      exact bodyPost_end (v := .tuple #[]) (by simp [results, Try.results16, go_sem]) rfl ⟨d, rfl, by dsimp only; rw [HST.out]; exact HS2.out, HB2.out⟩
end Go.Proofs.Ytbacnjijfffobaa
