/- table: the document's table: find, Get, Same; Ten, one. -/
import Derived.Test.YtjimnlpmmhcdjaaI7
namespace Go.Proofs.Ytjimnlpmmhcdjaa
open Go.RowKit Go.Maps Go.Sort
set_option linter.unusedVariables false
set_option linter.unusedSimpArgs false
set_option maxRecDepth 100000

abbrev RTf : TypeId := 28
/-- The document's table at g, whose list is at q. -/
structure RtAt (w : World) (g : Nat) (q : Option Addr) (c : Nat) (L : List Dt) : Prop where
  intro ::
  blk : Blk w g RTf [.slice q L.length c]
  at_ : DtsAt w q L
  le : L.length ≤ c
  max : c ≤ maxLen
  srt : SrtD L
  ok : ∀ x ∈ L, InDt x
  ne : ∀ r off, q = some ⟨r, off, none⟩ → r ≠ g
section
variable {w w' : World} {g : Nat} {q : Option Addr} {c : Nat} {L : List Dt}
theorem RtAt.next (h : RtAt w g q c L) (hb : Below w.heap.size w w') : RtAt w' g q c L := ⟨h.blk.next hb, h.at_.below hb, h.le, h.max, h.srt, h.ok, h.ne⟩
theorem RtAt.at0 {n : Nat} (h : RtAt w g q c L) (hn : L.length = n) : w.cell? ⟨g, 0, none⟩ = some (.slice q n c) := hn ▸ h.blk.cellAt rfl
end
theorem place_lt {L : List Dt} (h : SrtD L) {p : Pf} {k : Nat} (hk : k < placeD p L) : ltN (L.getD k Dt.zero).p p := by
  have h1 : k < (L.take (placeD p L)).length := by rw [List.length_take]; have := place_le p L; omega
  have h2 : (L.take (placeD p L))[k] ∈ L.take (placeD p L) := List.getElem_mem h1
  have h3 : ∀ z ∈ L.take (placeD p L), ltN z.p p := by rw [take_place h]; intro z hz; simpa using (List.mem_filter.1 hz).2
  have hkl : k < L.length := by have := place_le p L; omega
  have h4 : (L.take (placeD p L))[k] = L.getD k Dt.zero := by rw [List.getElem_take]; simp [List.getD, hkl]
  rw [← h4]
  exact h3 _ h2
theorem place_not {L : List Dt} (h : SrtD L) {p : Pf} (hk : placeD p L < L.length) : ¬ ltN (L.getD (placeD p L) Dt.zero).p p := by
  have hc := List.drop_eq_getElem_cons hk
  have h2 : L[placeD p L] ∈ L.drop (placeD p L) := by rw [hc]; exact List.mem_cons_self
  rw [drop_place h] at h2
  have h3 := (List.mem_filter.1 h2).2
  have h4 : L.getD (placeD p L) Dt.zero = L[placeD p L] := by simp [List.getD, hk]
  rw [h4]
  simpa using h3
theorem cmp_neg (x y : Pf) : decide (cmpPf x y < 0) = decide (ltN x y) := by rw [Bool.eq_iff_iff, decide_eq_true_eq, decide_eq_true_eq]; exact cmpN_lt x y
set_option maxHeartbeats 8000000 in
theorem rfindD_any (w : World) (g : Nat) (q : Option Addr) (c : Nat) (L : List Dt) (H : RtAt w g q c L) (p : Pf) :
    Calls Try.prog 25 #[.pointer (some ⟨g, 0, none⟩), pfV p] w fun e w' => e = .returned (.tuple #[.int .i64 (placeD p L), .bool (lookD L p).isSome]) ∧ Below w.heap.size w w' := by
  obtain ⟨pa, pn⟩ := p
  have hb0 := newB w (.cells #[.int .u32 pa, .int .i64 pn] 32)
  have hX := Blk.new w 32 [.int .u32 pa, .int .i64 pn]
  obtain ⟨P, hP⟩ : ∃ P, w.heap.size = P := ⟨_, rfl⟩
  obtain ⟨V, hV⟩ : ∃ V, w.alloc (.cells #[.int .u32 pa, .int .i64 pn] 32) = V := ⟨_, rfl⟩
  rw [hV] at hb0 hX
  rw [hP] at hX
  obtain ⟨n, hn⟩ : ∃ n, L.length = n := ⟨_, rfl⟩
  obtain ⟨i, hi⟩ : ∃ i, placeD ⟨pa, pn⟩ L = i := ⟨_, rfl⟩
  have HPL := Lib.hid (fun k (hk : k < i) => show ltN (L.getD k Dt.zero).p ⟨pa, pn⟩ from place_lt H.srt (by rw [hi]; exact hk))
  have HPN := Lib.hid (fun (hk : i < n) => show ¬ ltN (L.getD i Dt.zero).p ⟨pa, pn⟩ from by have := place_not H.srt (p := ⟨pa, pn⟩) (by rw [hi, hn]; exact hk); rw [hi] at this; exact this)
  have HPI := Lib.hid (show i ≤ n from by rw [← hi, ← hn]; exact place_le _ _)
  have HIS := Lib.hid (show (lookD L ⟨pa, pn⟩).isSome = (decide (i < n) && decide ((L.getD i Dt.zero).p = ⟨pa, pn⟩)) from by rw [at_place H.srt, hi, hn])
  rw [hi]
  have HB0 := Lib.hid hb0
  have HX := Lib.hid hX
  have HH := Lib.hid (H.next hb0)
  have HN := Lib.hid hn
  have hcm := H.max
  have hcl := H.le
  rw [hn] at hcl
  unfold maxLen at hcm
  have HVE := Lib.hid hV
  have HPE := Lib.hid hP
  have HALL := Lib.hid (fun (W : World) (hW : Below V.heap.size V W) => show W.cell? ⟨g, 0, none⟩ = some (.slice q n c) ∧ W.cell? ⟨P, 0, none⟩ = some (.int .u32 pa) ∧ W.cell? ⟨P, 1, none⟩ = some (.int .i64 pn) from by
    obtain ⟨x0, x1⟩ := pf_boxes (hX.next hW)
    exact ⟨(HH.out.next hW).at0 hn, x0, x1⟩)
  clear hb0 hX hV hP hn hi H
  go_enter Try.func25, Try.ntmps25
  go_wp2_with fail
  rw [HVE.out, HPE.out]
  go_loopw [6] (fun v wr => ∃ k : Nat, k ≤ i ∧ v = .int .i64 k ∧ Below V.heap.size V wr) (fun v _ => n - (intOf v).toNat)
  case atStart => exact ⟨0, Nat.zero_le _, rfl, Below.refl _ _⟩
  case round =>
    obtain ⟨k, hk, rfl, hB⟩ := hrel
    have HB := Lib.hid hB
    obtain ⟨x0, x1, x2⟩ := HALL.out wr hB
    clear hB
    have hin := HPI.out
    by_cases hlt : k < n
    · have hltI : (k : Int) < (n : Int) := by omega
      obtain ⟨b, off, rfl, e0, e1, e2, e3, e4⟩ := dt_cell (HH.out.at_.below HB.out) HN.out hlt
      obtain ⟨y, hy⟩ : ∃ y, L.getD k Dt.zero = y := ⟨_, rfl⟩
      have HKL := Lib.hid (fun h : k < i => hy ▸ HPL.out k h)
      have HKN := Lib.hid (fun h : k = i => hy ▸ h ▸ HPN.out (by omega))
      have HISK := Lib.hid (fun h : k = i => show (lookD L ⟨pa, pn⟩).isSome = decide (y.p = ⟨pa, pn⟩) from by rw [HIS.out, ← h, hy, decide_eq_true hlt, Bool.true_and])
      rw [hy] at e1 e2
      clear e0 e3 e4 hy
      obtain ⟨y0, ⟨y1, y2⟩, y3, y4⟩ := y
      dsimp only at e1 e2
      dsimp only at HKL HKN HISK
      have hS : wr.drew.cell? ⟨g, 0, none⟩ = some (.slice (some ⟨b, off, none⟩) n c) ∧ wr.drew.cell? ⟨P, 0, none⟩ = some (.int .u32 pa) ∧ wr.drew.cell? ⟨P, 1, none⟩ = some (.int .i64 pn) ∧ wr.drew.cell? ⟨b, off + k * 5 + 1, none⟩ = some (.int .u32 y1) ∧ wr.drew.cell? ⟨b, off + k * 5 + 2, none⟩ = some (.int .i64 y2) := ⟨x0, x1, x2, e1, e2⟩
      obtain ⟨v, hv⟩ : ∃ v, cmpP y1 y2 pa pn = v := ⟨_, rfl⟩
      have HCM := Lib.hid (fun u => rcompare_any y1 y2 pa pn u)
      rw [hv] at HCM
      have hvl : decide (v < 0) = decide (ltN ⟨y1, y2⟩ ⟨pa, pn⟩) := by rw [← hv]; exact cmp_neg ⟨y1, y2⟩ ⟨pa, pn⟩
      clear hv
      rcases Nat.lt_or_ge k i with hki | hki
      · have t1 : decide (v < 0) = true := by rw [hvl, decide_eq_true_eq]; exact HKL.out hki
        clear hvl
        have HKI := Lib.hid hki
        go_wp2_with fail
        go_region_held_law (fun W => W.cell? ⟨g, 0, none⟩ = some (.slice (some ⟨b, off, none⟩) n c) ∧ W.cell? ⟨P, 0, none⟩ = some (.int .u32 pa) ∧ W.cell? ⟨P, 1, none⟩ = some (.int .i64 pn) ∧ W.cell? ⟨b, off + k * 5 + 1, none⟩ = some (.int .u32 y1) ∧ W.cell? ⟨b, off + k * 5 + 2, none⟩ = some (.int .i64 y2)) (with_reducible assumption) (first | (go_at_call 31; refine (HCM.out _).mono ?_; rintro e u ⟨rfl, hu⟩; have HU := Lib.hid hu; have hS2 : u.cell? ⟨g, 0, none⟩ = some (.slice (some ⟨b, off, none⟩) n c) ∧ u.cell? ⟨P, 0, none⟩ = some (.int .u32 pa) ∧ u.cell? ⟨P, 1, none⟩ = some (.int .i64 pn) ∧ u.cell? ⟨b, off + k * 5 + 1, none⟩ = some (.int .u32 y1) ∧ u.cell? ⟨b, off + k * 5 + 2, none⟩ = some (.int .i64 y2) := ⟨kept hu hS.1, kept hu hS.2.1, kept hu hS.2.2.1, kept hu hS.2.2.2.1, kept hu hS.2.2.2.2⟩))
        all_goals
          go_wp2_with fail
          go_roundw
          case rel => exact ⟨k + 1, by omega, by go_num, HB.out.trans ((Below.refl wr.heap.size wr).drew.trans HU.out |>.mono HB.out.size)⟩
          case measure => simp [intOf]; omega
      · obtain rfl : k = i := by omega
        have t1 : decide (v < 0) = false := by rw [hvl, decide_eq_false_iff_not]; exact HKN.out rfl
        have HIS2 := Lib.hid (HISK.out rfl)
        have hpq := pfx_eql y1 y2 pa pn
        have hpg := pfx_eqGuard
        have HEQ := Lib.hid (show (y1 == pa && y2 == pn) = decide ((⟨y1, y2⟩ : Pf) = ⟨pa, pn⟩) from by rw [Bool.eq_iff_iff, decide_eq_true_eq]; simp)
        clear hvl
        go_wp2_with fail
        go_region_held_law (fun W => W.cell? ⟨g, 0, none⟩ = some (.slice (some ⟨b, off, none⟩) n c) ∧ W.cell? ⟨P, 0, none⟩ = some (.int .u32 pa) ∧ W.cell? ⟨P, 1, none⟩ = some (.int .i64 pn) ∧ W.cell? ⟨b, off + k * 5 + 1, none⟩ = some (.int .u32 y1) ∧ W.cell? ⟨b, off + k * 5 + 2, none⟩ = some (.int .i64 y2)) (with_reducible assumption) (first | (go_at_call 31; refine (HCM.out _).mono ?_; rintro e u ⟨rfl, hu⟩; have HU := Lib.hid hu; have hS2 : u.cell? ⟨g, 0, none⟩ = some (.slice (some ⟨b, off, none⟩) n c) ∧ u.cell? ⟨P, 0, none⟩ = some (.int .u32 pa) ∧ u.cell? ⟨P, 1, none⟩ = some (.int .i64 pn) ∧ u.cell? ⟨b, off + k * 5 + 1, none⟩ = some (.int .u32 y1) ∧ u.cell? ⟨b, off + k * 5 + 2, none⟩ = some (.int .i64 y2) := ⟨kept hu hS.1, kept hu hS.2.1, kept hu hS.2.2.1, kept hu hS.2.2.2.1, kept hu hS.2.2.2.2⟩))
        all_goals
          obtain ⟨u0, u1, u2, u3, u4⟩ := hS2
          have HB2 := Lib.hid (HB.out.trans ((Below.refl wr.heap.size wr).drew.trans HU.out |>.mono HB.out.size))
          have hS3 : u.drew.cell? ⟨g, 0, none⟩ = some (.slice (some ⟨b, off, none⟩) n c) ∧ u.drew.cell? ⟨P, 0, none⟩ = some (.int .u32 pa) ∧ u.drew.cell? ⟨P, 1, none⟩ = some (.int .i64 pn) ∧ u.drew.cell? ⟨b, off + k * 5 + 1, none⟩ = some (.int .u32 y1) ∧ u.drew.cell? ⟨b, off + k * 5 + 2, none⟩ = some (.int .i64 y2) := ⟨u0, u1, u2, u3, u4⟩
          clear hS x0 x1 x2 e1 e2
          go_wp2_with fail
          go_region_held_law (fun W => W.cell? ⟨g, 0, none⟩ = some (.slice (some ⟨b, off, none⟩) n c) ∧ W.cell? ⟨P, 0, none⟩ = some (.int .u32 pa) ∧ W.cell? ⟨P, 1, none⟩ = some (.int .i64 pn) ∧ W.cell? ⟨b, off + k * 5 + 1, none⟩ = some (.int .u32 y1) ∧ W.cell? ⟨b, off + k * 5 + 2, none⟩ = some (.int .i64 y2)) (with_reducible assumption) (fail)
          all_goals
            go_wp2_with fail
            exact bodyPost_ret (v := .tuple #[.int .i64 k, .bool (y1 == pa && y2 == pn)]) (by simp [results, Try.results25, go_sem]) rfl ⟨by rw [HIS2.out, HEQ.out], HB0.out.trans (HB2.out.drew.mono HB0.out.size)⟩
    · obtain rfl : k = n := by omega
      obtain rfl : k = i := by omega
      have HIS2 := Lib.hid (show (lookD L ⟨pa, pn⟩).isSome = false from by rw [HIS.out, decide_eq_false (Nat.lt_irrefl k)]; rfl)
      have X0 : wr.drew.cell? ⟨g, 0, none⟩ = some (.slice q k c) := x0
      have X1 : wr.drew.drew.cell? ⟨g, 0, none⟩ = some (.slice q k c) := x0
      go_wp2_with fail
      go_quiet (fail)
      go_wp2_with fail
      go_quiet (fail)
      all_goals
        go_wp2_with fail
        exact bodyPost_ret (v := .tuple #[.int .i64 k, .bool false]) (by simp [results, Try.results25, go_sem]) rfl ⟨by rw [HIS2.out], HB0.out.trans ((HB.out.trans ((below_dN _ _ _).trans (below_dN _ _ _))).mono HB0.out.size)⟩
end Go.Proofs.Ytjimnlpmmhcdjaa
