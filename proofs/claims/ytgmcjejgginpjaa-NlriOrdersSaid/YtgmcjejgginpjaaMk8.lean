/- nlri: what must come of every program: the walk. -/
import Derived.Test.YtgmcjejgginpjaaMk7
namespace Go.Proofs.Ytgmcjejgginpjaa
open Go.RowKit

def LvS (g bs os : Nat) (q1 : Option Addr) (c1 : Nat) (u : World) : Prop :=
  u.cell? ⟨g, 0, none⟩ = some (.int .i64 5) ∧ u.cell? ⟨g, 1, none⟩ = some (.int .u32 167772160) ∧ u.cell? ⟨g, 2, none⟩ = some (.int .i64 8) ∧ u.cell? ⟨g, 3, none⟩ = some (.int .i64 0) ∧ u.cell? ⟨g, 4, none⟩ = some (.int .u32 0) ∧ u.cell? ⟨g, 5, none⟩ = some (.int .i64 0) ∧ u.cell? ⟨bs, os, none⟩ = some (.int .i64 0) ∧ u.cell? ⟨bs, os + 1, none⟩ = some (.int .u32 0) ∧ u.cell? ⟨bs, os + 2, none⟩ = some (.int .i64 0) ∧ (convert 24 9 (.slice q1 11 c1)).run Try.prog u = .ok (.string ⟨#[0, 0, 0, 5, 8, 10, 0, 0, 0, 0, 0]⟩) u
theorem lvS_next {g bs os c1 B : Nat} {q1 : Option Addr} {w u : World} (h : LvS g bs os q1 c1 w) (ho : Own w B q1 c1 twoB) (hb : Below w.heap.size w u) : LvS g bs os q1 c1 u := by
  obtain ⟨h0, h1, h2, h3, h4, h5, h6, h7, h8, _⟩ := h
  exact ⟨kept hb h0, kept hb h1, kept hb h2, kept hb h3, kept hb h4, kept hb h5, kept hb h6, kept hb h7, kept hb h8, two_text ▸ run_text (ho.below hb).bytes c1⟩
theorem two_err : errNls twoL true = 0 := by decide +kernel
theorem at_alloc {w w5 : World} {o : Obj} {l : List Nl} (h : NlsAt w5 (some ⟨(w.alloc o).heap.size, 0, none⟩) l) : NlsAt w5 (some ⟨w.heap.size + 1, 0, none⟩) l := by
  rwa [sz_alloc] at h
set_option maxRecDepth 100000 in
set_option maxHeartbeats 8000000 in
theorem lives06_any (w : World) : Calls Try.prog 8 #[] w fun e w' => e = .returned (.bool true) ∧ Below w.heap.size w w' := by
  obtain ⟨V, hV⟩ : ∃ V, (w.alloc (.cells #[.int .u32 167772160, .int .i64 8] 39)).alloc (.cells #[.int .i64 5, .int .u32 167772160, .int .i64 8, .int .i64 0, .int .u32 0, .int .i64 0] 41) = V := ⟨_, rfl⟩
  have hbV : Below w.heap.size w V := by rw [← hV]; exact two_below _ _ _
  have hK : Blk V (w.heap.size + 1) 41 [.int .i64 5, .int .u32 167772160, .int .i64 8, .int .i64 0, .int .u32 0, .int .i64 0] := by
    rw [← hV, ← sz_alloc w (.cells #[.int .u32 167772160, .int .i64 8] 39)]
    exact Blk.new _ 41 [.int .i64 5, .int .u32 167772160, .int .i64 8, .int .i64 0, .int .u32 0, .int .i64 0]
  have HB := Lib.hid hbV
  have HL := Lib.hid (lit_two V _ hK)
  have HV := Lib.hid hV
  have hsz : w.heap.size + 1 < V.heap.size := hK.lt
  have HP := Lib.hid (putNl_ok (some ⟨w.heap.size + 1, 0, none⟩) twoL 2 2 true V HL.out rfl two_ok.1)
  rw [two_put, show twoB.length = 11 from rfl] at HP
  clear hV hbV hK
  go_enter Try.func8, Try.ntmps8
  go_wp2_with fail
  rw [HV.out]
  refine HP.out.mono ?_; rintro e w1 ⟨q1, c1, rfl, hO, hb⟩
  have HB1 := Lib.hid (HB.out.trans (hb.mono HB.out.size))
  have HL1 := Lib.hid (HL.out.below hb)
  have O1 := Lib.hid hO
  have HG := Lib.hid (getNl_any q1 twoB 11 c1 true w1 hO.bytes rfl hO.le hO.max)
  rw [two_get] at HG
  clear hO hb HP HB HL HV hsz
  go_wp2_with fail
  refine HG.out.mono ?_; rintro e w2 ⟨q2, c2, rfl, hO, hb⟩
  have HB2 := Lib.hid (HB1.out.trans (hb.mono HB1.out.size))
  have HL2 := Lib.hid (HL1.out.below hb)
  have O2 := Lib.hid (O1.out.below hb)
  have N2 := Lib.hid hO.at
  have HP := Lib.hid (putNl_no (some ⟨w.heap.size + 1, 0, none⟩) twoL 2 2 false w2 HL2.out rfl (by unfold maxLen; omega) two_ok.2)
  rw [show twoL.length = 2 from rfl]
  clear hO hb HG HB1 HL1 O1
  go_wp2_with fail
  refine HP.out.mono ?_; rintro e w3 ⟨rfl, hb⟩
  have hb3 := hb.trans (newB w3 (.cells #[.int .u8 33] 5) |>.mono hb.size)
  have HB3 := Lib.hid (HB2.out.trans (hb3.mono HB2.out.size))
  have HL3 := Lib.hid (HL2.out.below hb3)
  have O3 := Lib.hid (O2.out.below hb3)
  have N3 := Lib.hid (N2.out.below hb3)
  have HG := Lib.hid (getNl_any (some ⟨w3.heap.size, 0, none⟩) [33] 1 1 false _ (one_byte w3 33 (by omega) (by omega)) rfl (Nat.le_refl _) (by unfold maxLen; omega))
  rw [bad_get] at HG
  clear hb hb3 HP HB2 HL2 O2 N2
  go_wp2_with fail
  refine HG.out.mono ?_; rintro e w4 ⟨rfl, hb⟩
  have HB4 := Lib.hid (HB3.out.trans (hb.mono HB3.out.size))
  have HL4 := Lib.hid (HL3.out.below hb)
  have O4 := Lib.hid (O3.out.below hb)
  have N4 := Lib.hid (N3.out.below hb)
  clear hb HG HB3 HL3 O3 N3
  obtain ⟨bl, off, hp, ⟨d0, d1, d2⟩, _⟩ := two_cells HL4.out
  obtain ⟨rfl, rfl⟩ : w.heap.size + 1 = bl ∧ 0 = off := by simpa using hp
  have hA := newB w4 (.cells #[.int .i64 5, .int .u32 167772160, .int .i64 8] 41)
  have HA := Lib.hid hA
  have HXL := Lib.hid (HL4.out.below hA)
  have HXN := Lib.hid (Blk.new w4 41 (nlC ⟨5, 167772160, 8⟩))
  clear hA hp
  go_wp2_with (at_builtin; refine wpList_appFullN (o := ⟨some 43, _, _, _, _, _⟩) (by rfl) (.tmp 38) (.tmp 42) (by rfl) (some ⟨w.heap.size + 1, 0, none⟩) twoL 2 HXL.out rfl (by omega) (by omega) (by rfl) w4.heap.size ⟨5, 167772160, 8⟩ (by unfold InAddr; decide) (by rfl) HXN.out ?_; intro C5 w5 hN5 hB5; have HS := Lib.hid (sortNl_any _ 3 C5 _ w5 (at_alloc hN5.out) rfl three_okN (by omega)); have hb5 := HA.out.trans (hB5.out.mono HA.out.size); have HB5 := Lib.hid (HB4.out.trans (hb5.mono HB4.out.size)); have HL5 := Lib.hid (HL4.out.below hb5); have O5 := Lib.hid (O4.out.below hb5); have N5 := Lib.hid (N4.out.below hb5); clear hN5 hB5 hb5)
  refine HS.out.mono ?_; rintro e w6 ⟨q6, k6, c6, ss, rfl, hk6, hs6, hb⟩
  have hss := three_sorted hs6.srt hs6.mem
  subst hss
  obtain rfl : 2 = k6 := hk6
  have HB6 := Lib.hid (HB5.out.trans (hb.mono HB5.out.size))
  have HL6 := Lib.hid (HL5.out.below hb)
  have O6 := Lib.hid (O5.out.below hb)
  have N6 := Lib.hid (N5.out.below hb)
  have S6 := Lib.hid hs6.at_
  clear hb hs6 HS HB4 HL4 O4 N4 HB5 HL5 O5 N5 HA HXL HXN d0 d1 d2
  go_wp2_with fail
  obtain ⟨bl, off, hp, ⟨d0, d1, d2⟩, d3, d4, d5⟩ := two_cells HL6.out
  obtain ⟨rfl, rfl⟩ : w.heap.size + 1 = bl ∧ 0 = off := by simpa using hp
  obtain ⟨bs, os, rfl, ⟨s0, s1, s2⟩, _⟩ := two_cells S6.out
  have HC := Lib.hid (show LvS (w.heap.size + 1) bs os q1 c1 w6 from ⟨d0, d1, d2, d3, d4, d5, s0, s1, s2, two_text ▸ run_text O6.out.bytes c1⟩)
  have HSV := Lib.hid (fun (u : World) (hu : Below w6.heap.size w6 u) => lvS_next HC.out O6.out hu)
  have hS : w6.drew.cell? ⟨w.heap.size + 1, 0, none⟩ = some (.int .i64 5) ∧ w6.drew.cell? ⟨w.heap.size + 1, 1, none⟩ = some (.int .u32 167772160) ∧ w6.drew.cell? ⟨w.heap.size + 1, 2, none⟩ = some (.int .i64 8) ∧ w6.drew.cell? ⟨w.heap.size + 1, 3, none⟩ = some (.int .i64 0) ∧ w6.drew.cell? ⟨w.heap.size + 1, 4, none⟩ = some (.int .u32 0) ∧ w6.drew.cell? ⟨w.heap.size + 1, 5, none⟩ = some (.int .i64 0) ∧ w6.drew.cell? ⟨bs, os, none⟩ = some (.int .i64 0) ∧ w6.drew.cell? ⟨bs, os + 1, none⟩ = some (.int .u32 0) ∧ w6.drew.cell? ⟨bs, os + 2, none⟩ = some (.int .i64 0) ∧ (convert 24 9 (.slice q1 11 c1)).run Try.prog w6.drew = .ok (.string ⟨#[0, 0, 0, 5, 8, 10, 0, 0, 0, 0, 0]⟩) w6.drew := HSV.out _ (Below.refl _ _).drew
  have HL7 := Lib.hid (fun (u : World) (hu : Below w6.heap.size w6 u) => HL6.out.below hu)
  have HN7 := Lib.hid (fun (u : World) (hu : Below w6.heap.size w6 u) => N6.out.below hu)
  have P1 := Lib.hid (rsameNl_yes (some ⟨w.heap.size + 1, 0, none⟩) q2 twoL 2 2 c2 w6.drew (HL7.out _ (Below.refl _ _).drew) (HN7.out _ (Below.refl _ _).drew) rfl (by unfold maxLen; omega))
  have hqe := nl_eql
  have hge := nl_eqGuard
  clear d0 d1 d2 d3 d4 d5 s0 s1 s2 hp
  go_region_held_law (fun w' => w'.cell? ⟨w.heap.size + 1, 0, none⟩ = some (.int .i64 5) ∧ w'.cell? ⟨w.heap.size + 1, 1, none⟩ = some (.int .u32 167772160) ∧ w'.cell? ⟨w.heap.size + 1, 2, none⟩ = some (.int .i64 8) ∧ w'.cell? ⟨w.heap.size + 1, 3, none⟩ = some (.int .i64 0) ∧ w'.cell? ⟨w.heap.size + 1, 4, none⟩ = some (.int .u32 0) ∧ w'.cell? ⟨w.heap.size + 1, 5, none⟩ = some (.int .i64 0) ∧ w'.cell? ⟨bs, os, none⟩ = some (.int .i64 0) ∧ w'.cell? ⟨bs, os + 1, none⟩ = some (.int .u32 0) ∧ w'.cell? ⟨bs, os + 2, none⟩ = some (.int .i64 0) ∧ (convert 24 9 (.slice q1 11 c1)).run Try.prog w' = .ok (.string ⟨#[0, 0, 0, 5, 8, 10, 0, 0, 0, 0, 0]⟩) w') (with_reducible assumption) (first
    | (go_at_call 14; refine P1.out.mono ?_; rintro e w7 ⟨rfl, hb7⟩; have h7 := (Below.refl w6.heap.size w6).drew.trans hb7; have hS7 := HSV.out w7 h7; unfold LvS at hS7; have P2 := Lib.hid (sizeNl_any 5 167772160 8 true w7 (by unfold InAddr; decide)); rw [two_size] at P2)
    | (go_at_call 20; refine P2.out.mono ?_; rintro e w8 ⟨rfl, hb8⟩; have h8 := h7.trans (hb8.mono h7.size); have hS8 := HSV.out w8 h8; unfold LvS at hS8; have P3 := Lib.hid (compareNl_any 5 167772160 8 0 0 0 w8); rw [two_cmp] at P3)
    | (go_at_call 18; refine P3.out.mono ?_; rintro e w9 ⟨rfl, hb9⟩; have h9 := h8.trans (hb9.mono h8.size); have hS9 := HSV.out w9 h9; unfold LvS at hS9; have P4 := Lib.hid (checkNl_any (some ⟨w.heap.size + 1, 0, none⟩) twoL 2 2 true w9 (HL7.out w9 h9) rfl (by unfold maxLen; omega)); rw [two_err] at P4)
    | (go_at_call 11; refine P4.out.mono ?_; rintro e w10 ⟨rfl, hb10⟩; have h10 := h9.trans (hb10.mono h9.size); have hS10 := HSV.out w10 h10; unfold LvS at hS10))
  all_goals trace_state
  all_goals go_wp2_with fail
  all_goals go_ret
  all_goals exact ⟨rfl, HB6.out.trans (h10.mono HB6.out.size)⟩
end Go.Proofs.Ytgmcjejgginpjaa
