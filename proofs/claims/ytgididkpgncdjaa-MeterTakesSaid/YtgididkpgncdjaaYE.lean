/- MeterTakes' walk. -/
import Derived.Test.YtgididkpgncdjaaYD
namespace Go.Proofs.Ytgididkpgncdjaa
open Go.RowKit Go.Maps
set_option linter.unusedVariables false
set_option linter.unusedSimpArgs false
set_option maxRecDepth 100000

theorem rm_zero : Try.zeroCells36 = (rmC fun _ => Lz.zero).toArray := by kernel_rfl
theorem pf_box {w : World} {g : Nat} {T : TypeId} {a n : Int} (H : Blk w g T [.int .u32 a, .int .i64 n]) : w.cell? ⟨g, 0, none⟩ = some (.int .u32 a) ∧ w.cell? ⟨g, 1, none⟩ = some (.int .i64 n) := ⟨H.cell 0 (by simp), H.cell 1 (by simp)⟩
set_option maxHeartbeats 16000000 in
theorem takes_walk (w : World) (q : Option Addr) (os : List Qt) (m9 d : Nat) (ho : LAt qtC (fun _ => True) Qt.zero 4 w q os) (hoo : ∀ o ∈ os, QtAt w o) (hmo : os.length = m9) (hmm : m9 ≤ maxLen) (p : Pf) (hp : InPf p) :
    Calls Try.prog 3 #[.slice q m9 d, .agg #[.int .u32 p.a, .int .i64 p.n]] w fun e w' => e = .returned (.bool true) ∧ Below w.heap.size w w' := by
  obtain ⟨pa, pn⟩ := p
  dsimp only
  have HPI := Lib.hid hp
  have HO := Lib.hid ho
  have HOO := Lib.hid hoo
  have HMO := Lib.hid hmo
  have hb := newB w (.cells #[.int .u32 pa, .int .i64 pn] 25)
  have hx := Blk.new w 25 [.int .u32 pa, .int .i64 pn]
  obtain ⟨S, hS⟩ : ∃ S, w.heap.size = S := ⟨_, rfl⟩
  obtain ⟨U, hU⟩ : ∃ U, w.alloc (.cells #[.int .u32 pa, .int .i64 pn] 25) = U := ⟨_, rfl⟩
  rw [hU] at hb hx
  rw [hS] at hx
  have HU := Lib.hid hU
  have HSE := Lib.hid hS
  have HX := Lib.hid hx
  have HLV := Lib.hid (fun u => lives17_any u)
  have HNEW := Lib.hid (lm_new w U hb)
  unfold maxLen at hmm
  clear hb hx hU hS ho hoo hmo hp
  go_enter Try.func3, Try.ntmps3
  go_wp2_with fail
  rw [HU.out, HSE.out]
  refine HNEW.out.mono ?_
  rintro e U1 ⟨m, b, rfl, hl, hb, hbb⟩
  have HX := Lib.hid (HX.out.next hb)
  have HL := Lib.hid hl
  clear hl hb hbb HNEW
  go_wp2_with fail
  have hbx := Blk.new U1 36 (rmC fun _ => Lz.zero)
  have hb2 := newB U1 (.cells Try.zeroCells36 36)
  rw [← rm_zero] at hbx
  obtain ⟨x, hx⟩ : ∃ x, U1.heap.size = x := ⟨_, rfl⟩
  obtain ⟨U2, hU2⟩ : ∃ W, U1.alloc (.cells Try.zeroCells36 36) = W := ⟨_, rfl⟩
  rw [hU2] at hbx hb2 ⊢
  rw [hx] at hbx ⊢
  have HX := Lib.hid (HX.out.next hb2)
  have HR := Lib.hid (rm_new hbx (by have := HL.out.2.size; omega) (HL.out.next hb2).2)
  have HL := Lib.hid (HL.out.next hb2)
  have HSX := Lib.hid (show S ≠ x from fun e => by
    have h1 := Blk.type (HX.out.of_same rfl) (e ▸ hbx)
    revert h1
    decide)
  have HSB := Lib.hid (show S ≠ b from fun e => by
    obtain ⟨⟨P, h⟩, _⟩ := HL.out
    have h1 := Blk.type HX.out (e ▸ h.blk)
    revert h1
    decide)
  clear hbx hb2 hx hU2
  refine (HLV.out _).mono ?_
  rintro e U3 ⟨rfl, hb⟩
  have HX := Lib.hid (HX.out.next hb)
  have HL := Lib.hid (HL.out.next hb)
  have HR := Lib.hid (HR.out.next hb)
  clear hb
  go_wp2_with fail
  go_loopw [7] (fun iv wr => ∃ (i : Nat) (V : Nat → Mv) (Z : Nat → Lz), i ≤ m9 ∧ i ≤ 40 ∧ iv = .int .i64 i ∧ Lm w wr m b V ∧ Rm w wr x Z V ∧ Blk wr S 25 [.int .u32 pa, .int .i64 pn]) (fun iv _ => m9 - (intOf iv).toNat)
  case atStart => exact ⟨0, V0, _, Nat.zero_le _, Nat.zero_le _, rfl, HL.out, HR.out, HX.out⟩
  case round =>
    obtain ⟨i, V, Z, hi, hi4, rfl, hlm, hrm, hblk⟩ := hrel
    have HL := Lib.hid hlm
    have HR := Lib.hid hrm
    have HX := Lib.hid hblk
    clear hlm hrm hblk
    by_cases hlt : i < m9
    · have hlt' : (i : Int) < (m9 : Int) := by omega
      have tA : decide ((i : Int) < (m9 : Int)) = true := decide_eq_true hlt'
      have i0 : (0 : Int) ≤ (i : Int) := by omega
      by_cases h40 : i < 40
      · have tB : decide ((i : Int) < 40) = true := decide_eq_true (by omega)
        obtain ⟨b', off, rfl, hc⟩ := HO.out.cell HMO.out hlt
        have hoi := HOO.out (os.getD i Qt.zero) (by simp [List.getD, show i < os.length by rw [HMO.out]; exact hlt])
        obtain ⟨o, ho⟩ : ∃ o, os.getD i Qt.zero = o := ⟨_, rfl⟩
        rw [ho] at hc hoi
        obtain ⟨os_, oq, op, oL, oc, onow⟩ := o
        have hof := hoi.at_
        have hom : oL.length ≤ maxLen := Nat.le_trans hoi.le hoi.max
        dsimp only at hof hom
        obtain ⟨oN, hoN⟩ : ∃ N, oL.length = N := ⟨_, rfl⟩
        have e0 : w.cell? ⟨b', off + i * 4, none⟩ = some (.int .i64 os_) := hc 0 _ rfl
        have e1 : w.cell? ⟨b', off + i * 4 + 1, none⟩ = some (.int .i64 oq) := hc 1 _ rfl
        have e2 : w.cell? ⟨b', off + i * 4 + 2, none⟩ = some (.slice op oL.length oc) := hc 2 _ rfl
        have e3 : w.cell? ⟨b', off + i * 4 + 3, none⟩ = some (.int .i64 onow) := hc 3 _ rfl
        rw [hoN] at e2 hom
        have HCC := Lib.hid (fun (u : World) (hu : Below w.heap.size w u) => show u.cell? ⟨b', off + i * 4, none⟩ = some (.int .i64 os_) ∧ u.cell? ⟨b', off + i * 4 + 1, none⟩ = some (.int .i64 oq) ∧ u.cell? ⟨b', off + i * 4 + 2, none⟩ = some (.slice op oN oc) ∧ u.cell? ⟨b', off + i * 4 + 3, none⟩ = some (.int .i64 onow) from ⟨kept hu e0, kept hu e1, kept hu e2, kept hu e3⟩)
        have HOF := Lib.hid hof
        have HON := Lib.hid hoN
        have HOM := Lib.hid hom
        obtain ⟨y0, y1, y2, y3⟩ := HCC.out wr HL.out.2
        clear hc ho hoi hof hom hoN e0 e1 e2 e3
        by_cases h1 : oN ≤ 60
        rotate_left
        · have t0 : decide ((60 : Int) < (oN : Int)) = true := decide_eq_true (by omega)
          go_wp2_with fail
          go_roundw
          case rel => exact ⟨i + 1, V, Z, by omega, by omega, by go_num, HL.out, HR.out, HX.out⟩
          case measure => simp [intOf]; omega
        have t0 : decide ((60 : Int) < (oN : Int)) = false := decide_eq_false (by omega)
        obtain ⟨okr, hokr⟩ : ∃ o, okRep os_ oq oL = o := ⟨_, rfl⟩
        have HRC := Lib.hid (fun (u : World) (hu : Below w.heap.size w u) => rmcheck_any os_ oq op oL oN oc u (HOF.out.below hu) HON.out HOM.out)
        have HMC := Lib.hid (fun (u : World) (hu : Below w.heap.size w u) => mcheck_any os_ oq op oL oN oc u (HOF.out.below hu) HON.out HOM.out)
        rw [hokr] at HRC HMC
        have HTA := Lib.hid (fun (W : World) (hL : Lm w W m b V) => hL.take os_ oq op oL oN oc (HOF.out.below hL.2) HON.out HOM.out onow)
        have HTB := Lib.hid (fun (W : World) (hR : Rm w W x Z V) => hR.take os_ oq op oL oN oc HOF.out HON.out HOM.out onow)
        obtain ⟨E, hE⟩ : ∃ e, takeE V os_ oq oL onow = e := ⟨_, rfl⟩
        obtain ⟨V', hV'⟩ : ∃ v, takeV V os_ oq oL onow = v := ⟨_, rfl⟩
        rw [hE, hV'] at HTA HTB
        clear hokr hE hV'
        go_wp2_with fail
        refine (HRC.out _ HL.out.2).mono ?_
        rintro e W1 ⟨rfl, hb⟩
        have HL := Lib.hid (HL.out.next hb)
        have HR := Lib.hid (HR.out.next hb)
        have HX := Lib.hid (HX.out.next hb)
        clear hb y0 y1 y2 y3
        have HMC1 := Lib.hid (HMC.out _ (HL.out.next ((Below.refl _ W1).drew)).2)
        have HLD := Lib.hid (HL.out.next ((Below.refl _ W1).drew))
        have HRD := Lib.hid (HR.out.next ((Below.refl _ W1).drew))
        have HXD := Lib.hid (HX.out.next ((Below.refl _ W1).drew))
        have hS := HCC.out W1.drew HLD.out.2
        have tE : (E != E) = false := by simp
        rcases okr with _ | _
        all_goals
          clear HRC HMC
          go_wp2_with fail
          go_region_held_law (fun W => W.cell? ⟨b', off + i * 4, none⟩ = some (.int .i64 os_) ∧ W.cell? ⟨b', off + i * 4 + 1, none⟩ = some (.int .i64 oq) ∧ W.cell? ⟨b', off + i * 4 + 2, none⟩ = some (.slice op oN oc) ∧ W.cell? ⟨b', off + i * 4 + 3, none⟩ = some (.int .i64 onow)) (with_reducible assumption) (first
            | (go_at_call 11; (with_reducible refine HMC1.out.mono ?_); rintro e v1 ⟨rfl, hb⟩; have HL1 := Lib.hid (HLD.out.next hb); have HR1 := Lib.hid (HRD.out.next hb); have HX1 := Lib.hid (HXD.out.next hb); have hS := HCC.out _ HL1.out.2; clear hb)
            | (go_at_call 12; (with_reducible refine (HTA.out _ HL1.out).mono ?_); rintro e v2 ⟨rfl, hT, hl⟩; have HR2 := Lib.hid (HR1.out.other hT (HL1.out.nex HR1.out.blk).2 hl.2); have HL2 := Lib.hid hl; have HX2 := Lib.hid (HX1.out.of_same (hT.block S HX1.out.lt HSB.out)); have hS := HCC.out _ HL2.out.2; clear hT hl)
            | (go_at_call 13; (with_reducible refine (HTB.out _ HR2.out).mono ?_); rintro e v3 ⟨rfl, hT, Z', hr⟩; have HL3 := Lib.hid (HL2.out.foreign HR2.out.blk HR2.out.lo hT); have HR3 := Lib.hid hr; have HX3 := Lib.hid (HX2.out.of_same (hT.block S HX2.out.lt HSX.out)); have hS := HCC.out _ HL3.out.2; clear hT hr))
          all_goals
            clear hS HMC1 HTA HTB tE
            obtain ⟨y0, y1, y2, y3⟩ := HCC.out _ HL3.out.2
            have HST := Lib.hid (HL3.out.stamp os_)
            have HRS := Lib.hid (fun (u : World) (hu : Rm w u x Z' V') => hu.stamp os_)
            obtain ⟨⟨sa, sh⟩, hst⟩ : ∃ s, stampV V' os_ = s := ⟨_, rfl⟩
            rw [hst] at HST HRS
            have HST := Lib.hid HST.out
            have HRS := Lib.hid HRS.out
            clear hst
            go_wp2_with fail
            refine HST.out.mono ?_
            rintro e W4 ⟨rfl, hb⟩
            have HL4 := Lib.hid (HL3.out.next hb)
            have HR4 := Lib.hid (HR3.out.next hb)
            have HX4 := Lib.hid (HX3.out.next hb)
            clear hb y0 y1 y2 y3 HST
            obtain ⟨y0, y1, y2, y3⟩ := HCC.out _ HL4.out.2
            go_wp2_with fail
            refine (HRS.out _ HR4.out).mono ?_
            rintro e W5 ⟨rfl, rfl⟩
            clear y0 y1 y2 y3 HRS
            have HPF := Lib.hid (fun (u : World) (hu : Below W4.heap.size W4 u) => show u.cell? ⟨S, 0, none⟩ = some (.int .u32 pa) ∧ u.cell? ⟨S, 1, none⟩ = some (.int .i64 pn) from pf_box (HX4.out.next hu))
            have BB : Hid (Below W4.heap.size W4 W4.drew) := Lib.hid (Below.refl _ _).drew
            have hS := HPF.out _ BB.out
            have HDM := Lib.hid (fun (u : World) (hu : Below W4.heap.size W4 u) => show Calls Try.prog 16 #[.pointer (some ⟨m, 0, none⟩), .agg #[.int .u32 pa, .int .i64 pn]] u fun e w' => e = .returned (.int .i64 (demV V' ⟨pa, pn⟩)) ∧ Below u.heap.size u w' from (HL4.out.next hu).demand ⟨pa, pn⟩ HPI.out)
            have HDR := Lib.hid (fun (u : World) (hu : Below W4.heap.size W4 u) => show Calls Try.prog 17 #[.pointer (some ⟨x, 0, none⟩), .agg #[.int .u32 pa, .int .i64 pn]] u fun e w' => e = .returned (.int .i64 (demV V' ⟨pa, pn⟩)) ∧ Below u.heap.size u w' from (HR4.out.next hu).demand ⟨pa, pn⟩)
            obtain ⟨D, hD⟩ : ∃ d, demV V' ⟨pa, pn⟩ = d := ⟨_, rfl⟩
            rw [hD] at HDM HDR
            have HOM2 := Lib.hid (fun (u : World) (hu : Below W4.heap.size W4 u) => (HL4.out.next hu).over)
            have HOR := Lib.hid (fun (u : World) (hu : Below W4.heap.size W4 u) => (HR4.out.next hu).over)
            obtain ⟨O, hO⟩ : ∃ d, overV V' = d := ⟨_, rfl⟩
            rw [hO] at HOM2 HOR
            have HSM := Lib.hid (fun (u : World) (hu : Below W4.heap.size W4 u) => (HL4.out.next hu).demands)
            have HSR := Lib.hid (fun (u : World) (hu : Below W4.heap.size W4 u) => (HR4.out.next hu).demands)
            have n1 : (sa != sa) = false := by simp
            have n2 : (sh != sh) = false := by simp
            have n3 : (D != D) = false := by simp
            have n4 : (O != O) = false := by simp
            clear hD hO
            go_wp2_with fail
            go_region_held_law (fun W => W.cell? ⟨S, 0, none⟩ = some (.int .u32 pa) ∧ W.cell? ⟨S, 1, none⟩ = some (.int .i64 pn)) (with_reducible assumption) (first
              | (go_at_call 16; (with_reducible refine (HDM.out _ BB.out).mono ?_); rintro e v ⟨rfl, hb⟩; have BB := Lib.hid (BB.out.trans (hb.mono BB.out.size)); have hS := HPF.out _ BB.out; clear hb)
              | (go_at_call 17; (with_reducible refine (HDR.out _ BB.out).mono ?_); rintro e v ⟨rfl, hb⟩; have BB := Lib.hid (BB.out.trans (hb.mono BB.out.size)); have hS := HPF.out _ BB.out; clear hb)
              | (go_at_call 19; (with_reducible refine (HSM.out _ BB.out).mono ?_); rintro e v ⟨q1, k1, cp1, l1, rfl, hk1, hk16, _, hat1, hd1, hb, _⟩; have HA1 := Lib.hid hat1; have HD1 := Lib.hid hd1; have HK1 := Lib.hid hk1; have BB := Lib.hid (BB.out.trans (hb.mono BB.out.size)); have hS := HPF.out _ BB.out; clear hb hat1 hd1)
              | (go_at_call 20; (with_reducible refine (HSR.out _ BB.out).mono ?_); rintro e v ⟨q2, k2, cp2, l2, rfl, hk2, _, _, hat2, hd2, hb, _⟩; obtain rfl : l1 = l2 := HD1.out.unique hd2; obtain rfl : k1 = k2 := HK1.out.symm.trans hk2; have HSA := Lib.hid (rsameT_yes q1 q2 l1 k1 cp1 cp2 v (HA1.out.below hb) hat2 hk2 (by unfold maxLen; omega)); have BB := Lib.hid (BB.out.trans (hb.mono BB.out.size)); have hS := HPF.out _ BB.out; clear hb hat2 hd2 hk2)
              | (go_at_call 18; (with_reducible refine HSA.out.mono ?_); rintro e v ⟨rfl, hb⟩; have BB := Lib.hid (BB.out.trans (hb.mono BB.out.size)); have hS := HPF.out _ BB.out; clear hb)
              | (go_at_call 21; (with_reducible refine (HOM2.out _ BB.out).mono ?_); rintro e v ⟨rfl, hb⟩; have BB := Lib.hid (BB.out.trans (hb.mono BB.out.size)); have hS := HPF.out _ BB.out; clear hb)
              | (go_at_call 22; (with_reducible refine (HOR.out _ BB.out).mono ?_); rintro e v ⟨rfl, hb⟩; have BB := Lib.hid (BB.out.trans (hb.mono BB.out.size)); have hS := HPF.out _ BB.out; clear hb))
            all_goals
              clear hS
              go_wp2_with fail
              go_roundw
              case rel => exact ⟨i + 1, V', Z', by omega, by omega, by go_num, HL4.out.next BB.out, HR4.out.next BB.out, HX4.out.next BB.out⟩
              case measure => simp [intOf]; omega
      · have tB : decide ((i : Int) < 40) = false := decide_eq_false (by omega)
        go_wp2_with fail
        go_ret
        exact ⟨rfl, HL.out.2⟩
    · obtain rfl : i = m9 := by omega
      have tA : decide ((i : Int) < (i : Int)) = false := by simp
      go_wp2_with fail
      go_ret
      exact ⟨rfl, HL.out.2⟩
end Go.Proofs.Ytgididkpgncdjaa
