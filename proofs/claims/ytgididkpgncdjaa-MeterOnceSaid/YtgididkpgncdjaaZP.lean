/- MeterOnce's walk. -/
import Derived.Test.YtgididkpgncdjaaZO
import Derived.Test.YtgididkpgncdjaaZQ
namespace Go.Proofs.Ytgididkpgncdjaa
open Go.RowKit Go.Maps
set_option linter.unusedVariables false
set_option linter.unusedSimpArgs false
set_option maxRecDepth 100000

theorem once_stamp (src seq : Int) (L : List Ct) (now : Int) : (takeE V0 src seq L now = 0 ∧ stampV (takeV V0 src seq L now) src = (now, true)) ∨ (takeE V0 src seq L now ≠ 0 ∧ stampV (takeV V0 src seq L now) src = (0, false)) := by
  rcases Classical.em (takeE V0 src seq L now = 0) with h | h
  · refine .inl ⟨h, ?_⟩
    unfold takeV
    rw [if_pos h]
    unfold takeE at h
    split at h
    · omega
    · rename_i ho
      simp only [Bool.not_eq_true, Bool.not_eq_false', Bool.and_eq_true] at ho
      have hr := ho.1
      unfold okRep at hr
      simp only [Bool.and_eq_true] at hr
      unfold stampV
      rw [if_pos hr.1, setV_self]
      rfl
  · refine .inr ⟨h, ?_⟩
    rw [take_no h]
    unfold stampV
    split <;> rfl
set_option maxHeartbeats 8000000 in
theorem once_walk (w : World) (o : Rt) (ho : RtAt w o) (now : Int) :
    Calls Try.prog 7 #[.agg #[.int .i64 o.src, .int .i64 o.seq, .slice o.p o.L.length o.cap], .int .i64 now] w fun e w' => e = .returned (.bool true) ∧ Below w.heap.size w w' := by
  obtain ⟨src, seq, p, L, cap⟩ := o
  have hat := ho.at_
  have hmx : L.length ≤ maxLen := Nat.le_trans ho.le ho.max
  dsimp only at hat hmx ⊢
  obtain ⟨n, hn⟩ : ∃ n, L.length = n := ⟨_, rfl⟩
  rw [hn] at hmx ⊢
  have HN := Lib.hid hn
  have hb := newB w (.cells #[.int .i64 src, .int .i64 seq, .slice p n cap] 31)
  have hx := Blk.new w 31 [.int .i64 src, .int .i64 seq, .slice p n cap]
  obtain ⟨S, hS⟩ : ∃ S, w.heap.size = S := ⟨_, rfl⟩
  obtain ⟨U, hU⟩ : ∃ U, w.alloc (.cells #[.int .i64 src, .int .i64 seq, .slice p n cap] 31) = U := ⟨_, rfl⟩
  rw [hU] at hb hx
  rw [hS] at hx
  have x2 : (w.alloc (.cells #[.int .i64 src, .int .i64 seq, .slice p n cap] 31)).cell? ⟨w.heap.size, 2, none⟩ = some (.slice p n cap) := by rw [hU, hS]; exact (rep_boxes hx).2.2
  have HU := Lib.hid hU
  have HSE := Lib.hid hS
  have HX := Lib.hid hx
  have HB := Lib.hid hb
  have HAT := Lib.hid hat
  have HLV := Lib.hid (fun u => lives17_any u)
  have HNEW := Lib.hid (lm_new w U hb)
  clear ho hat hn hb hx hU hS
  by_cases h200 : n ≤ 200
  rotate_left
  · have t0 : decide ((200 : Int) < (n : Int)) = true := decide_eq_true (by omega)
    go_enter Try.func7, Try.ntmps7
    go_wp2_with fail
    rw [HU.out]
    refine (HLV.out U).mono ?_
    rintro e W ⟨rfl, hb⟩
    have HB2 := Lib.hid (HB.out.trans (hb.mono HB.out.size))
    clear hb
    go_wp2_with fail
    go_ret
    exact ⟨rfl, HB2.out⟩
  have t0 : decide ((200 : Int) < (n : Int)) = false := decide_eq_false (by omega)
  have hfact := once_stamp src seq L now
  have hall := once_fact src seq L now
  have HMM := Lib.hid (show n ≤ maxLen from hmx)
  go_enter Try.func7, Try.ntmps7
  go_wp2_with fail
  rw [HU.out, HSE.out]
  refine HNEW.out.mono ?_
  rintro e W1 ⟨m, b, rfl, hl, hb, hbb⟩
  have HX1 := Lib.hid (HX.out.next hb)
  have HL := Lib.hid hl
  have hsb : S ≠ b := fun e => by have := HX.out.lt; omega
  have HSB := Lib.hid hsb
  clear hl hb hbb hsb x2 HNEW t0
  go_wp2_with fail
  refine (HLV.out _).mono ?_
  rintro e W2 ⟨rfl, hb⟩
  have HX2 := Lib.hid (HX1.out.next hb)
  have HL2 := Lib.hid (HL.out.next hb)
  obtain ⟨x0, x1, x2⟩ := rep_boxes HX2.out
  have HTK := Lib.hid (HL2.out.take src seq p L n cap (HAT.out.below HL2.out.2) HN.out HMM.out now)
  obtain ⟨E, hE⟩ : ∃ E, takeE V0 src seq L now = E := ⟨_, rfl⟩
  obtain ⟨V1, hV⟩ : ∃ V, takeV V0 src seq L now = V := ⟨_, rfl⟩
  rw [hE, hV] at hfact HTK
  rw [hV] at hall
  have HALL := Lib.hid hall
  have HFACT := Lib.hid hfact
  clear hb hE hV hfact hall
  go_wp2_with fail
  refine HTK.out.mono ?_
  rintro e W3 ⟨rfl, hT, hl⟩
  have HL3 := Lib.hid hl
  have HX3 := Lib.hid (HX2.out.of_same (hT.block S HX2.out.lt HSB.out))
  obtain ⟨x0', x1', x2'⟩ := rep_boxes HX3.out
  have HST := Lib.hid (hl.stamp src)
  clear hT hl x0 x1 x2 HTK
  rcases HFACT.out with ⟨rfl, hst⟩ | ⟨hne, hst⟩
  all_goals
    rw [hst] at HST
    have HST := Lib.hid HST.out
    clear hst
    go_wp2_with fail
    refine HST.out.mono ?_
    rintro e W4 ⟨rfl, hb⟩
    have HL4 := Lib.hid (HL3.out.next hb)
    have HD := Lib.hid HL4.out.demands
    clear hb HST x0' x1' x2'
    go_wp2_with fail
    refine HD.out.mono ?_
    rintro e W5 ⟨q, k, cp, l, rfl, hk, _, _, _, hd, hb, _⟩
    have hl0 := once_dem HALL.out hd
    subst hl0
    obtain rfl : 0 = k := hk
    have HL5 := Lib.hid (HL4.out.next hb)
    have HO := Lib.hid HL5.out.over
    rw [once_over HALL.out] at HO
    clear hd hb HD
    go_wp2_with fail
    refine HO.out.mono ?_
    rintro e W6 ⟨rfl, hb⟩
    have HL6 := Lib.hid (HL5.out.next hb)
    clear hb HO
    first
      | (have tE : decide (E = 0) = false := decide_eq_false hne
         have tE2 : (E == 0) = false := by simpa using hne
         go_wp2_with fail
         go_ret
         exact ⟨rfl, HL6.out.2⟩)
      | (go_wp2_with fail
         go_ret
         exact ⟨rfl, HL6.out.2⟩)
theorem once_arg (w : World) (o : Rt) (ho : RtAt w o) (now : Int) (_ : (Lit.int .i64 now).wf = true) :
    Calls Try.prog 7 #[.agg #[.int .i64 o.src, .int .i64 o.seq, .slice o.p o.L.length o.cap], .int .i64 now] w fun e w' => e = .returned (.bool true) ∧ Below w.heap.size w w' := once_walk w o ho now
end Go.Proofs.Ytgididkpgncdjaa
