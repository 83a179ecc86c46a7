/- open: each, over capabilities and over parameters. -/
import Derived.Test.YthpadbeilecpeaaDoorO4
namespace Go.Proofs.YthpadbeilecpeaaDoor
open Go.RowKit

def EachRel_each_caps (w0 : World) (g gr : Nat) (R : Op × Bool) (k : Nat) (wr : World) : Prop :=
  ∃ st ys f, Two w0 wr g gr st (some ys) ∧ ys.length < f ∧ eachV capV f st ys = R ∧ k = ys.length

set_option maxHeartbeats 1000000 in
theorem each_caps (g : Nat) (st0 : Op) (p : Option Addr) (xs : List Int) (n c : Nat) (w : World) (hh : HeardAt w g st0) (hb : BytesAt w p xs) (hn : xs.length = n) (hl : n ≤ 140737488355328) :
    Calls Tryd.prog 23 #[.slice p n c, .func (.func 25) #[.pointer (some ⟨g, 0, none⟩)] #[]] w fun e w' => LookPost w w' e g (eachV capV (xs.length + 1) st0 xs) := by
  have HF := Lib.hid (show Calls Tryd.prog 17 #[.slice p n c] w fun e w' => NewAt w w' e (fun g => RdAt w' g (some xs)) by subst hn; exact from_any p xs c w hl hb)
  have HH := Lib.hid hh
  obtain ⟨R, hR⟩ : ∃ R, eachV capV (xs.length + 1) st0 xs = R := ⟨_, rfl⟩
  rw [hR]
  have HR := Lib.hid hR
  clear hh hb hn hR
  go_enter Tryd.func23, Tryd.ntmps23
  go_wp2_with fail
  refine HF.out.mono ?_; rintro e w1 ⟨gr, rfl, hnew, hrd, hbel⟩
  have T1 := Lib.hid (Two.start HH.out hrd hnew hbel)
  clear hrd hbel HF HH
  go_wp2_with fail
  go_loopg [6] xs.length (fun k _ wr => EachRel_each_caps w g gr R k wr)
  case atStart => exact ⟨st0, xs, _, T1.out, Nat.lt_succ_self _, HR.out, rfl⟩
  case round =>
    obtain ⟨st, ys, f, T, hf, hp, hk⟩ := hrel
    have HP := Lib.hid hp
    have HT := Lib.hid T
    have HL := Lib.hid (left_any wr gr _ T.rd)
    clear hp T HR T1
    obtain ⟨f, rfl⟩ : ∃ f', f = f' + 1 := ⟨f - 1, by omega⟩
    match ys, hf, hk, HP, HT, HL with
    | [], hf, hk, HP, HT, HL =>
      clear hk
      go_wp2_with fail
      refine HL.out.mono ?_; rintro e w2 ⟨rfl, rfl⟩
      rw [show leftV (some ([] : List Int)) = 0 from rfl]
      go_wp2_with fail
      go_ret
      rw [← HP.out]
      exact ⟨rfl, HT.out.hd, HT.out.gb⟩
    | [a], hf, hk, HP, HT, HL =>
      have HN := Lib.hid (num1_cons (k := a) (t := []) HT.out.rd)
      clear hk
      go_wp2_with fail
      refine HL.out.mono ?_; rintro e w2 ⟨rfl, rfl⟩
      rw [show leftV (some [a]) = 1 from rfl]
      go_wp2_with fail
      refine HN.out.mono ?_; rintro e w2 ⟨rfl, hr, hg⟩
      have T2 := Lib.hid (HT.out.read hr hg)
      clear hr hg
      have HN2 := Lib.hid (num1_nil T2.out.rd)
      go_wp2_with fail
      refine HN2.out.mono ?_; rintro e w3 ⟨rfl, hr, hg⟩
      have T3 := Lib.hid (T2.out.read hr hg)
      clear hr hg
      have HY := Lib.hid (bytes_bad 0 rfl T3.out.rd)
      go_wp2_with fail
      refine HY.out.mono ?_; rintro e w4 ⟨q, rfl, _, _, _, _, _, hr, hg⟩
      have T4 := Lib.hid (T3.out.read hr hg)
      have HB := Lib.hid (bad_any w4 gr _ hr)
      clear hr hg
      go_wp2_with fail
      refine HB.out.mono ?_; rintro e w5 ⟨rfl, rfl⟩
      go_wp2_with fail
      go_ret
      rw [← HP.out]
      exact ⟨rfl, T4.out.hd, T4.out.gb⟩
    | a :: m :: t, hf, hk, HP, HT, HL =>
      have HN := Lib.hid (num1_cons (k := a) (t := m :: t) HT.out.rd)
      have hm := inByte_cons (inByte_tail HT.out.rd.inb)
      obtain ⟨j, rfl⟩ := Int.eq_ofNat_of_zero_le hm.1
      have HLV := Lib.hid (show leftV (some (a :: (j : Int) :: t)) = t.length + 2 from rfl)
      have HEV := Lib.hid (show eachV capV (f + 1) st (a :: (j : Int) :: t) = if j ≤ t.length then (match (capV st a (t.take j)).2 with | true => eachV capV f (capV st a (t.take j)).1 (t.drop j) | false => ((capV st a (t.take j)).1, false)) else (st, false) from rfl)
      have hkl : gk = t.length + 2 := hk
      have hfl : t.length + 1 < f := by simp at hf; omega
      have htl : t.length ≤ 140737488355326 := by have := HT.out.rd.len; simp at this; omega
      clear hk hf hm
      go_wp2_with fail
      refine HL.out.mono ?_; rintro e w2 ⟨rfl, rfl⟩
      rw [HLV.out]
      go_wp2_with fail
      refine HN.out.mono ?_; rintro e w2 ⟨rfl, hr, hg⟩
      have T2 := Lib.hid (HT.out.read hr hg)
      clear hr hg
      have HN2 := Lib.hid (num1_cons (k := (j : Int)) (t := t) T2.out.rd)
      go_wp2_with fail
      refine HN2.out.mono ?_; rintro e w3 ⟨rfl, hr, hg⟩
      have T3 := Lib.hid (T2.out.read hr hg)
      clear hr hg HL HN HN2 HLV
      by_cases hj : j ≤ t.length
      · have HY := Lib.hid (bytes_ok (j : Int) j rfl hj T3.out.rd)
        go_wp2_with fail
        refine HY.out.mono ?_; rintro e w4 ⟨q, rfl, hrow, hin, hlen, _, _, hr, hg⟩
        have T4 := Lib.hid (T3.out.read hr hg)
        have HB := Lib.hid (bad_any w4 gr _ hr)
        have HK := Lib.hid (cap_any g st a (some ⟨q, 0, none⟩) (t.take j) j j w4 T4.out.hd (hrow.bytes hin) hlen (by omega))
        have HE := Lib.hid (HEV.out.trans (if_pos hj))
        clear hr hg hrow hin hlen HEV HY
        go_wp2_with fail
        refine HB.out.mono ?_; rintro e w5 ⟨rfl, rfl⟩
        rw [show (some (List.drop j t)).isNone = false from rfl]
        obtain ⟨r, hr⟩ : ∃ r, capV st a (t.take j) = r := ⟨_, rfl⟩
        rw [hr] at HK HE
        obtain ⟨st', ok⟩ := r
        clear hr
        cases ok
        · go_wp2_with fail
          refine HK.out.mono ?_; rintro e w6 ⟨rfl, h1, h2⟩
          have T5 := Lib.hid (T4.out.look h1 h2)
          clear h1 h2
          go_wp2_with fail
          go_ret
          rw [← HP.out, HE.out]
          exact ⟨rfl, T5.out.hd, T5.out.gb⟩
        · go_wp2_with fail
          refine HK.out.mono ?_; rintro e w6 ⟨rfl, h1, h2⟩
          have T5 := Lib.hid (T4.out.look h1 h2)
          clear h1 h2
          go_wp2_with fail
          go_roundg (t.drop j).length
          case rel => exact ⟨st', t.drop j, f, T5.out, by rw [List.length_drop]; omega, by rw [← HP.out, HE.out], rfl⟩
          case measure => rw [List.length_drop]; omega
      · have HY := Lib.hid (bytes_bad (j : Int) (by simp [okTake]; omega) T3.out.rd)
        have HE := Lib.hid (HEV.out.trans (if_neg hj))
        go_wp2_with fail
        refine HY.out.mono ?_; rintro e w4 ⟨q, rfl, _, _, _, _, _, hr, hg⟩
        have T4 := Lib.hid (T3.out.read hr hg)
        have HB := Lib.hid (bad_any w4 gr _ hr)
        clear hr hg HEV HY
        go_wp2_with fail
        refine HB.out.mono ?_; rintro e w5 ⟨rfl, rfl⟩
        go_wp2_with fail
        go_ret
        rw [← HP.out, HE.out]
        exact ⟨rfl, T4.out.hd, T4.out.gb⟩

theorem param_any (g : Nat) (st : Op) (k : Int) (p : Option Addr) (xs : List Int) (n c : Nat) (w : World) (hh : HeardAt w g st) (hb : BytesAt w p xs) (hn : xs.length = n) (hl : n ≤ 140737488355328) :
    Calls Tryd.prog 24 #[.int .i64 k, .slice p n c, .pointer (some ⟨g, 0, none⟩)] w fun e w' => LookPost w w' e g (paramV st k xs) := by
  have HE := Lib.hid (each_caps g st p xs n c w hh hb hn hl)
  rw [show paramV st k xs = eachV capV (xs.length + 1) st xs from rfl]
  clear hh hb hn
  go_enter Tryd.func24, Tryd.ntmps24
  go_wp2_with fail
  refine HE.out.mono ?_; rintro e w1 ⟨rfl, h1, h2⟩
  have H1 := Lib.hid h1
  have H2 := Lib.hid h2
  clear h1 h2
  go_wp2_with fail
  go_ret
  exact ⟨rfl, H1.out, H2.out⟩

def EachRel_each_params (w0 : World) (g gr : Nat) (R : Op × Bool) (k : Nat) (wr : World) : Prop :=
  ∃ st ys f, Two w0 wr g gr st (some ys) ∧ ys.length < f ∧ eachV paramV f st ys = R ∧ k = ys.length

set_option maxHeartbeats 1000000 in
theorem each_params (g : Nat) (st0 : Op) (p : Option Addr) (xs : List Int) (n c : Nat) (w : World) (hh : HeardAt w g st0) (hb : BytesAt w p xs) (hn : xs.length = n) (hl : n ≤ 140737488355328) :
    Calls Tryd.prog 23 #[.slice p n c, .func (.func 24) #[] #[.pointer (some ⟨g, 0, none⟩)]] w fun e w' => LookPost w w' e g (eachV paramV (xs.length + 1) st0 xs) := by
  have HF := Lib.hid (show Calls Tryd.prog 17 #[.slice p n c] w fun e w' => NewAt w w' e (fun g => RdAt w' g (some xs)) by subst hn; exact from_any p xs c w hl hb)
  have HH := Lib.hid hh
  obtain ⟨R, hR⟩ : ∃ R, eachV paramV (xs.length + 1) st0 xs = R := ⟨_, rfl⟩
  rw [hR]
  have HR := Lib.hid hR
  clear hh hb hn hR
  go_enter Tryd.func23, Tryd.ntmps23
  go_wp2_with fail
  refine HF.out.mono ?_; rintro e w1 ⟨gr, rfl, hnew, hrd, hbel⟩
  have T1 := Lib.hid (Two.start HH.out hrd hnew hbel)
  clear hrd hbel HF HH
  go_wp2_with fail
  go_loopg [6] xs.length (fun k _ wr => EachRel_each_params w g gr R k wr)
  case atStart => exact ⟨st0, xs, _, T1.out, Nat.lt_succ_self _, HR.out, rfl⟩
  case round =>
    obtain ⟨st, ys, f, T, hf, hp, hk⟩ := hrel
    have HP := Lib.hid hp
    have HT := Lib.hid T
    have HL := Lib.hid (left_any wr gr _ T.rd)
    clear hp T HR T1
    obtain ⟨f, rfl⟩ : ∃ f', f = f' + 1 := ⟨f - 1, by omega⟩
    match ys, hf, hk, HP, HT, HL with
    | [], hf, hk, HP, HT, HL =>
      clear hk
      go_wp2_with fail
      refine HL.out.mono ?_; rintro e w2 ⟨rfl, rfl⟩
      rw [show leftV (some ([] : List Int)) = 0 from rfl]
      go_wp2_with fail
      go_ret
      rw [← HP.out]
      exact ⟨rfl, HT.out.hd, HT.out.gb⟩
    | [a], hf, hk, HP, HT, HL =>
      have HN := Lib.hid (num1_cons (k := a) (t := []) HT.out.rd)
      clear hk
      go_wp2_with fail
      refine HL.out.mono ?_; rintro e w2 ⟨rfl, rfl⟩
      rw [show leftV (some [a]) = 1 from rfl]
      go_wp2_with fail
      refine HN.out.mono ?_; rintro e w2 ⟨rfl, hr, hg⟩
      have T2 := Lib.hid (HT.out.read hr hg)
      clear hr hg
      have HN2 := Lib.hid (num1_nil T2.out.rd)
      go_wp2_with fail
      refine HN2.out.mono ?_; rintro e w3 ⟨rfl, hr, hg⟩
      have T3 := Lib.hid (T2.out.read hr hg)
      clear hr hg
      have HY := Lib.hid (bytes_bad 0 rfl T3.out.rd)
      go_wp2_with fail
      refine HY.out.mono ?_; rintro e w4 ⟨q, rfl, _, _, _, _, _, hr, hg⟩
      have T4 := Lib.hid (T3.out.read hr hg)
      have HB := Lib.hid (bad_any w4 gr _ hr)
      clear hr hg
      go_wp2_with fail
      refine HB.out.mono ?_; rintro e w5 ⟨rfl, rfl⟩
      go_wp2_with fail
      go_ret
      rw [← HP.out]
      exact ⟨rfl, T4.out.hd, T4.out.gb⟩
    | a :: m :: t, hf, hk, HP, HT, HL =>
      have HN := Lib.hid (num1_cons (k := a) (t := m :: t) HT.out.rd)
      have hm := inByte_cons (inByte_tail HT.out.rd.inb)
      obtain ⟨j, rfl⟩ := Int.eq_ofNat_of_zero_le hm.1
      have HLV := Lib.hid (show leftV (some (a :: (j : Int) :: t)) = t.length + 2 from rfl)
      have HEV := Lib.hid (show eachV paramV (f + 1) st (a :: (j : Int) :: t) = if j ≤ t.length then (match (paramV st a (t.take j)).2 with | true => eachV paramV f (paramV st a (t.take j)).1 (t.drop j) | false => ((paramV st a (t.take j)).1, false)) else (st, false) from rfl)
      have hkl : gk = t.length + 2 := hk
      have hfl : t.length + 1 < f := by simp at hf; omega
      have htl : t.length ≤ 140737488355326 := by have := HT.out.rd.len; simp at this; omega
      clear hk hf hm
      go_wp2_with fail
      refine HL.out.mono ?_; rintro e w2 ⟨rfl, rfl⟩
      rw [HLV.out]
      go_wp2_with fail
      refine HN.out.mono ?_; rintro e w2 ⟨rfl, hr, hg⟩
      have T2 := Lib.hid (HT.out.read hr hg)
      clear hr hg
      have HN2 := Lib.hid (num1_cons (k := (j : Int)) (t := t) T2.out.rd)
      go_wp2_with fail
      refine HN2.out.mono ?_; rintro e w3 ⟨rfl, hr, hg⟩
      have T3 := Lib.hid (T2.out.read hr hg)
      clear hr hg HL HN HN2 HLV
      by_cases hj : j ≤ t.length
      · have HY := Lib.hid (bytes_ok (j : Int) j rfl hj T3.out.rd)
        go_wp2_with fail
        refine HY.out.mono ?_; rintro e w4 ⟨q, rfl, hrow, hin, hlen, _, _, hr, hg⟩
        have T4 := Lib.hid (T3.out.read hr hg)
        have HB := Lib.hid (bad_any w4 gr _ hr)
        have HK := Lib.hid (param_any g st a (some ⟨q, 0, none⟩) (t.take j) j j w4 T4.out.hd (hrow.bytes hin) hlen (by omega))
        have HE := Lib.hid (HEV.out.trans (if_pos hj))
        clear hr hg hrow hin hlen HEV HY
        go_wp2_with fail
        refine HB.out.mono ?_; rintro e w5 ⟨rfl, rfl⟩
        rw [show (some (List.drop j t)).isNone = false from rfl]
        obtain ⟨r, hr⟩ : ∃ r, paramV st a (t.take j) = r := ⟨_, rfl⟩
        rw [hr] at HK HE
        obtain ⟨st', ok⟩ := r
        clear hr
        cases ok
        · go_wp2_with fail
          refine HK.out.mono ?_; rintro e w6 ⟨rfl, h1, h2⟩
          have T5 := Lib.hid (T4.out.look h1 h2)
          clear h1 h2
          go_wp2_with fail
          go_ret
          rw [← HP.out, HE.out]
          exact ⟨rfl, T5.out.hd, T5.out.gb⟩
        · go_wp2_with fail
          refine HK.out.mono ?_; rintro e w6 ⟨rfl, h1, h2⟩
          have T5 := Lib.hid (T4.out.look h1 h2)
          clear h1 h2
          go_wp2_with fail
          go_roundg (t.drop j).length
          case rel => exact ⟨st', t.drop j, f, T5.out, by rw [List.length_drop]; omega, by rw [← HP.out, HE.out], rfl⟩
          case measure => rw [List.length_drop]; omega
      · have HY := Lib.hid (bytes_bad (j : Int) (by simp [okTake]; omega) T3.out.rd)
        have HE := Lib.hid (HEV.out.trans (if_neg hj))
        go_wp2_with fail
        refine HY.out.mono ?_; rintro e w4 ⟨q, rfl, _, _, _, _, _, hr, hg⟩
        have T4 := Lib.hid (T3.out.read hr hg)
        have HB := Lib.hid (bad_any w4 gr _ hr)
        clear hr hg HEV HY
        go_wp2_with fail
        refine HB.out.mono ?_; rintro e w5 ⟨rfl, rfl⟩
        go_wp2_with fail
        go_ret
        rw [← HP.out, HE.out]
        exact ⟨rfl, T4.out.hd, T4.out.gb⟩
end Go.Proofs.YthpadbeilecpeaaDoor
