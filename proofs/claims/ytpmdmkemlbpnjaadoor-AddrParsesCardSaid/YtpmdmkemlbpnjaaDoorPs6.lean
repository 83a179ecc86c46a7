/- The document's own Parse: the walk. -/
import Derived.Test.YtpmdmkemlbpnjaaDoorPs5
namespace Go.Proofs.YtpmdmkemlbpnjaaDoor
open Go.RowKit

def rpair (P : List (List UInt8)) : Option (Int × Int) := match P with
  | [p, q] => match raddrL p with
    | none => none
    | some b => match numOf 32 q with
      | none => none
      | some n => if okP (getV b) n then some (getV b, n) else none
  | _ => none
theorem rpair_two (p q : List UInt8) : rpair [p, q] = match raddrL p with
    | none => none
    | some b => match numOf 32 q with
      | none => none
      | some n => if okP (getV b) n then some (getV b, n) else none := rfl
theorem rpair_eq (l : List UInt8) : rparseL l = rpair (splitL 47 l) := rfl
theorem rpair_bad {P : List (List UInt8)} (hl : P.length ≠ 2) : rpair P = none := by
  match P, hl with
  | [], _ => rfl
  | [_], _ => rfl
  | [_, _], hl => exact absurd rfl hl
  | _ :: _ :: _ :: _, _ => rfl
set_option maxRecDepth 100000 in
set_option maxHeartbeats 4000000 in
theorem rparse_any (s : ByteArray) (w : World) (hs : s.size ≤ 1000) :
    Calls Tryd.prog 6 #[.string s] w fun e w' => RParseOut (parseL s.data.toList) e ∧ Below w.heap.size w w' := by
  rw [parseL_split]
  have HB0 := Lib.hid (newS w (.cells #[.int .u32 0, .int .i64 0] 25))
  have HX0 := Lib.hid (Box.new w (.int .u32 0) (.int .i64 0))
  have HP := Lib.hid (split_c s 47 47 (by decide) (w.alloc (.cells #[.int .u32 0, .int .i64 0] 25)) hs)
  have HSZ := Lib.hid (fun p (h : p ∈ splitL 47 s.data.toList) => splitL_part 47 h)
  obtain ⟨P, hP⟩ : ∃ P, splitL 47 s.data.toList = P := ⟨_, rfl⟩
  obtain ⟨R, hR⟩ : ∃ R, rparseL s.data.toList = R := ⟨_, rfl⟩
  have hRR : R = rpair P := by rw [← hR, rpair_eq, hP]
  rw [hP] at HP HSZ
  rw [hR]
  clear hP hR
  by_cases h2 : P.length = 2
  · obtain ⟨p, q, rfl⟩ : ∃ p q, P = [p, q] := by
      match P, h2 with
      | [p, q], _ => exact ⟨p, q, rfl⟩
    rw [rpair_two] at hRR
    rw [← addrL_split] at hRR
    have HRR := Lib.hid hRR
    rw [show ([p, q] : List (List UInt8)).length = 2 from rfl] at HP
    clear hRR h2
    go_enter Tryd.func6, Tryd.ntmps6
    go_wp2_with fail
    refine HP.out.mono ?_; rintro e w1 ⟨lq, cap, l, rfl, hO, hT, hb⟩
    have HB1 := Lib.hid (HB0.out.trans (hb.mono HB0.out.size))
    have HX1 := Lib.hid (HX0.out.below hb)
    obtain ⟨g, rfl, hc0⟩ := hO.cell (i := 0) (by omega)
    obtain ⟨g', hg', hc1⟩ := hO.cell (i := 1) (by omega)
    obtain rfl : g = g' := by simpa using hg'
    have t0 := toL_get hT (i := 0) (by simp)
    have t1 := toL_get hT (i := 1) (by simp)
    obtain ⟨y0, hy0⟩ : ∃ y, l.getD 0 ⟨#[]⟩ = y := ⟨_, rfl⟩
    obtain ⟨y1, hy1⟩ : ∃ y, l.getD 1 ⟨#[]⟩ = y := ⟨_, rfl⟩
    rw [hy0] at hc0 t0
    rw [hy1] at hc1 t1
    have t0 : y0.data.toList = p := t0
    have t1 : y1.data.toList = q := t1
    have z0 : y0.size ≤ 1000 := by
      have := HSZ.out p (by simp)
      have h1 := data_len y0
      have h2 := data_len s
      rw [t0] at h1; omega
    have hc0 : w1.cell? ⟨g, 0, none⟩ = some (.string y0) := hc0
    have hc1 : w1.cell? ⟨g, 1, none⟩ = some (.string y1) := hc1
    have HA := Lib.hid (raddress_any y0 w1 z0)
    have HSM := Lib.hid (fun u => small_any y1 32 u (by omega) (by omega))
    rw [t0] at HA
    rw [t1] at HSM
    have HC1 := Lib.hid hc1
    clear hO hT hb hg' t0 t1 hy0 hy1 HP
    go_wp2_with fail
    refine HA.out.mono ?_; rintro e w2 ⟨ha, hb2⟩
    have HB2 := Lib.hid (HB1.out.trans (hb2.mono HB1.out.size))
    have HX2 := Lib.hid (HX1.out.below hb2)
    have hc2 := keep hb2 HC1.out
    clear hb2 hc0 hc1 HA
    unfold smallV at HSM
    rcases ho : addrL p with _ | b
    · rw [ho] at ha
      unfold RAddrOut at ha
      rw [ha]
      have HRN := Lib.hid (show R = none from by rw [HRR.out, ho])
      dsimp only [Option.isSome_none]
      clear ha ho
      obtain ⟨n, hn⟩ : ∃ n, (numOf 32 q).getD (-1) = n := ⟨_, rfl⟩
      rw [hn] at HSM
      clear hn
      go_wp2_with fail
      refine (HSM.out w2).mono ?_; rintro e w' ⟨rfl, rfl⟩
      have hb3 := newS w2 (.cells #[.int .u32 0, .int .i64 n] 25)
      have hX := HX2.out.below hb3
      have HB3 := Lib.hid (HB2.out.trans (hb3.mono HB2.out.size))
      have c0 := hX.c0
      have c1 := hX.c1
      have f0 := hX.f 0
      have f1 := hX.f 1
      clear hX hb3
      go_wp2_with fail
      exact bodyPost_ret (v := .tuple #[.agg #[.int .u32 0, .int .i64 0], .bool false]) (by simp [results, Tryd.results6, go_sem, c0, c1]) rfl ⟨by rw [HRN.out]; rfl, (HB3.out.setCell (Nat.le_refl _) _).setCell (Nat.le_refl _) _⟩
    · have hbd := addrL_bd ho
      rw [ho] at ha
      unfold RAddrOut at ha
      rw [ha]
      dsimp only [Option.isSome_some]
      obtain ⟨a, hga⟩ : ∃ a, getV b = a := ⟨_, rfl⟩
      rw [hga] at hbd ⊢
      have HRS := Lib.hid (show R = match numOf 32 q with
        | none => none
        | some n => if okP a n then some (a, n) else none from by rw [HRR.out, ho]; simp only [hga])
      clear ha ho hga
      rcases hq : numOf 32 q with _ | n
      · rw [hq] at HSM
        rw [show (none : Option Int).getD (-1) = -1 from rfl] at HSM
        have HRN := Lib.hid (show R = none from by rw [HRS.out, hq])
        clear hq
        go_wp2_with fail
        refine (HSM.out w2).mono ?_; rintro e w' ⟨rfl, rfl⟩
        have hb3 := newS w2 (.cells #[.int .u32 a, .int .i64 (-1)] 25)
        have hX := HX2.out.below hb3
        have HB3 := Lib.hid (HB2.out.trans (hb3.mono HB2.out.size))
        have c0 := hX.c0
        have c1 := hX.c1
        have f0 := hX.f 0
        have f1 := hX.f 1
        clear hX hb3
        go_wp2_with fail
        exact bodyPost_ret (v := .tuple #[.agg #[.int .u32 0, .int .i64 0], .bool false]) (by simp [results, Tryd.results6, go_sem, c0, c1]) rfl ⟨by rw [HRN.out]; rfl, (HB3.out.setCell (Nat.le_refl _) _).setCell (Nat.le_refl _) _⟩
      · have hnb := numOf_bd (by omega) hq
        rw [hq, show (some n).getD (-1) = n from rfl] at HSM
        have HRQ := Lib.hid (show R = if okP a n then some (a, n) else none from by rw [HRS.out, hq])
        have tn : decide (n < 0) = false := by simp; omega
        clear hq
        go_wp2_with fail
        refine (HSM.out w2).mono ?_; rintro e w' ⟨rfl, rfl⟩
        have hb3 := newS w2 (.cells #[.int .u32 a, .int .i64 n] 25)
        have HX3 := Lib.hid (HX2.out.below hb3)
        have HY3 := Lib.hid (Box.new w2 (.int .u32 a) (.int .i64 n))
        have HB3 := Lib.hid (HB2.out.trans (hb3.mono HB2.out.size))
        have HCK := Lib.hid (rcheck_any a n (w2.alloc (.cells #[.int .u32 a, .int .i64 n] 25)) hbd.1 hbd.2)
        clear hb3
        rcases hk : okP a n with _ | _
        · rw [hk] at HCK HRQ
          have HRN := Lib.hid (show R = none from HRQ.out)
          clear hk
          go_wp2_with fail
          refine HCK.out.mono ?_; rintro e w4 ⟨rfl, hb4⟩
          have hX := HX3.out.below hb4
          have HB4 := Lib.hid (HB3.out.trans (hb4.mono HB3.out.size))
          have c0 := hX.c0
          have c1 := hX.c1
          have f0 := hX.f 0
          have f1 := hX.f 1
          clear hX hb4
          go_wp2_with fail
          exact bodyPost_ret (v := .tuple #[.agg #[.int .u32 0, .int .i64 0], .bool false]) (by simp [results, Tryd.results6, go_sem, c0, c1]) rfl ⟨by rw [HRN.out]; rfl, (HB4.out.setCell (Nat.le_refl _) _).setCell (Nat.le_refl _) _⟩
        · rw [hk] at HCK HRQ
          have HRY := Lib.hid (show R = some (a, n) from HRQ.out)
          clear hk
          go_wp2_with fail
          refine HCK.out.mono ?_; rintro e w4 ⟨rfl, hb4⟩
          have hX := HX3.out.below hb4
          have hZ := HY3.out.below hb4
          have HB4 := Lib.hid (HB3.out.trans (hb4.mono HB3.out.size))
          have c0 := hX.c0
          have c1 := hX.c1
          have f0 := hX.f 0
          have f1 := hX.f 1
          have z0 := hZ.c0
          have z1 := hZ.c1
          clear hX hb4 hZ
          go_wp2_with fail
          exact bodyPost_ret (v := .tuple #[.agg #[.int .u32 a, .int .i64 n], .bool true]) (by simp [results, Tryd.results6, go_sem, c0, c1]) rfl ⟨by rw [HRY.out]; rfl, (HB4.out.setCell (Nat.le_refl _) _).setCell (Nat.le_refl _) _⟩
  · have HRN := Lib.hid (show R = none from by rw [hRR, rpair_bad h2])
    obtain ⟨n, hn⟩ : ∃ n, P.length = n := ⟨_, rfl⟩
    rw [hn] at HP h2
    have t0 : ((n : Int) != 2) = true := by rw [bne_iff_ne]; omega
    clear hRR hn HSZ
    go_enter Tryd.func6, Tryd.ntmps6
    go_wp2_with fail
    refine HP.out.mono ?_; rintro e w1 ⟨lq, cap, l, rfl, _, _, hb⟩
    have HB1 := Lib.hid (HB0.out.trans (hb.mono HB0.out.size))
    have hX := HX0.out.below hb
    have c0 := hX.c0
    have c1 := hX.c1
    have f0 := hX.f 0
    have f1 := hX.f 1
    clear hX hb
    go_wp2_with fail
    exact bodyPost_ret (v := .tuple #[.agg #[.int .u32 0, .int .i64 0], .bool false]) (by simp [results, Tryd.results6, go_sem, c0, c1]) rfl ⟨by rw [HRN.out]; rfl, (HB1.out.setCell (Nat.le_refl _) _).setCell (Nat.le_refl _) _⟩
end Go.Proofs.YtpmdmkemlbpnjaaDoor
