/- update: Check, Fit of one prefix so many times. -/
import Derived.Test.YtpeagakpmjnelaaDoorUp9
import Derived.Test.YtpeagakpmjnelaaDoorUqB
namespace Go.Proofs.YtpeagakpmjnelaaDoor.Ax
open Go.RowKit
set_option maxRecDepth 100000
set_option linter.unusedVariables false
set_option linter.unusedSimpArgs false

theorem checkU_any (u : Upd) (l : ULoc) (four paths : Bool) (w : World) (ht : Tab w) (hu : UpAt w u l) :
    Calls Tryd.prog 11 #[.agg (updL u l).toArray, .bool four, .bool paths] w fun e w' => e = .returned (.int .i64 (if okU u four paths then 0 else 70)) ∧ Below w.heap.size w w' := by
  have HA := Lib.hid (newB w (.cells (updL u l).toArray 29))
  obtain ⟨V, hV⟩ : ∃ V, w.alloc (.cells (updL u l).toArray 29) = V := ⟨_, rfl⟩
  have hX := Blk.new w 29 (updL u l)
  have HV := Lib.hid hV
  rw [hV] at HA
  have HP := Lib.hid (putU_any u l four paths V (ht.below HA.out) (hu.below HA.out))
  obtain ⟨ok, hok⟩ : ∃ ok, okU u four paths = ok := ⟨_, rfl⟩
  rw [hok] at HP ⊢
  obtain ⟨gone, come, ⟨origin, path, next, med, pref, comms⟩, soft⟩ := u
  obtain ⟨gp, gn, gc, rp, rn, rc, ⟨pp, pn, pc, cp, cn, cc⟩⟩ := l
  simp only [updL, atL, List.cons_append, List.nil_append] at *
  obtain ⟨m, hm⟩ : ∃ m, (bodyL ⟨gone, come, ⟨origin, path, next, med, pref, comms⟩, soft⟩ four paths).length = m := ⟨_, rfl⟩
  rw [hm] at HP
  have k0 := hX.cell 0 (by simp)
  clear ht hu hok hm hX hV
  go_enter Tryd.func11, Tryd.ntmps11
  go_wp2_with fail
  rw [HV.out]
  refine HP.out.mono ?_
  rintro e w2 ⟨h1, h2, hb⟩
  have HB := Lib.hid (HA.out.trans (hb.mono HA.out.size))
  clear hb HP k0
  rcases ok with _ | _
  · obtain rfl := h2 rfl
    clear h1 h2
    go_wp2_with fail
    go_ret
    exact ⟨rfl, HB.out.alloc HB.out.size _⟩
  · obtain ⟨q, cap, rfl, _⟩ := h1 rfl
    clear h1 h2
    go_wp2_with fail
    go_ret
    exact ⟨rfl, HB.out.alloc HB.out.size _⟩
/-- How many of so many of one size come at once. -/
def fitV (k L s : Nat) : Nat := min k (min (L / s) 1024)
theorem fitV_step {k L s : Nat} (hs : 0 < s) : fitV (k + 1) L s = if (k + 1) * s ≤ L ∧ fitV k L s < 1024 then fitV k L s + 1 else fitV k L s := by
  unfold fitV
  have h : (k + 1) * s ≤ L ↔ k + 1 ≤ L / s := (Nat.le_div_iff_mul_le hs).symm
  by_cases h1 : k + 1 ≤ L / s
  · have := h.2 h1
    split <;> omega
  · have h2 : ¬ (k + 1) * s ≤ L := fun h3 => h1 (h.1 h3)
    rw [if_neg (fun h3 => h2 h3.1)]
    omega
set_option maxHeartbeats 8000000 in
theorem fit_any (a : At) (l : Loc) (x : Nl) (p : Option Addr) (n c : Nat) (four paths : Bool) (w : World) (ht : Tab w) (ha : AtAt w a l) (hk : okA a four = true) (hx : NlsAt w p (List.replicate n x)) (hn : n ≤ 100000) (hs : 0 < sizeN x paths) :
    Calls Tryd.prog 25 #[.slice p n c, .agg (atL a l).toArray, .bool four, .bool paths] w fun e w' => e = .returned (.int .i64 (fitV n (4073 - (putA a four).length) (sizeN x paths) : Nat)) ∧ Below w.heap.size w w' := by
  have HA := Lib.hid (newB w (.cells (atL a l).toArray 27))
  obtain ⟨V, hV⟩ : ∃ V, w.alloc (.cells (atL a l).toArray 27) = V := ⟨_, rfl⟩
  have hX := Blk.new w 27 (atL a l)
  have HV := Lib.hid hV
  rw [hV] at HA
  have HP := Lib.hid (putA_ok a l four V (ht.below HA.out) (ha.below HA.out) hk)
  have HX := Lib.hid hx
  have hpl := putA_le hk
  obtain ⟨m, hm⟩ : ∃ m, (putA a four).length = m := ⟨_, rfl⟩
  rw [hm] at HP hpl ⊢
  obtain ⟨S, hS⟩ : ∃ S, sizeN x paths = S := ⟨_, rfl⟩
  have HSZ := Lib.hid (fun (had : InAddr x) (U : World) => hS ▸ sizeNl_any x.id x.addr x.len paths U had)
  have hs9 : S ≤ 9 := by
    rw [← hS]; unfold sizeN; split
    · exact nlL_le _ _
    · omega
  rw [hS] at hs ⊢
  clear ht ha hk hx hm hS hV
  obtain ⟨origin, path, next, med, pref, comms⟩ := a
  obtain ⟨pp, pn, pc, cp, cn, cc⟩ := l
  simp only [atL] at *
  obtain ⟨L, hL⟩ : ∃ L, 4073 - m = L := ⟨_, rfl⟩
  rw [hL]
  have e1 : IntKind.i64.wrap (4073 - (m : Int)) = (L : Int) := by rw [IntKind.wrap_i64]; omega
  have hL1 : L ≤ 4073 := by omega
  clear hL
  have k0 := hX.cell 0 (by simp)
  clear hX
  go_enter Tryd.func25, Tryd.ntmps25
  go_wp2_with fail
  rw [HV.out]
  refine HP.out.mono ?_
  rintro e w2 ⟨q2, c2, rfl, _, hb⟩
  have HB := Lib.hid (HA.out.trans (hb.mono HA.out.size))
  clear hb HP k0
  go_wp2_with fail
  go_loopw [11, 12, 29] (fun lf ft i wr => ∃ k : Nat, lf = .int .i64 ((L : Int) - ((k * S : Nat) : Int)) ∧ ft = .int .i64 (fitV k L S : Nat) ∧ i = .int .i64 k ∧ k ≤ n ∧ Below w.heap.size w wr) (fun _ _ i _ => n - (intOf i).toNat)
  case atStart => exact ⟨0, by simp, by simp [fitV], rfl, Nat.zero_le _, HB.out⟩
  case round =>
    obtain ⟨k, rfl, rfl, rfl, hk, hBl⟩ := hrel
    have HBr := Lib.hid hBl
    clear hBl
    by_cases hlt : k < n
    · have hlt' : (k : Int) < (n : Int) := by omega
      have k0 : (0 : Int) ≤ (k : Int) := by omega
      obtain ⟨b, off, rfl, ⟨c0, c1, c2⟩, had⟩ := nl_cell (HX.out.below HBr.out) (by simp : (List.replicate n x).length = n) hlt
      have hgx : (List.replicate n x).getD k Nl.none = x := by simp [List.getD, hlt]
      rw [hgx] at c0 c1 c2 had
      have HS := Lib.hid (HSZ.out had (wr.alloc (.cells #[.int .i64 x.id, .int .u32 x.addr, .int .i64 x.len] 56)))
      have HN := Lib.hid (newB wr (.cells #[.int .i64 x.id, .int .u32 x.addr, .int .i64 x.len] 56))
      have hks : k * S ≤ 900000 := by
        have := Nat.mul_le_mul (show k ≤ 100000 by omega) hs9
        omega
      have hks1 : (k + 1) * S = k * S + S := Nat.succ_mul k S
      have hstep := fitV_step (k := k) (L := L) hs
      have hfk : fitV k L S ≤ k := Nat.min_le_left _ _
      obtain ⟨K, hK⟩ : ∃ K, k * S = K := ⟨_, rfl⟩
      rw [hks1] at hstep
      have HK1 := Lib.hid (show (k + 1) * S = K + S by rw [hks1, hK])
      rw [hK] at hks hstep
      rw [hK]
      obtain ⟨f, hf⟩ : ∃ f, fitV k L S = f := ⟨_, rfl⟩
      rw [hf] at hstep hfk
      rw [hf]
      have HST := Lib.hid hstep
      have e2 : IntKind.i64.wrap ((L : Int) - (K : Int) - (S : Int)) = (L : Int) - (K : Int) - (S : Int) := by rw [IntKind.wrap_i64]; omega
      have e3 : ((S : Int) == 0) = false := by simp; omega
      have e4 : IntKind.i64.wrap ((f : Int) + 1) = (f : Int) + 1 := by rw [IntKind.wrap_i64]; omega
      clear had hgx hks1 hK hf hstep
      obtain ⟨xi, xa, xl⟩ := x
      dsimp only at c0 c1 c2 HS HN
      have d0 := (Blk.new wr 56 [.int .i64 xi, .int .u32 xa, .int .i64 xl]).cell 0 (by simp)
      go_wp2_with fail
      refine HS.out.mono ?_
      rintro e w5 ⟨rfl, hb⟩
      have HB5 := Lib.hid (HBr.out.trans ((HN.out.trans (hb.mono HN.out.size)).mono HBr.out.size))
      clear hb HS c0 c1 c2 d0
      by_cases hfit : K + S ≤ L
      · have g1 : (0 : Int) ≤ (L : Int) - (K : Int) - (S : Int) := by omega
        have g2 : decide ((0 : Int) ≤ (L : Int) - (K : Int) - (S : Int)) = true := decide_eq_true g1
        by_cases hf4 : f < 1024
        · have g3 : (f : Int) < 1024 := by omega
          have g4 : decide ((f : Int) < 1024) = true := decide_eq_true g3
          have HR := Lib.hid (show fitV (k + 1) L S = f + 1 by rw [HST.out, if_pos ⟨hfit, hf4⟩])
          go_wp2_with fail
          go_roundw
          case rel => exact ⟨k + 1, by rw [HK1.out]; simp; omega, by rw [HR.out]; simp, by first | rfl | go_num, by omega, HB5.out⟩
          case measure => simp [intOf]; omega
        · have g3 : ¬ (f : Int) < 1024 := by omega
          have g4 : decide ((f : Int) < 1024) = false := decide_eq_false g3
          have HR := Lib.hid (show fitV (k + 1) L S = f by rw [HST.out, if_neg (fun h => hf4 h.2)])
          go_wp2_with fail
          go_roundw
          case rel => exact ⟨k + 1, by rw [HK1.out]; simp; omega, by rw [HR.out], by first | rfl | go_num, by omega, HB5.out⟩
          case measure => simp [intOf]; omega
      · have g1 : ¬ (0 : Int) ≤ (L : Int) - (K : Int) - (S : Int) := by omega
        have g2 : decide ((0 : Int) ≤ (L : Int) - (K : Int) - (S : Int)) = false := decide_eq_false g1
        have HR := Lib.hid (show fitV (k + 1) L S = f by rw [HST.out, if_neg (fun h => hfit h.1)])
        go_wp2_with fail
        go_roundw
        case rel => exact ⟨k + 1, by rw [HK1.out]; simp; omega, by rw [HR.out], by first | rfl | go_num, by omega, HB5.out⟩
        case measure => simp [intOf]; omega
    · obtain rfl : k = n := by omega
      go_wp2_with fail
      go_ret
      exact ⟨rfl, HBr.out⟩
end Go.Proofs.YtpeagakpmjnelaaDoor.Ax
