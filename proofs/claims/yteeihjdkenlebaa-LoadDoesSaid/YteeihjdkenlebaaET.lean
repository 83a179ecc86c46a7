/- load: the document's Sub and Fits; LoadDoes' walk. -/
import Derived.Test.YteeihjdkenlebaaEJ
import Derived.Test.YteeihjdkenlebaaEC
import Derived.Test.YteeihjdkenlebaaED
import Derived.Test.YteeihjdkenlebaaE6
import Derived.Deep.RegionHeldLaw
namespace Go.Proofs.Yteeihjdkenlebaa
open Go.RowKit Go.Maps Go.Joins Go.Deep
set_option linter.unusedVariables false
set_option linter.unusedSimpArgs false
set_option maxRecDepth 100000

set_option maxHeartbeats 8000000 in
theorem rlsub2_any (w : World) (X : Nat) (q : Option Addr) (L : List Lo) (n cap : Nat) (ov : Bool) (h : RlAt w X q L n cap ov) (hm : n < 1000000) (f : Int → Option Int) (hL : AllL f L) (i x : Int) (hi : (Lit.int .i64 i).wf = true) :
    Calls Try.prog 13 #[.pointer (some ⟨X, 0, none⟩), .int .i64 i, .int .i64 x] w fun e w' => e = .returned (.tuple #[]) ∧ RlTo w w' X (n + 1) (chF sub f i x) (ov || (near x == 9007199254740991)) := by
  have HNR := Lib.hid (rnear_any x w)
  have HOV := Lib.hid (fun o => h.over o)
  obtain ⟨v, hv⟩ : ∃ v, (f i).getD 0 = v := ⟨_, rfl⟩
  obtain ⟨N, hN⟩ : ∃ N, near x = N := ⟨_, rfl⟩
  have HOF := Lib.hid (fun o => show Calls Try.prog 18 #[.pointer (some ⟨X, 0, none⟩), .int .i64 i] (w.setCell ⟨X, 1, none⟩ (.bool o)) fun e w' => e = .returned (.int .i64 v) ∧ (w.setCell ⟨X, 1, none⟩ (.bool o)) = w' from hv ▸ rlof_any _ X q L n cap o (h.over o).1 hm f hL i)
  obtain ⟨S, hS⟩ : ∃ S, sub v x = S := ⟨_, rfl⟩
  have HRA := Lib.hid (fun (u : World) => show Calls Try.prog 34 #[.int .i64 v, .int .i64 N] u fun e w' => e = .returned (.int .i64 S) ∧ u = w' from by
    have h := rsub_any v N u
    rw [show sub v N = S from by rw [← hS, ← hN]; unfold sub; rw [near_near]] at h
    exact h)
  rw [hN] at HNR ⊢
  have hS0 : 0 ≤ S := hS ▸ near_lo _
  have hS1 : S ≤ 9007199254740991 := hS ▸ near_hi _
  have HCF := Lib.hid (show chF sub f i x = if 0 ≤ i then setL f i S else f from by unfold chF; rw [hv, hS])
  have HSET := Lib.hid (fun o => rlset_any _ X q L n cap o (h.over o).1 hm f hL i S hi hS0 hS1)
  have HL := Lib.hid hL
  have c1 : w.cell? ⟨X, 1, none⟩ = some (.bool ov) := h.blk.cellAt rfl
  have f1 := h.blk.f 1
  clear hv hN hS h hL hS0 hS1
  by_cases h0 : 0 ≤ i
  · have t0 : decide (0 ≤ i) = true := decide_eq_true h0
    rcases ov with _ | _
    · by_cases hN : N = 9007199254740991
      · skip
        have e1 : decide (N = 9007199254740991) = true := decide_eq_true hN
        have NE : (N == 9007199254740991) = true := by simpa using hN
        clear hN
        go_enter Try.func13, Try.ntmps13
        go_wp2_with (first | (go_at_call 29; refine HNR.out.mono ?_; rintro e w' ⟨rfl, rfl⟩) | (go_at_call 18; refine (HOF.out true).mono ?_; rintro e w' ⟨rfl, rfl⟩) | (go_at_call 34; refine (HRA.out _).mono ?_; rintro e w' ⟨rfl, rfl⟩) | (go_at_call 31; refine (HSET.out true).mono ?_; rintro e W2 ⟨rfl, hto⟩))
        go_end0
        have hco : (false || (N == 9007199254740991)) = true := by simp [NE]
        obtain ⟨q', L', n', cap', h1, h2, h3, h4⟩ := hto
        exact ⟨rfl, q', L', n', cap', by rw [hco]; exact h1, by rw [HCF.out, if_pos (by omega)]; exact h2, h3, (HOV.out true).2.trans h4⟩
      · skip
        have e1 : decide (N = 9007199254740991) = false := decide_eq_false hN
        have NE : (N == 9007199254740991) = false := by simpa using hN
        clear hN
        go_enter Try.func13, Try.ntmps13
        go_wp2_with (first | (go_at_call 29; refine HNR.out.mono ?_; rintro e w' ⟨rfl, rfl⟩) | (go_at_call 18; refine (HOF.out false).mono ?_; rintro e w' ⟨rfl, rfl⟩) | (go_at_call 34; refine (HRA.out _).mono ?_; rintro e w' ⟨rfl, rfl⟩) | (go_at_call 31; refine (HSET.out false).mono ?_; rintro e W2 ⟨rfl, hto⟩))
        go_end0
        have hco : (false || (N == 9007199254740991)) = false := by simp [NE]
        obtain ⟨q', L', n', cap', h1, h2, h3, h4⟩ := hto
        exact ⟨rfl, q', L', n', cap', by rw [hco]; exact h1, by rw [HCF.out, if_pos (by omega)]; exact h2, h3, (HOV.out false).2.trans h4⟩
    · skip
      go_enter Try.func13, Try.ntmps13
      go_wp2_with (first | (go_at_call 29; refine HNR.out.mono ?_; rintro e w' ⟨rfl, rfl⟩) | (go_at_call 18; refine (HOF.out true).mono ?_; rintro e w' ⟨rfl, rfl⟩) | (go_at_call 34; refine (HRA.out _).mono ?_; rintro e w' ⟨rfl, rfl⟩) | (go_at_call 31; refine (HSET.out true).mono ?_; rintro e W2 ⟨rfl, hto⟩))
      go_end0
      have hco : (true || (N == 9007199254740991)) = true := by simp
      obtain ⟨q', L', n', cap', h1, h2, h3, h4⟩ := hto
      exact ⟨rfl, q', L', n', cap', by rw [hco]; exact h1, by rw [HCF.out, if_pos (by omega)]; exact h2, h3, (HOV.out true).2.trans h4⟩
  · have t0 : decide (0 ≤ i) = false := decide_eq_false h0
    rcases ov with _ | _
    · by_cases hN : N = 9007199254740991
      · skip
        have e1 : decide (N = 9007199254740991) = true := decide_eq_true hN
        have NE : (N == 9007199254740991) = true := by simpa using hN
        clear hN
        go_enter Try.func13, Try.ntmps13
        go_wp2_with (first | (go_at_call 29; refine HNR.out.mono ?_; rintro e w' ⟨rfl, rfl⟩) | (go_at_call 18; refine (HOF.out true).mono ?_; rintro e w' ⟨rfl, rfl⟩) | (go_at_call 34; refine (HRA.out _).mono ?_; rintro e w' ⟨rfl, rfl⟩) | (go_at_call 31; refine (HSET.out true).mono ?_; rintro e W2 ⟨rfl, hto⟩))
        go_end0
        have hco : (false || (N == 9007199254740991)) = true := by simp [NE]
        exact ⟨rfl, q, L, n, cap, by rw [hco]; exact (HOV.out true).1, by rw [HCF.out, if_neg (by omega)]; exact HL.out, by omega, (HOV.out true).2⟩
      · skip
        have e1 : decide (N = 9007199254740991) = false := decide_eq_false hN
        have NE : (N == 9007199254740991) = false := by simpa using hN
        clear hN
        go_enter Try.func13, Try.ntmps13
        go_wp2_with (first | (go_at_call 29; refine HNR.out.mono ?_; rintro e w' ⟨rfl, rfl⟩) | (go_at_call 18; refine (HOF.out false).mono ?_; rintro e w' ⟨rfl, rfl⟩) | (go_at_call 34; refine (HRA.out _).mono ?_; rintro e w' ⟨rfl, rfl⟩) | (go_at_call 31; refine (HSET.out false).mono ?_; rintro e W2 ⟨rfl, hto⟩))
        go_end0
        have hco : (false || (N == 9007199254740991)) = false := by simp [NE]
        exact ⟨rfl, q, L, n, cap, by rw [hco]; exact (HOV.out false).1, by rw [HCF.out, if_neg (by omega)]; exact HL.out, by omega, (HOV.out false).2⟩
    · skip
      go_enter Try.func13, Try.ntmps13
      go_wp2_with (first | (go_at_call 29; refine HNR.out.mono ?_; rintro e w' ⟨rfl, rfl⟩) | (go_at_call 18; refine (HOF.out true).mono ?_; rintro e w' ⟨rfl, rfl⟩) | (go_at_call 34; refine (HRA.out _).mono ?_; rintro e w' ⟨rfl, rfl⟩) | (go_at_call 31; refine (HSET.out true).mono ?_; rintro e W2 ⟨rfl, hto⟩))
      go_end0
      have hco : (true || (N == 9007199254740991)) = true := by simp
      exact ⟨rfl, q, L, n, cap, by rw [hco]; exact (HOV.out true).1, by rw [HCF.out, if_neg (by omega)]; exact HL.out, by omega, (HOV.out true).2⟩

theorem rlfits_any (w : World) (X : Nat) (q : Option Addr) (L : List Lo) (n cap : Nat) (ov : Bool) (h : RlAt w X q L n cap ov) (hm : n < 1000000) (f : Int → Option Int) (hL : AllL f L) (i x l : Int) :
    Calls Try.prog 20 #[.pointer (some ⟨X, 0, none⟩), .int .i64 i, .int .i64 x, .int .i64 l] w fun e w' => e = .returned (.bool (fitsV f ov i x l)) ∧ w = w' := by
  have HO := Lib.hid (rlof_any w X q L n cap ov h hm f hL i)
  have c1 : w.cell? ⟨X, 1, none⟩ = some (.bool ov) := h.blk.cellAt rfl
  obtain ⟨v, hv⟩ : ∃ v, (f i).getD 0 = v := ⟨_, rfl⟩
  rw [hv] at HO
  have HR := Lib.hid (radd_any v x w)
  obtain ⟨y, hy⟩ : ∃ y, add v x = y := ⟨_, rfl⟩
  rw [hy] at HR
  have HF := Lib.hid (show fitsV f ov i x l = (decide (0 ≤ i) && !ov && decide (y ≤ l)) from by unfold fitsV; rw [hv, hy])
  clear hv hy h hL
  by_cases h0 : 0 ≤ i
  · have t0 : decide (0 ≤ i) = true := decide_eq_true h0
    rw [t0] at HF
    rcases ov with _ | _
    · go_enter Try.func20, Try.ntmps20
      go_wp2_with (first | (go_at_call 18; refine HO.out.mono ?_; rintro e w' ⟨rfl, rfl⟩) | (go_at_call 30; refine HR.out.mono ?_; rintro e w' ⟨rfl, rfl⟩))
      go_ret
      exact ⟨by rw [HF.out]; simp, rfl⟩
    · go_enter Try.func20, Try.ntmps20
      go_wp2_with fail
      go_ret
      exact ⟨by rw [HF.out]; rfl, rfl⟩
  · have t0 : decide (0 ≤ i) = false := decide_eq_false h0
    rw [t0] at HF
    go_enter Try.func20, Try.ntmps20
    go_wp2_with fail
    go_ret
    exact ⟨by rw [HF.out]; rfl, rfl⟩
end Go.Proofs.Yteeihjdkenlebaa
