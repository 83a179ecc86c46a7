/- NlriSorts: the walk. -/
import Derived.Test.YtgmcjejgginpjaaMk8
namespace Go.Proofs.Ytgmcjejgginpjaa
open Go.RowKit Go.Sort Go.Shelf

theorem cmpN_minus {x y : Nl} (h : ltN x y) : cmpN x y = -1 := by
  obtain ⟨i, a, n⟩ := x
  obtain ⟨j, b, m⟩ := y
  unfold cmpN cmpP
  unfold ltN at h
  simp only at *
  by_cases h1 : a = b ∧ n = m
  · rw [if_pos h1]
    simp only [ne_eq, not_true, if_false]
    rw [if_pos (by omega)]
  · have h2 : a < b ∨ a = b ∧ n < m := by omega
    rw [if_neg h1, if_pos h2, if_pos (by omega)]
theorem srt_nodup {ss : List Nl} (h : Srt ss) : ss.Nodup := by
  unfold Srt at h
  exact List.Pairwise.imp (fun {a b} (hl : ltN a b) (e : a = b) => ltN_irrefl b (by rw [e] at hl; exact hl)) h
theorem srt_step {ss : List Nl} (h : Srt ss) (i : Nat) (hi : i + 1 < ss.length) : ltN (ss.getD i Nl.none) (ss.getD (i + 1) Nl.none) := by
  have := List.pairwise_iff_getElem.1 h i (i + 1) (by omega) hi (by omega)
  simpa [List.getD, List.getElem?_eq_getElem hi, List.getElem?_eq_getElem (show i < ss.length by omega)] using this

/-- So far each stands below the next. -/
def SrtR (W : World) (k : Nat) (v : Value) (wr : World) : Prop := ∃ i : Nat, v = .int .i64 ((i + 1 : Nat) : Int) ∧ (i < k ∨ i = 0) ∧ Below W.heap.size W wr

set_option maxRecDepth 100000 in
set_option maxHeartbeats 4000000 in
theorem sorts06_any (q : Option Addr) (l : List Nl) (n c : Nat) (w : World) (hl : NlsAt w q l) (hok : ∀ x ∈ l, okN x) (hn : l.length = n) :
    Calls Try.prog 7 #[.slice q n c] w fun e w' => e = .returned (.bool true) ∧ Below w.heap.size w w' := by
  by_cases hbig : 200 < n
  · have t1 : decide (200 < (n : Int)) = true := by simp; omega
    have HL := Lib.hid (lives06_any w)
    clear hl hok hn
    go_enter Try.func7, Try.ntmps7
    go_wp2_with fail
    refine HL.out.mono ?_; rintro e w1 ⟨rfl, hb1⟩
    have HB1 := Lib.hid hb1
    clear hb1
    go_wp2_with fail
    go_ret
    exact ⟨rfl, HB1.out⟩
  · have t1 : decide (200 < (n : Int)) = false := by simp; omega
    have HS := Lib.hid (sortNl_any q n c l w hl hn hok (by omega))
    have HOK := Lib.hid hok
    have HN := Lib.hid hn
    clear hl hok hn
    go_enter Try.func7, Try.ntmps7
    go_wp2_with fail
    refine HS.out.mono ?_; rintro e w1 ⟨q1, k, c1, ss, rfl, hk, hs1, hb1⟩
    have hkn : k ≤ n := by
      have := nodup_le (srt_nodup hs1.srt) fun x hx => (hs1.mem x).1 hx
      have := HN.out
      omega
    have HB1 := Lib.hid hb1
    have HS1 := Lib.hid hs1
    have HK := Lib.hid hk
    clear hb1 hs1 hk HS
    go_wp2_with fail
    go_loopw [4] (fun v wr => SrtR w1 k v wr) (fun v _ => k - (intOf v).toNat)
    case atStart => exact ⟨0, rfl, .inr rfl, Below.refl _ _⟩
    case round =>
      obtain ⟨i, hv, hi, hbw⟩ := hrel
      obtain ⟨j, hj⟩ : ∃ j, i + 1 = j := ⟨_, rfl⟩
      rw [hj] at hv
      subst hv
      have HB := Lib.hid hbw
      have hat := HS1.out.at_.below hbw
      by_cases hlt : j < k
      · have t2 : decide ((j : Int) < (k : Int)) = true := by simp; omega
        have hw : IntKind.i64.wrap ((j : Int) - 1) = (i : Int) := by rw [IntKind.wrap_i64]; omega
        obtain ⟨bl, off, rfl, ⟨d0, d1, d2⟩, had⟩ := nl_cell hat HK.out (show i < k by omega)
        obtain ⟨bl2, off2, he, ⟨d3, d4, d5⟩, _⟩ := nl_cell hat HK.out hlt
        obtain ⟨rfl, rfl⟩ : bl = bl2 ∧ off = off2 := by simpa using he
        have hcm := cmpN_minus (srt_step HS1.out.srt i (by have := HK.out; omega))
        rw [hj] at hcm
        generalize ss.getD i Nl.none = x at *
        generalize ss.getD j Nl.none = y at *
        obtain ⟨xi, xa, xl⟩ := x
        obtain ⟨yi, ya, yl⟩ := y
        dsimp only at d0 d1 d2 d3 d4 d5
        have P := Lib.hid (compareNl_any xi xa xl yi ya yl wr.drew)
        rw [hcm] at P
        have hS : wr.drew.cell? ⟨bl, off + i * 3, none⟩ = some (.int .i64 xi) ∧ wr.drew.cell? ⟨bl, off + i * 3 + 1, none⟩ = some (.int .u32 xa) ∧ wr.drew.cell? ⟨bl, off + i * 3 + 2, none⟩ = some (.int .i64 xl) ∧ wr.drew.cell? ⟨bl, off + j * 3, none⟩ = some (.int .i64 yi) ∧ wr.drew.cell? ⟨bl, off + j * 3 + 1, none⟩ = some (.int .u32 ya) ∧ wr.drew.cell? ⟨bl, off + j * 3 + 2, none⟩ = some (.int .i64 yl) := ⟨d0, d1, d2, d3, d4, d5⟩
        have HSN := Lib.hid (fun (u : World) (hu : Below wr.heap.size wr u) => And.intro (kept hu d0) (And.intro (kept hu d1) (And.intro (kept hu d2) (And.intro (kept hu d3) (And.intro (kept hu d4) (kept hu d5))))))
        clear d0 d1 d2 d3 d4 d5 hat hcm he had hbw
        go_wp2_with fail
        go_region_held_law (fun w' => w'.cell? ⟨bl, off + i * 3, none⟩ = some (.int .i64 xi) ∧ w'.cell? ⟨bl, off + i * 3 + 1, none⟩ = some (.int .u32 xa) ∧ w'.cell? ⟨bl, off + i * 3 + 2, none⟩ = some (.int .i64 xl) ∧ w'.cell? ⟨bl, off + j * 3, none⟩ = some (.int .i64 yi) ∧ w'.cell? ⟨bl, off + j * 3 + 1, none⟩ = some (.int .u32 ya) ∧ w'.cell? ⟨bl, off + j * 3 + 2, none⟩ = some (.int .i64 yl)) (with_reducible assumption) (first
          | (go_at_call 18; refine P.out.mono ?_; rintro e w3 ⟨rfl, hb3⟩; have hS3 := HSN.out w3 ((Below.refl wr.heap.size wr).drew.trans hb3)))
        all_goals go_wp2_with fail
        all_goals go_roundw
        case rel => exact ⟨j, by first | rfl | go_num | (exact congrArg (Value.int .i64) (by omega)), by omega, HB.out.trans (((Below.refl _ _).drew.trans hb3).mono HB.out.size)⟩
        case measure => simp [intOf]; omega
      · have t2 : decide ((j : Int) < (k : Int)) = false := by simp; omega
        have HAT := Lib.hid hat
        have HLV := Lib.hid (lives06_any wr)
        clear hat hbw
        go_wp2_with fail
        refine HLV.out.mono ?_; rintro e w3 ⟨rfl, hb3⟩
        have HB3 := Lib.hid (HB.out.trans (hb3.mono HB.out.size))
        have HA3 := Lib.hid (HAT.out.below hb3)
        have hokS : ∀ x ∈ ss, okN x := fun x hx => HOK.out x ((HS1.out.mem x).1 hx)
        have HS3 := Lib.hid (sortNl_any q1 k c1 ss w3 HA3.out HK.out hokS (by omega))
        clear hb3 HLV HAT HB hokS
        go_wp2_with fail
        refine HS3.out.mono ?_; rintro e w4 ⟨q4, k4, c4, ts, rfl, hk4, hs4, hb4⟩
        have hts : ts = ss := Srt.unique hs4.srt HS1.out.srt hs4.mem
        subst hts
        obtain rfl : k = k4 := by rw [← hk4]; exact HK.out.symm
        have HB4 := Lib.hid (HB3.out.trans (hb4.mono HB3.out.size))
        have HP := Lib.hid (rsameNl_yes q4 q1 ts k c4 c1 w4 hs4.at_ (HA3.out.below hb4) hk4 (by unfold maxLen; omega))
        have hle : decide ((k : Int) ≤ (n : Int)) = true := by simp; omega
        clear hb4 hs4 hk4 HS3 HB3 HA3
        go_wp2_with fail
        refine HP.out.mono ?_; rintro e w5 ⟨rfl, hb5⟩
        have HB5 := Lib.hid (HB4.out.trans (hb5.mono HB4.out.size))
        clear hb5
        go_wp2_with fail
        go_ret
        exact ⟨rfl, HB1.out.trans (HB5.out.mono HB1.out.size)⟩
theorem sorts06_walk (w : World) (x : Option Addr × List Nl × Nat) (hat : NlsAt w x.1 x.2.1) (hok : ∀ m ∈ x.2.1, okN m) :
    Calls Try.prog 7 #[.slice x.1 x.2.1.length x.2.2] w fun e w' => e = .returned (.bool true) ∧ Below w.heap.size w w' := sorts06_any _ _ _ _ w hat hok rfl
end Go.Proofs.Ytgmcjejgginpjaa
