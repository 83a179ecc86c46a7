/- load: LoadSums' walk. -/
import Derived.Test.YteeihjdkenlebaaEC
import Derived.Test.YteeihjdkenlebaaED
namespace Go.Proofs.Yteeihjdkenlebaa
open Go.RowKit Go.Maps
set_option linter.unusedVariables false
set_option linter.unusedSimpArgs false
set_option maxRecDepth 100000

def sm : List Int → Int
  | [] => 0
  | x :: t => x + sm t
theorem sm_snoc (l : List Int) (x : Int) : sm (l ++ [x]) = sm l + x := by
  induction l with
  | nil => simp [sm]
  | cons y t ih => simp only [List.cons_append, sm, ih]; omega
theorem sm_bd {l : List Int} (h : ∀ x ∈ l, 0 ≤ x ∧ x ≤ 1099511627776) : 0 ≤ sm l ∧ sm l ≤ 1099511627776 * l.length := by
  induction l with
  | nil => exact ⟨Int.le_refl _, by simp [sm]⟩
  | cons y t ih =>
    have h1 := h y List.mem_cons_self
    have h2 := ih fun x hx => h x (List.mem_cons_of_mem _ hx)
    simp only [sm, List.length_cons]
    omega
/-- One interface alone. -/
def stF (i S : Int) : Int → Option Int := fun y => if y = i then (if S = 0 then none else some S) else none
theorem stF_get (i S : Int) : (stF i S i).getD 0 = S := by
  unfold stF
  rw [if_pos rfl]
  split
  · rename_i h; exact h.symm
  · rfl
theorem setL_st (i S v : Int) : setL (stF i S) i v = stF i v := by
  funext y
  by_cases hv : v = 0 <;> by_cases e : y = i <;> simp [setL, delF, putF, stF, hv, e]
theorem st_add {i S x : Int} (hi : 0 ≤ i) (h0 : 0 ≤ S) (hx : 0 ≤ x) (h1 : S + x < 9007199254740991) : chF add (stF i S) i x = stF i (S + x) ∧ chO add (stF i S) false i x = false := by
  have e : add ((stF i S i).getD 0) x = S + x := by
    rw [stF_get]; unfold add
    rw [near_id (n := S) h0 (by omega), near_id (n := x) hx (by omega), near_id (by omega) (by omega)]
  constructor
  · unfold chF; rw [if_pos hi, e, setL_st]
  · unfold chO
    rw [e, near_id (n := x) hx (by omega)]
    simp
    omega
theorem st_sub {i S x : Int} (hi : 0 ≤ i) (h0 : 0 ≤ x) (hx : x ≤ S) (h1 : S < 9007199254740991) : chF sub (stF i S) i x = stF i (S - x) ∧ chO sub (stF i S) false i x = false := by
  have e : sub ((stF i S i).getD 0) x = S - x := by
    rw [stF_get]; unfold sub
    rw [near_id (n := S) (by omega) (by omega), near_id (n := x) h0 (by omega), near_id (by omega) (by omega)]
  constructor
  · unfold chF; rw [if_pos hi, e, setL_st]
  · unfold chO
    rw [e, near_id (n := x) h0 (by omega)]
    simp
    omega
theorem st0 (i : Int) : stF i 0 = fun _ => none := by funext y; unfold stF; split <;> rfl
theorem allL_nil : AllL (fun _ => none) [] := ⟨List.Pairwise.nil, fun i v => ⟨fun h => by simp at h, fun h => by cases h⟩⟩
theorem sm_split (l : List Int) (k : Nat) : sm l = sm (l.take k) + sm (l.drop k) := by
  induction l generalizing k with
  | nil => simp [sm]
  | cons y t ih =>
    cases k with
    | zero => simp [sm]
    | succ k => simp only [List.take_succ_cons, List.drop_succ_cons, sm]; rw [ih k]; omega
theorem take_snoc {l : List Int} {k n : Nat} (hn : l.length = n) (hk : k < n) : l.take (k + 1) = l.take k ++ [l.getD k 0] := by rw [List.take_add_one]; simp [List.getD, show k < l.length by omega]
set_option maxHeartbeats 4000000 in
theorem ldsums_walk (w : World) (p : Option Addr) (l : List Int) (n c : Nat) (hat : LAt inC InI 0 1 w p l) (hn : l.length = n) (hm : n ≤ maxLen) (i : Int) (hi : (Lit.int .i64 i).wf = true) :
    Calls Try.prog 5 #[.slice p n c, .int .i64 i] w fun e w' => e = .returned (.bool true) ∧ Below w.heap.size w w' := by
  unfold maxLen at hm
  have HAT := Lib.hid hat
  have HN := Lib.hid hn
  have HLV := Lib.hid lives21_any
  have HI := Lib.hid hi
  clear hat hn hi
  go_enter Try.func5, Try.ntmps5
  go_wp2_with fail
  refine (ldnew_any _).mono ?_
  rintro e W0 ⟨g, b, rfl, hl, hB, hg, hb⟩
  have HL0 := Lib.hid hl
  have HB0 := Lib.hid hB
  have HG := Lib.hid hg
  have HBB := Lib.hid hb
  clear hl hB hg hb
  by_cases h0 : i < 0
  · have t0 : decide (i < 0) = true := decide_eq_true h0
    go_wp2_with fail
    refine (HLV.out W0).mono ?_
    rintro e W1 ⟨rfl, hB1⟩
    have HB1 := Lib.hid (HB0.out.trans (hB1.mono HB0.out.size))
    clear hB1
    go_wp2_with fail
    refine (HLV.out W1).mono ?_
    rintro e W2 ⟨rfl, hB2⟩
    go_wp2_with fail
    go_ret
    exact ⟨rfl, HB1.out.trans (hB2.mono HB1.out.size)⟩
  have t0 : decide (i < 0) = false := decide_eq_false h0
  have hi0 : 0 ≤ i := by omega
  by_cases h1 : 500 < n
  · have t1 : decide (500 < (n : Int)) = true := decide_eq_true (by omega)
    go_wp2_with fail
    refine (HLV.out W0).mono ?_
    rintro e W1 ⟨rfl, hB1⟩
    have HB1 := Lib.hid (HB0.out.trans (hB1.mono HB0.out.size))
    clear hB1
    go_wp2_with fail
    refine (HLV.out W1).mono ?_
    rintro e W2 ⟨rfl, hB2⟩
    go_wp2_with fail
    go_ret
    exact ⟨rfl, HB1.out.trans (hB2.mono HB1.out.size)⟩
  have t1 : decide (500 < (n : Int)) = false := decide_eq_false (by omega)
  go_wp2_with fail
  refine (HLV.out W0).mono ?_
  rintro e W1 ⟨rfl, hB1⟩
  have HB1 := Lib.hid (HB0.out.trans (hB1.mono HB0.out.size))
  have HL1 := Lib.hid (HL0.out.next hB1)
  clear hB1 HL0 HB0
  go_wp2_with fail
  go_loopw [7, 6] (fun iv sv wr => ∃ k : Nat, k ≤ n ∧ iv = .int .i64 k ∧ sv = .int .i64 (sm (l.take k)) ∧ (∀ x ∈ l.take k, 0 ≤ x ∧ x ≤ 1099511627776) ∧ (∃ n' s', n' ≤ k ∧ LdAt wr g b n' s' (stF i (sm (l.take k))) false) ∧ Below w.heap.size w wr) (fun iv _ _ => n - (intOf iv).toNat)
  case atStart => exact ⟨0, Nat.zero_le _, rfl, rfl, fun x hx => by simp at hx, ⟨0, 0, Nat.le_refl _, by rw [List.take_zero]; show LdAt W1 g b 0 0 (stF i 0) false; rw [st0]; exact HL1.out⟩, HB1.out⟩
  case round =>
    obtain ⟨k, hk, rfl, rfl, hall, ⟨n', s', hn', hl⟩, hB⟩ := hrel
    have HALL := Lib.hid hall
    have HNK := Lib.hid hn'
    have HL := Lib.hid hl
    have HB := Lib.hid hB
    clear hn' hl hB
    by_cases hlt : k < n
    · have hltI : (k : Int) < (n : Int) := by omega
      obtain ⟨r, off, rfl, e0⟩ := in_cell (HAT.out.below HB.out) HN.out hlt
      have HX := Lib.hid (take_snoc HN.out hlt)
      obtain ⟨x, hx⟩ : ∃ x, l.getD k 0 = x := ⟨_, rfl⟩
      rw [hx] at e0 HX
      have HE := Lib.hid (fun (u : World) (hu : Below w.heap.size w u) => show u.cell? ⟨r, off + k, none⟩ = some (.int .i64 x) from by
        obtain ⟨r', off', h1, h2⟩ := in_cell (HAT.out.below hu) HN.out hlt
        simp only [Option.some.injEq, Addr.mk.injEq, and_true] at h1
        obtain ⟨rfl, rfl⟩ := h1
        rw [← hx]; exact h2)
      clear hx
      by_cases hx0 : x < 0
      · have t2 : decide (x < 0) = true := decide_eq_true hx0
        clear hall
        go_wp2_with fail
        go_ret
        exact ⟨rfl, HB.out⟩
      have t2 : decide (x < 0) = false := decide_eq_false hx0
      by_cases hx1 : 1099511627776 < x
      · have t3 : decide (1099511627776 < x) = true := decide_eq_true hx1
        clear hall
        go_wp2_with fail
        go_ret
        exact ⟨rfl, HB.out⟩
      have t3 : decide (1099511627776 < x) = false := decide_eq_false hx1
      have hbd := sm_bd hall
      have hlen : (l.take k).length = k := by rw [List.length_take, HN.out]; omega
      rw [hlen] at hbd
      obtain ⟨S, hS⟩ : ∃ S, sm (l.take k) = S := ⟨_, rfl⟩
      have HS1 := Lib.hid (show sm (l.take (k + 1)) = S + x from by rw [HX.out, sm_snoc, hS])
      have HS := Lib.hid hS
      rw [hS] at hbd HL ⊢
      have hst := st_add (x := x) hi0 hbd.1 (by omega) (show S + x < 9007199254740991 by omega)
      have HA := Lib.hid (ldadd_any wr g b n' s' _ _ HL.out (by have := HNK.out; omega) i x HI.out)
      rw [hst.1, hst.2] at HA
      have hSx : S + x ≤ 9223372036854775807 := by omega
      have hSx0 : -9223372036854775808 ≤ S + x := by omega
      clear hall hS hlen hst
      go_wp2_with fail
      refine HA.out.mono ?_
      rintro e W2 ⟨rfl, n2, s2, hn2, hl2, hT2⟩
      have HL2 := Lib.hid hl2
      have HB2 := Lib.hid (HB.out.trans (hT2.below HB.out.size fun k hk => by have h1 := HG.out; have h2 := HBB.out; rcases hk with rfl | rfl <;> assumption))
      have HN2 := Lib.hid (show n2 ≤ k + 1 from by have := HNK.out; omega)
      have e1 : W2.cell? ⟨r, off + k, none⟩ = some (.int .i64 x) := HE.out W2 HB2.out
      have HOV := Lib.hid (ldover_any W2 g b n2 s2 _ _ HL2.out)
      have HOF := Lib.hid (ldof_any W2 g b n2 s2 _ _ HL2.out i HI.out)
      rw [stF_get] at HOF
      clear hn2 hl2 hT2 HA
      go_wp2_with (first | (go_at_call 16; (with_reducible refine HOV.out.mono ?_); rintro e w' ⟨rfl, rfl⟩) | (go_at_call 17; (with_reducible refine HOF.out.mono ?_); rintro e w' ⟨rfl, rfl⟩))
      go_roundw
      case rel =>
        refine ⟨k + 1, by omega, by go_num, by rw [HS1.out], fun y hy => ?_, ⟨n2, s2, HN2.out, by rw [HS1.out]; exact HL2.out⟩, HB2.out⟩
        rw [HX.out] at hy
        rcases List.mem_append.1 hy with hy | hy
        · exact HALL.out y hy
        · rw [List.mem_singleton] at hy
          subst hy
          omega
      case measure => simp [intOf]; omega
    · obtain rfl : k = n := by omega
      have hall2 := hall
      have e : l.take k = l := List.take_of_length_le (by rw [HN.out]; exact Nat.le_refl _)
      rw [e] at hall2 HL ⊢
      have hbd := sm_bd hall2
      rw [HN.out] at hbd
      have HALL := Lib.hid hall2
      obtain ⟨S, hS⟩ : ∃ S, sm l = S := ⟨_, rfl⟩
      rw [hS] at hbd HL ⊢
      have HSS := Lib.hid hS
      have hkI : ¬ (k : Int) < (k : Int) := by omega
      clear hall hall2 e hS
      go_wp2_with fail
      go_loopw [8] (fun iv vr => ∃ j : Nat, j ≤ k ∧ iv = .int .i64 j ∧ (∃ n' s', n' ≤ k + j ∧ LdAt vr g b n' s' (stF i (S - sm (l.take j))) false) ∧ Below w.heap.size w vr) (fun iv _ => k - (intOf iv).toNat)
      case atStart => exact ⟨0, Nat.zero_le _, rfl, ⟨n', s', HNK.out, by rw [List.take_zero]; show LdAt wr g b n' s' (stF i (S - 0)) false; rw [Int.sub_zero]; exact HL.out⟩, HB.out⟩
      case round =>
        obtain ⟨j, hj, rfl, ⟨n3, s3, hn3, hl3⟩, hB3⟩ := hrel
        have HN3 := Lib.hid hn3
        have HL3 := Lib.hid hl3
        have HB3 := Lib.hid hB3
        clear hn3 hl3 hB3
        by_cases hlt : j < k
        · have hltI : (j : Int) < (k : Int) := by omega
          obtain ⟨r, off, rfl, e0⟩ := in_cell (HAT.out.below HB3.out) HN.out hlt
          have HX := Lib.hid (take_snoc HN.out hlt)
          obtain ⟨x, hx⟩ : ∃ x, l.getD j 0 = x := ⟨_, rfl⟩
          rw [hx] at e0 HX
          have hxm : x ∈ l := by rw [← hx]; simp [List.getD, show j < l.length by have := HN.out; omega]
          have hx0 := HALL.out x hxm
          obtain ⟨T, hT⟩ : ∃ T, S - sm (l.take j) = T := ⟨_, rfl⟩
          have hT1 : S - sm (l.take (j + 1)) = T - x := by rw [HX.out, sm_snoc, ← hT]; omega
          have hle : sm (l.take (j + 1)) ≤ S := by
            have h1 := sm_split l (j + 1)
            have h2 := (sm_bd (l := l.drop (j + 1)) fun y hy => HALL.out y (List.mem_of_mem_drop hy)).1
            have h3 := HSS.out
            omega
          have hge : 0 ≤ sm (l.take j) := (sm_bd (l := l.take j) fun y hy => HALL.out y (List.mem_of_mem_take hy)).1
          rw [hT] at HL3
          have hst := st_sub (i := i) (x := x) hi0 hx0.1 (show x ≤ T by omega) (show T < 9007199254740991 by omega)
          have HA := Lib.hid (ldsub_any wr g b n3 s3 _ _ HL3.out (by have := HN3.out; omega) i x HI.out)
          rw [hst.1, hst.2] at HA
          have HT1 := Lib.hid hT1
          clear hx hxm hT hT1 hle hge hst hx0
          go_wp2_with fail
          refine HA.out.mono ?_
          rintro e W2 ⟨rfl, n2, s2, hn2, hl2, hT2⟩
          have HL2 := Lib.hid hl2
          have HB2 := Lib.hid (HB3.out.trans (hT2.below HB3.out.size fun k hk => by have h1 := HG.out; have h2 := HBB.out; rcases hk with rfl | rfl <;> assumption))
          have HN2 := Lib.hid (show n2 ≤ k + (j + 1) from by have := HN3.out; omega)
          clear hn2 hl2 hT2 HA
          go_wp2_with fail
          go_roundw
          case rel => exact ⟨j + 1, by omega, by go_num, ⟨n2, s2, HN2.out, by rw [HT1.out]; exact HL2.out⟩, HB2.out⟩
          case measure => simp [intOf]; omega
        · obtain rfl : j = k := by omega
          have e : l.take j = l := List.take_of_length_le (by rw [HN.out]; exact Nat.le_refl _)
          rw [e, HSS.out, Int.sub_self, st0] at HL3
          have HOF := Lib.hid (show Calls Try.prog 17 #[.pointer (some ⟨g, 0, none⟩), .int .i64 i] wr fun e w' => e = .returned (.int .i64 0) ∧ wr = w' from ldof_any wr g b n3 s3 _ _ HL3.out i HI.out)
          have HAL := Lib.hid (ldall_any wr g b n3 s3 _ _ HL3.out (by have := HN3.out; omega) (fun i v h => by cases h))
          clear e
          go_wp2_with (first | (go_at_call 17; (with_reducible refine HOF.out.mono ?_); rintro e w' ⟨rfl, rfl⟩) | (go_at_call 15; refine HAL.out.mono ?_; rintro e W9 ⟨q, cc, ll, rfl, hall, _, _, _, hB9⟩; obtain rfl : ll = [] := allL_unique hall allL_nil))
          go_ret
          exact ⟨rfl, HB3.out.trans (hB9.mono HB3.out.size)⟩
theorem ldsums_arg (w : World) (x : Option Addr × List Int × Nat) (g : NsArg w x) (i : Int) (hi : (Lit.int .i64 i).wf = true) :
    Calls Try.prog 5 #[.slice x.1 x.2.1.length x.2.2, .int .i64 i] w fun e w' => e = .returned (.bool true) ∧ Below w.heap.size w w' :=
  ldsums_walk w x.1 x.2.1 _ x.2.2 g.at_ rfl (Nat.le_trans g.le g.max) i hi
end Go.Proofs.Yteeihjdkenlebaa
