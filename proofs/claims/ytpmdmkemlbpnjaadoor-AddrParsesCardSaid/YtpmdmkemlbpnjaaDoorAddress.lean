/- The contract of addr's Address: a text of four bytes in digits, points between. -/
import Derived.Test.YtpmdmkemlbpnjaaDoorCut
namespace Go.Proofs.YtpmdmkemlbpnjaaDoor
open Go.RowKit

/-- The bytes that a text tells, k of them from here on. -/
def addrGo : Nat → List Int → List UInt8 → Option (List Int)
  | 0, acc, _ => some acc
  | k + 1, acc, l => match numOf 255 (cutL 46 l).1 with
    | none => none
    | some v => if (cutL 46 l).2.2 = decide (k ≠ 0) then addrGo k (acc ++ [v]) (cutL 46 l).2.1 else none
def addrL (l : List UInt8) : Option (List Int) := addrGo 4 [] l

theorem addrGo_none {k : Nat} {acc : List Int} {l : List UInt8} (h : numOf 255 (cutL 46 l).1 = none) : addrGo (k + 1) acc l = none := by
  rw [addrGo, h]
theorem addrGo_point {k : Nat} {acc : List Int} {l : List UInt8} {v : Int} (h : numOf 255 (cutL 46 l).1 = some v) (hp : (cutL 46 l).2.2 ≠ decide (k ≠ 0)) : addrGo (k + 1) acc l = none := by
  rw [addrGo, h]; dsimp only; rw [if_neg hp]
theorem addrGo_next {k : Nat} {acc : List Int} {l : List UInt8} {v : Int} (h : numOf 255 (cutL 46 l).1 = some v) (hp : (cutL 46 l).2.2 = decide (k ≠ 0)) : addrGo (k + 1) acc l = addrGo k (acc ++ [v]) (cutL 46 l).2.1 := by
  rw [addrGo, h]; dsimp only; rw [if_pos hp]

theorem cutL_len (c : UInt8) : ∀ l : List UInt8, (cutL c l).1.length ≤ l.length ∧ (cutL c l).2.1.length ≤ l.length
  | [] => by simp [cutL]
  | b :: l => by
    unfold cutL
    have := cutL_len c l
    split
    · simp
    · simp; omega

theorem digs_bd {most : Int} : ∀ {l : List UInt8} {n v : Int}, 0 ≤ n → n ≤ most → digs most n l = some v → 0 ≤ v ∧ v ≤ most
  | [], n, v, h0, h1, h => by simp [digs] at h; omega
  | c :: r, n, v, h0, h1, h => by
    unfold digs at h
    split at h
    · cases h
    · rename_i hc
      rw [(u8_lt c).1, (u8_lt c).2] at hc
      split at h
      · cases h
      · exact digs_bd (by omega) (by omega) h
theorem numOf_bd {most : Int} {l : List UInt8} {v : Int} (hm : 0 ≤ most) (h : numOf most l = some v) : 0 ≤ v ∧ v ≤ most := by
  rcases l with _ | ⟨c, r⟩
  · cases h
  · unfold numOf at h
    dsimp only at h
    split at h
    · cases h
    · exact digs_bd (Int.le_refl _) hm h

theorem getD_app (acc : List Int) (v : Int) (j : Nat) : (acc ++ [v]).getD j 0 = if j < acc.length then acc.getD j 0 else if j = acc.length then v else 0 := by
  rcases Nat.lt_trichotomy j acc.length with h | h | h
  · rw [if_pos h]; simp [List.getD, List.getElem?_append_left h]
  · subst h; rw [if_neg (by omega), if_pos rfl]; simp [List.getD]
  · rw [if_neg (by omega), if_neg (by omega)]
    simp [List.getD, List.getElem?_eq_none (show (acc ++ [v]).length ≤ j by simp; omega)]
theorem inByte_app {acc : List Int} {v : Int} (h : InByte acc) (h0 : 0 ≤ v) (h1 : v ≤ 255) : InByte (acc ++ [v]) := by
  intro i hi
  rw [getD_app]
  split
  · exact h i ‹_›
  · split <;> omega

def AddrOut (o : Option (List Int)) (e : Ending) : Prop := e = .returned (.tuple #[.int .u32 (match o with | none => 0 | some l => getV l), .int .i64 (match o with | none => 20 | some _ => 0)])

def AddrRel (s0 : ByteArray) (w : World) (s i : Value) (wr : World) : Prop :=
  ∃ (k : Nat) (acc : List Int) (cur : ByteArray) (f : Nat → Value), k ≤ 4 ∧ i = .int .i64 k ∧ s = .string cur ∧ acc.length = k ∧ InByte acc ∧ cur.size ≤ 9223372036854775807 ∧ addrGo (4 - k) acc cur.data.toList = addrL s0.data.toList ∧
    wr.rowIs w.heap.size 57 4 f ∧ (∀ j, j < k → f j = .int .u8 (acc.getD j 0)) ∧ Below w.heap.size w wr

theorem address_any (s : ByteArray) (w : World) (hs : s.size ≤ 9223372036854775807) :
    Calls Tryd.prog 7 #[.string s] w fun e w' => AddrOut (addrL s.data.toList) e ∧ Below w.heap.size w w' := by
  go_enter Tryd.func7, Tryd.ntmps7
  go_wp2_with fail
  go_loopw [0, 11] (fun s' i wr => AddrRel s w s' i wr) (fun _ i _ => 4 - (intOf i).toNat)
  case atStart =>
    exact ⟨0, [], s, _, by omega, rfl, rfl, rfl, fun i hi => by simp at hi, hs, rfl, row_four _ _ _ _ _ _, fun j hj => by omega, (Below.refl _ _).alloc (Nat.le_refl _) _⟩
  case round =>
    obtain ⟨k, acc, cur, f, hk, rfl, rfl, hal, hin, hcs, hgo, hrow, hf, hb⟩ := hrel
    by_cases hlt : k < 4
    · have HAL := Lib.hid hal
      have HIN := Lib.hid hin
      have HR := Lib.hid hrow
      have HF := Lib.hid hf
      have HB := Lib.hid hb
      obtain ⟨m, hm⟩ : ∃ m, 4 - k = m + 1 := ⟨3 - k, by omega⟩
      have hm2 := Lib.hid hm
      rw [hm] at hgo
      have HG := Lib.hid hgo
      clear hal hin hrow hf hb hm hgo
      go_wp2_with fail
      refine (cut_any cur 46 _ hcs).mono ?_; rintro e w1 ⟨⟨s1, s2, rfl, e1, e2⟩, n, rfl⟩
      have hl := cutL_len 46 cur.data.toList
      have z1 : s1.size ≤ 9223372036854775807 := by rw [← data_len, e1]; have := data_len cur; omega
      have z2 : s2.size ≤ 9223372036854775807 := by rw [← data_len, e2]; have := data_len cur; omega
      have E1 := Lib.hid e1
      have E2 := Lib.hid e2
      clear e1 e2 hl
      obtain ⟨pt, hpt⟩ : ∃ pt, (cutL 46 cur.data.toList).2.2 = pt := ⟨_, rfl⟩
      rw [hpt]
      have HPT := Lib.hid hpt
      clear hpt
      go_wp2_with fail
      refine (number_any s1 255 _ z1 (by omega) (by omega)).mono ?_; rintro e w1 ⟨hn, rfl⟩
      rw [E1.out] at hn
      rcases ho : numOf 255 (cutL 46 cur.data.toList).1 with _ | v
      · rw [ho] at hn
        unfold NumberPost at hn
        rw [hn]
        have HN := Lib.hid ((addrGo_none (k := m) (acc := acc) ho).symm.trans HG.out)
        clear hn ho
        simp only [Option.getD_none, Option.isSome_none]
        go_wp2_with fail
        go_ret2
        exact ⟨by rw [← HN.out]; rfl, below_drewN HB.out _⟩
      · rw [ho] at hn
        unfold NumberPost at hn
        rw [hn]
        obtain ⟨v0, v1⟩ := numOf_bd (by omega) ho
        simp only [Option.getD_some, Option.isSome_some]
        have hmk : (m = 0 ∧ ¬ k < 3) ∨ (m ≠ 0 ∧ k < 3) := by have := hm2.out; omega
        rcases pt with _ | _ <;> rcases hmk with ⟨hm0, h3⟩ | ⟨hm0, h3⟩
        · have hd3 : decide ((k : Int) < 3) = false := by rw [decide_eq_false_iff_not]; omega
          have HN := Lib.hid ((addrGo_next (acc := acc) ho (by rw [HPT.out]; rw [decide_eq_false (by omega)])).symm.trans HG.out)
          have hv : v % 256 = v := by omega
          have HR2 := Lib.hid (show (wr.drewN n).rowIs w.heap.size 57 4 f from HR.out)
          have hc := HR.out.cell (i := k) (by omega)
          have hfz := HR.out.frozen k
          clear hn ho
          go_wp2_with fail
          go_roundw
          case rel =>
            refine ⟨k + 1, acc ++ [v], s2, _, by omega, by go_num, rfl, by rw [List.length_append, HAL.out]; rfl, inByte_app HIN.out v0 v1, z2, ?_, HR2.out.set k _, ?_, (below_drewN HB.out _).setCell (Nat.le_refl _) _⟩
            · rw [E2.out, show 4 - (k + 1) = m from by have := hm2.out; omega]; exact HN.out
            · intro j hj
              rw [getD_app, HAL.out]
              by_cases hjk : j = k
              · subst hjk
                rw [if_pos rfl, if_neg (by omega), if_pos rfl]
              · rw [if_neg hjk, if_pos (by omega)]; exact HF.out j (by omega)
          case measure => simp [intOf]; omega
        · have hd3 : decide ((k : Int) < 3) = true := by rw [decide_eq_true_eq]; omega
          have HN := Lib.hid ((addrGo_point (acc := acc) ho (by rw [HPT.out]; rw [decide_eq_true (by omega)]; decide)).symm.trans HG.out)
          clear hn ho
          go_wp2_with fail
          go_ret2
          exact ⟨by rw [← HN.out]; rfl, below_drewN HB.out _⟩
        · have hd3 : decide ((k : Int) < 3) = false := by rw [decide_eq_false_iff_not]; omega
          have HN := Lib.hid ((addrGo_point (acc := acc) ho (by rw [HPT.out]; rw [decide_eq_false (by omega)]; decide)).symm.trans HG.out)
          clear hn ho
          go_wp2_with fail
          go_ret2
          exact ⟨by rw [← HN.out]; rfl, below_drewN HB.out _⟩
        · have hd3 : decide ((k : Int) < 3) = true := by rw [decide_eq_true_eq]; omega
          have HN := Lib.hid ((addrGo_next (acc := acc) ho (by rw [HPT.out]; rw [decide_eq_true (by omega)])).symm.trans HG.out)
          have hv : v % 256 = v := by omega
          have HR2 := Lib.hid (show (wr.drewN n).rowIs w.heap.size 57 4 f from HR.out)
          have hc := HR.out.cell (i := k) (by omega)
          have hfz := HR.out.frozen k
          clear hn ho
          go_wp2_with fail
          go_roundw
          case rel =>
            refine ⟨k + 1, acc ++ [v], s2, _, by omega, by go_num, rfl, by rw [List.length_append, HAL.out]; rfl, inByte_app HIN.out v0 v1, z2, ?_, HR2.out.set k _, ?_, (below_drewN HB.out _).setCell (Nat.le_refl _) _⟩
            · rw [E2.out, show 4 - (k + 1) = m from by have := hm2.out; omega]; exact HN.out
            · intro j hj
              rw [getD_app, HAL.out]
              by_cases hjk : j = k
              · subst hjk
                rw [if_pos rfl, if_neg (by omega), if_pos rfl]
              · rw [if_neg hjk, if_pos (by omega)]; exact HF.out j (by omega)
          case measure => simp [intOf]; omega
    · have e : k = 4 := by omega
      subst e
      have hfs := four_cells hrow
      rw [hf 0 (by omega), hf 1 (by omega), hf 2 (by omega), hf 3 (by omega)] at hfs
      obtain ⟨⟨c0, c1, c2, c3⟩, _⟩ := hfs
      have HT := Lib.hid (together_any acc wr hal hin)
      have HG := Lib.hid hgo
      have HB := Lib.hid hb
      clear hal hin hf hgo hb hrow
      go_wp2_with fail
      refine HT.out.mono ?_; rintro e w1 ⟨rfl, hb1⟩
      have HB1 := Lib.hid hb1
      clear hb1
      go_wp2_with fail
      go_ret2
      exact ⟨by rw [← HG.out]; rfl, HB.out.trans (HB1.out.mono HB.out.size)⟩
end Go.Proofs.YtpmdmkemlbpnjaaDoor
