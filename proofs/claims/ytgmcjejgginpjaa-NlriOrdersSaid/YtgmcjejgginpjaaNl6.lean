/- nlri: the answer's Put; its Same, of the same list. -/
import Derived.Test.YtgmcjejgginpjaaNl5
import Derived.Test.YtgmcjejgginpjaaPEq
namespace Go.Proofs.Ytgmcjejgginpjaa
open Go.RowKit

theorem nl_under : Try.prog.underlying 41 = some (.struct (Try.prog.fieldsOf 41)) := by kernel_rfl
theorem nl_held : Try.prog.stoodInHeld 41 = false := by kernel_rfl
theorem nl_guard : Try.prog.eqGuardType Try.prog.depth 41 = false := by kernel_rfl
theorem nl_fields : (Try.prog.fieldsOf 41).toList.map (fun f => (f.name, f.type, f.offset)) = [("ID", 3, 0), ("P", 39, 1)] := by kernel_rfl
theorem nl_equalIn (d : Nat) (i a n j b m : Int) (w : World) :
    (Op.equalIn (d + 1 + 1 + 1) 41 (.agg #[.int .i64 i, .int .u32 a, .int .i64 n]) (.agg #[.int .i64 j, .int .u32 b, .int .i64 m])).run Try.prog w = .ok (i == j && (a == b && n == m)) w := by
  rw [run_equalIn_struct w (d + 1 + 1) _ _ _ nl_under nl_held]
  have hf := nl_fields
  generalize (Try.prog.fieldsOf 41).toList = fs at hf
  obtain ⟨f0, f1, rfl⟩ := list_two (l := fs) (by simpa using congrArg List.length hf)
  simp only [List.map_cons, List.map_nil, List.cons.injEq, Prod.mk.injEq, and_true] at hf
  obtain ⟨⟨n0, t0, o0⟩, n1, t1, o1⟩ := hf
  have q0 : (Op.equalIn (d + 1 + 1) 3 (.int .i64 i) (.int .i64 j)).run Try.prog w = .ok (i == j) w := run_equalIn_int w (d + 1) _ _ _ i j Try.underlying3
  have q1 := pfx_equalIn d a n b m w
  have p0 : ∀ x y z : Value, (part 3 #[x, y, z] 0).run Try.prog w = .ok x w := fun x y z => by kernel_rfl
  have p1 : ∀ x y z : Value, (part 39 #[x, y, z] 1).run Try.prog w = .ok (.agg #[y, z]) w := fun x y z => by kernel_rfl
  simp only [Op.eqFields, n0, n1, t0, t1, o0, o1]
  rw [if_pos (by decide), if_pos (by decide)]
  simp only [Sem.run_bind, p0, q0, Result.andThen_ok]
  rcases i == j with _ | _
  · simp [Sem.run_pure]
  · simp only [Bool.not_true, Bool.false_eq_true, if_false, Sem.run_bind, p1, q1, Result.andThen_ok]
    rcases a == b && n == m with _ | _ <;> simp [Sem.run_pure]
theorem nl_equal (i a n j b m : Int) (w : World) :
    (Op.equalIn 10000 41 (.agg #[.int .i64 i, .int .u32 a, .int .i64 n]) (.agg #[.int .i64 j, .int .u32 b, .int .i64 m])).run Try.prog w = .ok (i == j && (a == b && n == m)) w := nl_equalIn 9997 i a n j b m w
theorem nl_eql (i a n j b m : Int) (w : World) :
    (binOp .eql 41 (.agg #[.int .i64 i, .int .u32 a, .int .i64 n]) (.agg #[.int .i64 j, .int .u32 b, .int .i64 m])).run Try.prog w = .ok (.bool (i == j && (a == b && n == m))) w := by
  rw [run_eql_struct, nl_equal]; rfl
theorem nl_neq (i a n j b m : Int) (w : World) :
    (binOp .neq 41 (.agg #[.int .i64 i, .int .u32 a, .int .i64 n]) (.agg #[.int .i64 j, .int .u32 b, .int .i64 m])).run Try.prog w = .ok (.bool (!(i == j && (a == b && n == m)))) w := by
  rw [run_neq_struct, nl_equal]; rfl
theorem nl_eqGuard (op : BinOp) (x y : Operand) (xs ys : Array Value) (w : World) : (eqGuard op 41 x y (.agg xs) (.agg ys)).run Try.prog w = .ok () w := run_eqGuard_agg w op _ x y xs ys nl_guard

set_option maxHeartbeats 2000000 in
theorem rputNl_any (p : Option Addr) (l : List Nl) (n c : Nat) (paths : Bool) (w : World) (hx : NlsAt w p l) (hn : l.length = n) (hk : okNls l paths = true) :
    Calls Try.prog 13 #[.slice p n c, .bool paths] w fun e w' => ∃ q cap, e = .returned (.slice q (nlsL paths l).length cap) ∧ Own w' w.heap.size q cap (nlsL paths l) ∧ Below w.heap.size w w' := by
  obtain ⟨h24, hodd⟩ := okNls_yes hk
  have hn24 : n ≤ 1024 := by omega
  have HX := Lib.hid hx
  have HN := Lib.hid hn
  have HO := Lib.hid hodd
  clear hx hn hk hodd h24
  go_enter Try.func13, Try.ntmps13
  go_wp2_with fail
  go_loopw [5, 6] (fun b i wr => NlRel w paths n l b i wr) (fun _ i _ => n - (intOf i).toNat)
  case atStart => exact ⟨0, 0, none, 0, Nat.zero_le _, rfl, rfl, rfl, by omega, Own.nil _ _, Below.refl _ _⟩
  case round =>
    obtain ⟨k, m, z, zc, hkn, rfl, rfl, hm, hm9, hO, hB⟩ := hrel
    have HOW := Lib.hid hO
    have HB := Lib.hid hB
    have HM := Lib.hid hm
    clear hO hB hm
    by_cases hlt : k < n
    · obtain ⟨b, off, rfl, ⟨c0, c1, c2⟩, had⟩ := nl_cell (HX.out.below HB.out) HN.out hlt
      have hod := HO.out k (by rw [HN.out]; exact hlt)
      have HS := Lib.hid (nlsL_snoc paths l k (by rw [HN.out]; exact hlt))
      obtain ⟨x, hx⟩ : ∃ x, l.getD k Nl.none = x := ⟨_, rfl⟩
      rw [hx] at c0 c1 c2 hod HS had
      have h5 := pfxL_le x.addr x.len
      obtain ⟨pl, hpl⟩ : ∃ pl, (nlL paths x).length = pl := ⟨_, rfl⟩
      have hp9 : pl ≤ 9 := by
        rw [← hpl]; unfold nlL
        rw [List.length_append]
        cases paths
        · simp; omega
        · simp [putL_len]; omega
      have HPL := Lib.hid hpl
      have HBY := Lib.hid (rbytes_any x paths pl wr had hod hpl)
      obtain ⟨id, a, ln⟩ := x
      simp only at c0 c1 c2 HBY
      clear hod had hx hpl h5
      go_wp2_with fail
      (with_reducible refine HBY.out.mono ?_); rintro e w2 ⟨q, cap, rfl, hY, hb⟩
      have HY := Lib.hid hY.bytes
      have HO2 := Lib.hid (HOW.out.below hb)
      have HB2 := Lib.hid (HB.out.trans (hb.mono HB.out.size))
      clear hY hb HBY c0 c1 c2
      go_wp2_with (refine wpList_appo (o := ⟨some 20, _, _, _, _, _⟩) (by rfl) (.tmp 13) (.tmp 19) (by rfl) w.heap.size z zc (nlsL paths (l.take k)) HO2.out m HM.out (by rfl) q pl cap (nlL paths ⟨id, a, ln⟩) HY.out HPL.out (by rfl) (m + pl) (by rfl) (by omega) HB2.out.size ?_; intro q3 cap3 w3 hO3 hB3 hG3)
      go_roundw
      case rel => exact ⟨k + 1, m + pl, q3, cap3, by omega, by go_num, rfl, by rw [HS.out, List.length_append, HM.out, HPL.out], by omega, by rw [HS.out]; exact hO3.out, HB2.out.trans hB3.out⟩
      case measure => simp [intOf]; omega
    · obtain rfl : k = n := by omega
      go_wp2
      go_ret
      have hO := HOW.out
      have hL := HM.out
      rw [List.take_of_length_le (by rw [HN.out]; exact Nat.le_refl _)] at hO hL
      exact ⟨z, zc, by rw [hL] <;> rfl, hO, HB.out⟩

set_option maxHeartbeats 2000000 in
theorem rsameNl_yes (p q : Option Addr) (l : List Nl) (n c d : Nat) (w : World) (h1 : NlsAt w p l) (h2 : NlsAt w q l) (hn : l.length = n) (hm : n ≤ maxLen) :
    Calls Try.prog 14 #[.slice p n c, .slice q n d] w fun e w' => e = .returned (.bool true) ∧ Below w.heap.size w w' := by
  unfold maxLen at hm
  have H1 := Lib.hid h1
  have H2 := Lib.hid h2
  have HN := Lib.hid hn
  clear h1 h2 hn
  go_enter Try.func14, Try.ntmps14
  go_wp2_with fail
  go_loopw [5] (fun i wr => ∃ k : Nat, k ≤ n ∧ i = .int .i64 k ∧ Below w.heap.size w wr) (fun i _ => n - (intOf i).toNat)
  case atStart => exact ⟨0, Nat.zero_le _, rfl, Below.refl _ _⟩
  case round =>
    obtain ⟨k, hk, rfl, hB⟩ := hrel
    have HB := Lib.hid hB
    clear hB
    by_cases hlt : k < n
    · obtain ⟨b, off, rfl, ⟨c0, c1, c2⟩, _⟩ := nl_cell (H1.out.below HB.out) HN.out hlt
      obtain ⟨b2, off2, rfl, ⟨d0, d1, d2⟩, _⟩ := nl_cell (H2.out.below HB.out) HN.out hlt
      obtain ⟨x, hx⟩ : ∃ x, l.getD k Nl.none = x := ⟨_, rfl⟩
      rw [hx] at c0 c1 c2 d0 d1 d2
      obtain ⟨id, a, ln⟩ := x
      simp only at c0 c1 c2 d0 d1 d2
      have hg := nl_eqGuard
      have hq := nl_neq id a ln id a ln
      have hz : (!(id == id && (a == a && ln == ln))) = false := by simp
      rw [hz] at hq
      clear hx hz
      have hS : wr.drew.cell? ⟨b, off + k * 3, none⟩ = some (.int .i64 id) ∧ wr.drew.cell? ⟨b, off + k * 3 + 1, none⟩ = some (.int .u32 a) ∧ wr.drew.cell? ⟨b, off + k * 3 + 2, none⟩ = some (.int .i64 ln) ∧ wr.drew.cell? ⟨b2, off2 + k * 3, none⟩ = some (.int .i64 id) ∧ wr.drew.cell? ⟨b2, off2 + k * 3 + 1, none⟩ = some (.int .u32 a) ∧ wr.drew.cell? ⟨b2, off2 + k * 3 + 2, none⟩ = some (.int .i64 ln) := ⟨c0, c1, c2, d0, d1, d2⟩
      go_wp2_with fail
      clear c0 c1 c2 d0 d1 d2
      go_region_held (fun w' => w'.cell? ⟨b, off + k * 3, none⟩ = some (.int .i64 id) ∧ w'.cell? ⟨b, off + k * 3 + 1, none⟩ = some (.int .u32 a) ∧ w'.cell? ⟨b, off + k * 3 + 2, none⟩ = some (.int .i64 ln) ∧ w'.cell? ⟨b2, off2 + k * 3, none⟩ = some (.int .i64 id) ∧ w'.cell? ⟨b2, off2 + k * 3 + 1, none⟩ = some (.int .u32 a) ∧ w'.cell? ⟨b2, off2 + k * 3 + 2, none⟩ = some (.int .i64 ln)) (with_reducible assumption) (fail)
      go_wp2_with fail
      go_roundw
      case rel => exact ⟨k + 1, by omega, by go_num, HB.out.drew⟩
      case measure => simp [intOf]; omega
    · obtain rfl : k = n := by omega
      go_wp2
      go_ret
      exact ⟨rfl, HB.out⟩
end Go.Proofs.Ytgmcjejgginpjaa
