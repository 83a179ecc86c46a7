/- best: BestRanks. -/
import Derived.Test.YtljbebeaahcjaaaBK
import Derived.Test.YtljbebeaahcjaaaPEq
namespace Go.Proofs.Ytljbebeaahcjaaa
open Go.RowKit Go.Maps Go.Sort Go.Shelf
set_option linter.unusedVariables false
set_option linter.unusedSimpArgs false
set_option maxRecDepth 100000
theorem lenL_small : ∀ {L : List Sg}, bigL L = false → lenL L ≤ L.length * 200
  | [], _ => by simp [lenL]
  | s :: t, h => by
    unfold bigL at h
    simp only [List.any_cons, Bool.or_eq_false_iff, decide_eq_false_iff_not] at h
    have := @lenL_small t h.2
    simp only [lenL, List.length_cons]
    split <;> omega
theorem looks_of {w : World} {p : Option Addr} {l : List Rv} {n : Nat} (h : RvsAt w p l) (hn : l.length = n) (hL : largeR l n = false) : Looks w p l n := by
  unfold largeR at hL
  simp only [Bool.or_eq_false_iff, decide_eq_false_iff_not] at hL
  refine ⟨h, hn, by omega, fun y hy => ?_⟩
  have h2 := hL.2
  unfold bigR at h2
  rw [List.any_eq_false] at h2
  have h3 := h2 y hy
  unfold largeX at h3
  simp only [Bool.or_eq_true, decide_eq_true_eq, not_or] at h3
  have h4 := lenL_small (L := y.x.L) (by simpa using h3.2)
  have h5 := (h.ao y hy).pl
  omega
theorem segs_ok {w : World} {x : Ao} (h : AoAt w x) : SegsOk x.L := fun s hs => (h.path.at_.ok s hs).1
theorem getRv_mem {l : List Rv} {q : Nat} (hq : q < l.length) : l.getD q Rv.zero ∈ l := by
  rw [show l.getD q Rv.zero = l[q]'hq by simp [List.getD, hq]]; exact List.getElem_mem _
theorem getRv_out {l : List Rv} {q : Nat} (hq : ¬ q < l.length) : l.getD q Rv.zero = Rv.zero := by
  unfold List.getD; rw [List.getElem?_eq_none (Nat.le_of_not_lt hq)]; rfl
theorem key_under : Try.prog.underlying 29 = some (.struct (Try.prog.fieldsOf 29)) := by kernel_rfl
theorem key_held : Try.prog.stoodInHeld 29 = false := by kernel_rfl
theorem key_guard : Try.prog.eqGuardType Try.prog.depth 29 = false := by kernel_rfl
theorem key_fields : (Try.prog.fieldsOf 29).toList.map (fun f => (f.name, f.type, f.offset)) = [("Router", 3, 0), ("P", 27, 1), ("ID", 3, 3)] := by kernel_rfl
theorem list_threeK {α : Type} {l : List α} (h : l.length = 3) : ∃ x y z, l = [x, y, z] := by
  rcases l with _ | ⟨x, _ | ⟨y, _ | ⟨z, _ | ⟨v, r⟩⟩⟩⟩ <;> simp at h
  exact ⟨x, y, z, rfl⟩
theorem key_same (r a n i : Int) (w : World) :
    (Op.equalIn 10000 29 (.agg #[.int .i64 r, .int .u32 a, .int .i64 n, .int .i64 i]) (.agg #[.int .i64 r, .int .u32 a, .int .i64 n, .int .i64 i])).run Try.prog w = .ok true w := by
  show (Op.equalIn (9997 + 1 + 1 + 1) 29 _ _).run Try.prog w = _
  rw [run_equalIn_struct w (9997 + 1 + 1) _ _ _ key_under key_held]
  have hf := key_fields
  generalize (Try.prog.fieldsOf 29).toList = fs at hf
  obtain ⟨f0, f1, f2, rfl⟩ := list_threeK (l := fs) (by simpa using congrArg List.length hf)
  simp only [List.map_cons, List.map_nil, List.cons.injEq, Prod.mk.injEq, and_true] at hf
  obtain ⟨⟨n0, t0, o0⟩, ⟨n1, t1, o1⟩, n2, t2, o2⟩ := hf
  have q0 : (Op.equalIn (9997 + 1 + 1) 3 (.int .i64 r) (.int .i64 r)).run Try.prog w = .ok (r == r) w := run_equalIn_int w (9997 + 1) _ _ _ r r Try.underlying3
  have q1 := pfx_equalIn 9997 a n a n w
  have q2 : (Op.equalIn (9997 + 1 + 1) 3 (.int .i64 i) (.int .i64 i)).run Try.prog w = .ok (i == i) w := run_equalIn_int w (9997 + 1) _ _ _ i i Try.underlying3
  have p0 : ∀ x y z v : Value, (part 3 #[x, y, z, v] 0).run Try.prog w = .ok x w := fun x y z v => by kernel_rfl
  have p1 : ∀ x y z v : Value, (part 27 #[x, y, z, v] 1).run Try.prog w = .ok (.agg #[y, z]) w := fun x y z v => by kernel_rfl
  have p2 : ∀ x y z v : Value, (part 3 #[x, y, z, v] 3).run Try.prog w = .ok v w := fun x y z v => by kernel_rfl
  simp only [Op.eqFields, n0, n1, n2, t0, t1, t2, o0, o1, o2]
  rw [if_pos (by decide), if_pos (by decide), if_pos (by decide)]
  simp only [Sem.run_bind, p0, q0, p1, q1, p2, q2, Result.andThen_ok, beq_self_eq_true, Bool.and_self, Bool.not_true, Bool.false_eq_true, if_false, Sem.run_pure]
theorem key_neq (r a n i : Int) (w : World) :
    (binOp .neq 29 (.agg #[.int .i64 r, .int .u32 a, .int .i64 n, .int .i64 i]) (.agg #[.int .i64 r, .int .u32 a, .int .i64 n, .int .i64 i])).run Try.prog w = .ok (.bool false) w := by
  rw [run_neq_struct, key_same]; rfl
theorem key_eqGuard (op : BinOp) (x y : Operand) (xs ys : Array Value) (w : World) : (eqGuard op 29 x y (.agg xs) (.agg ys)).run Try.prog w = .ok () w := run_eqGuard_agg w op _ x y xs ys key_guard
set_option maxHeartbeats 8000000 in
theorem ranks_any (w : World) (p : Option Addr) (l : List Rv) (n c : Nat) (h : RvsAt w p l) (hn : l.length = n) (hm : n ≤ 9223372036854775807) :
    Calls Try.prog 5 #[.slice p n c] w fun e w' => e = .returned (.bool true) ∧ Below w.heap.size w w' := by
  have HL := Lib.hid (large15_any w p l n c h hn hm)
  obtain ⟨o, ho⟩ : ∃ o, largeR l n = o := ⟨_, rfl⟩
  rw [ho] at HL
  have HO := Lib.hid ho
  have H := Lib.hid h
  have HN := Lib.hid hn
  clear h hn ho
  rcases o with _ | _
  · by_cases h30 : 30 < n
    · have h30I : (30 : Int) < (n : Int) := by omega
      go_enter Try.func5, Try.ntmps5
      go_wp2_with (go_at_call 6; refine HL.out.mono ?_; rintro e u ⟨rfl, hu⟩)
      refine (lives15_any _).mono ?_
      rintro e u2 ⟨rfl, hu2⟩
      go_wp2_with fail
      go_ret
      exact ⟨rfl, hu.trans (hu2.mono hu.size)⟩
    · have h30I : ¬ (30 : Int) < (n : Int) := by omega
      have HK := Lib.hid (looks_of H.out HN.out HO.out)
      go_enter Try.func5, Try.ntmps5
      go_wp2_with (go_at_call 6; refine HL.out.mono ?_; rintro e u ⟨rfl, hu⟩)
      refine (rank_any u p l n c (HK.out.below hu)).mono ?_
      rintro e W6 ⟨B, hR, hT⟩
      have hBl := hR.len
      obtain ⟨r, c6, O, rfl, hr6, hO6, hc6, hC6, hb6⟩ := hT
      rw [hBl] at hc6 ⊢
      have HB6 := Lib.hid (hu.trans (hb6.mono hu.size))
      have HRK := Lib.hid hR
      have HOA := Lib.hid hO6
      have HCP := Lib.hid hC6
      clear hR hO6 hC6 hb6 hu
      go_wp2_with (go_at_call 7; refine (lives15_any _).mono ?_; rintro e W7 ⟨rfl, hb7⟩)
      have HB7 := Lib.hid (HB6.out.trans (hb7.mono HB6.out.size))
      have HOL := Lib.hid (show O.length = n by rw [HCP.out.len, hBl])
      have HOA := Lib.hid (show RvsAt W7 (some ⟨r, 0, none⟩) O from RvsAt.below ⟨HOA.out, HCP.out.ao⟩ hb7)
      have HS1 := Lib.hid (show ∀ y ∈ l, SegsOk y.x.L from fun y hy => segs_ok (H.out.ao y hy))
      have HS2 := Lib.hid (show ∀ y ∈ O, SegsOk y.x.L from fun y hy => segs_ok (HCP.out.ao y hy))
      have HLK := Lib.hid (show ∀ k, k < n → RvLike (l.getD (B.getD k 0) Rv.zero) (O.getD k Rv.zero) from fun k hk => HCP.out.like k (by rw [hBl]; exact hk))
      have HLN := Lib.hid (show ∀ y ∈ O, lenL y.x.L ≤ 1000000 from fun y hy => by
        obtain ⟨k, hk, rfl⟩ := List.getElem_of_mem hy
        have hk : k < n := by have := HOL.out; omega
        have h1 := HLK.out k hk
        have h2 : O.getD k Rv.zero = O[k] := by simp [List.getD, show k < O.length by have := HOL.out; omega]
        rw [h2] at h1
        by_cases hq : B.getD k 0 < l.length
        · have hm : l.getD (B.getD k 0) Rv.zero ∈ l := getRv_mem hq
          rw [(lenL_like (HS1.out _ hm) (HS2.out _ hy) h1.x.L).1]
          exact HK.out.lens _ hm
        · have : l.getD (B.getD k 0) Rv.zero = Rv.zero := getRv_out hq
          rw [this] at h1
          have := h1.x.L
          have : O[k].x.L = [] := by simpa [Rv.zero, Ao.zero] using this
          rw [this]; simp [lenL])
      have h1O : RvsAt W7 (some ⟨r, 0, none⟩) O := HOA.out
      clear hb7 h1O
      go_loopw [4] (fun iv wr => ∃ i : Nat, i ≤ n ∧ iv = .int .i64 i ∧ Below W7.heap.size W7 wr) (fun iv _ => n - (intOf iv).toNat)
      case atStart => exact ⟨0, Nat.zero_le _, rfl, Below.refl _ _⟩
      case round =>
        obtain ⟨i, hi, rfl, hbl⟩ := hrel
        have HW := Lib.hid hbl
        clear hbl
        by_cases hlt : i < n
        · have hltI : (i : Int) < (n : Int) := by omega
          have hAT := HOA.out.below HW.out
          obtain ⟨Q, hcut, hQ⟩ := cutL_l rowRv wr (some ⟨r, 0, none⟩) O n c6 i hAT.at_ HOL.out (by omega) hc6
          obtain ⟨t, ht⟩ := rank_first HRK.out HN.out HOL.out HLK.out HS1.out HS2.out hlt
          have HBS := Lib.hid ((bestG_any wr Q (O.drop i) (n - i) (c6 - i) ⟨⟨hQ, fun y hy => hAT.ao y (List.mem_of_mem_drop hy)⟩, by rw [List.length_drop, HOL.out], by omega, fun y hy => HLN.out y (List.mem_of_mem_drop hy)⟩ (by omega)).mono (R' := fun e w' => e = .returned (.tuple #[.int .i64 0, .bool true]) ∧ Below wr.heap.size wr w') fun e w' ⟨k, he, ⟨t2, ht2⟩, hb⟩ => by
            rw [ht] at ht2
            simp only [List.cons.injEq] at ht2
            obtain ⟨rfl, _⟩ := ht2
            exact ⟨he, hb⟩)
          obtain ⟨b, off, e, hc⟩ := hAT.at_.cell HOL.out hlt
          simp only [Option.some.injEq, Addr.mk.injEq, and_true] at e
          obtain ⟨rfl, rfl⟩ := e
          obtain ⟨y, hy⟩ : ∃ y, O.getD i Rv.zero = y := ⟨_, rfl⟩
          rw [hy] at hc
          have d0 := hc 0 _ rfl; have d1 := hc 1 _ rfl; have d2 := hc 2 _ rfl; have d3 := hc 3 _ rfl
          simp only [Nat.zero_add, Nat.add_zero] at d0 d1 d2 d3
          have HD := Lib.hid (And.intro d0 (And.intro d1 (And.intro d2 d3)))
          have hq := key_neq y.r y.a y.n y.i
          have hnI : ¬ ((n : Int) - (i : Int) ≤ 0) := by omega
          have hnw : IntKind.i64.wrap ((n : Int) - (i : Int)) = (n : Int) - (i : Int) := by rw [IntKind.wrap_i64]; omega
          have hiw : IntKind.i64.wrap ((i : Int)) = (i : Int) := by rw [IntKind.wrap_i64]; omega
          clear hAT hQ hc ht hy d0 d1 d2 d3
          go_wp2_with (go_at_call 8; refine HBS.out.mono ?_; rintro e u ⟨rfl, hu⟩; obtain ⟨d0, d1, d2, d3⟩ := HD.out; have d0 := kept hu d0; have d1 := kept hu d1; have d2 := kept hu d2; have d3 := kept hu d3)
          have e0 : ((0 : Int)).toNat = 0 := rfl
          have HU := Lib.hid hu
          clear hu
          go_quiet (fail)
          go_wp2
          go_roundw
          case rel => exact ⟨i + 1, by omega, by go_num, HW.out.trans (Below.trans (HU.out.mono HW.out.size) (below_dN _ _ _))⟩
          case measure => simp [intOf]; omega
        · obtain rfl : i = n := by omega
          have hkI : ¬ (i : Int) < (i : Int) := by omega
          go_wp2
          go_ret
          exact ⟨rfl, HB7.out.trans (HW.out.mono HB7.out.size)⟩
  · go_enter Try.func5, Try.ntmps5
    go_wp2_with (go_at_call 6; refine HL.out.mono ?_; rintro e u ⟨rfl, hu⟩)
    refine (lives15_any _).mono ?_
    rintro e u2 ⟨rfl, hu2⟩
    go_wp2_with fail
    go_ret
    exact ⟨rfl, hu.trans (hu2.mono hu.size)⟩
end Go.Proofs.Ytljbebeaahcjaaa
