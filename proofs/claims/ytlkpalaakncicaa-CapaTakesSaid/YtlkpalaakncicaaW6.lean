/- hop: New. -/
import Derived.Test.YtlkpalaakncicaaW5
namespace Go.Proofs.Ytlkpalaakncicaa
open Go.RowKit Go.Maps
set_option linter.unusedVariables false
set_option linter.unusedSimpArgs false
set_option maxRecDepth 100000

/-- Numbers that an interface may have in memory. -/
structure InIf (x : Ifc) : Prop where
  id : (Lit.int .i64 x.id).wf = true
  a0 : 0 ≤ x.a
  a1 : x.a < 4294967296
/-- Interfaces in memory. -/
structure IfsAt (w : World) (p : Option Addr) (l : List Ifc) : Prop where
  intro ::
  ok : ∀ x ∈ l, InIf x
  cells : l = [] ∨ ∃ b off, p = some ⟨b, off, none⟩ ∧ ∀ i, i < l.length → w.cell? ⟨b, off + i * 5, none⟩ = some (.int .i64 (l.getD i Ifc.zero).id) ∧ w.cell? ⟨b, off + (i * 5 + 1), none⟩ = some (.int .i64 (l.getD i Ifc.zero).r) ∧ w.cell? ⟨b, off + (i * 5 + 2), none⟩ = some (.int .u32 (l.getD i Ifc.zero).a) ∧ w.cell? ⟨b, off + (i * 5 + 3), none⟩ = some (.int .i64 (l.getD i Ifc.zero).n) ∧ w.cell? ⟨b, off + (i * 5 + 4), none⟩ = some (.int .i64 (l.getD i Ifc.zero).c)
theorem IfsAt.nil (w : World) (p : Option Addr) : IfsAt w p [] := ⟨fun x h => by simp at h, .inl rfl⟩
theorem IfsAt.below {w w' : World} {p : Option Addr} {l : List Ifc} (h : IfsAt w p l) (hb : Below w.heap.size w w') : IfsAt w' p l :=
  ⟨h.ok, h.cells.imp id fun ⟨b, off, hp, hc⟩ => ⟨b, off, hp, fun i hi => ⟨kept hb (hc i hi).1, kept hb (hc i hi).2.1, kept hb (hc i hi).2.2.1, kept hb (hc i hi).2.2.2.1, kept hb (hc i hi).2.2.2.2⟩⟩⟩
def okFrom : List Ifc → List Ifc → Bool
  | _, [] => true
  | acc, x :: t => okIf acc x && okFrom (acc ++ [x]) t
def okIfs (l : List Ifc) : Bool := decide (l.length ≤ 256) && okFrom [] l
theorem okFrom_step (l : List Ifc) (j : Nat) (hj : j < l.length) : okFrom (l.take j) (l.drop j) = (okIf (l.take j) (l.getD j Ifc.zero) && okFrom (l.take (j + 1)) (l.drop (j + 1))) := by
  rw [List.drop_eq_getElem_cons hj, List.take_succ_eq_append_getElem hj]
  simp [okFrom, List.getD, hj]
/-- While the tries are laid. -/
def LayH (w : World) (h b : Nat) (v : Value) (wr : World) : Prop := ∃ (k : Nat) (F : Nat → TrF), v = .int .i64 k ∧ k ≤ 16 ∧ HopB wr w.heap.size h b k F ∧ (∀ i, i < k → (F i).L = []) ∧ wr.ownsMap Try.prog 3 ifElem b 0 (.map []) ∧ Below w.heap.size w wr
/-- While interfaces are put. -/
def PutH (w : World) (h b : Nat) (l : List Ifc) (v : Value) (wr : World) : Prop := ∃ (j : Nat) (F : Nat → TrF), v = .int .i64 j ∧ j ≤ l.length ∧ HopAt wr w.heap.size h b F (l.take j) ∧ okFrom [] l = okFrom (l.take j) (l.drop j) ∧ Below w.heap.size w wr
set_option maxHeartbeats 8000000 in
theorem newH_any (p : Option Addr) (l : List Ifc) (n c : Nat) (w : World) (hl : IfsAt w p l) (hn : l.length = n) :
    Calls Try.prog 8 #[.slice p n c] w fun e w' => Below w.heap.size w w' ∧ (okIfs l = false → e = .returned (.tuple #[.pointer none, .int .i64 160])) ∧ (okIfs l = true → ∃ h b F, e = .returned (.tuple #[.pointer (some ⟨h, 0, none⟩), .int .i64 0]) ∧ HopAt w' w.heap.size h b F l) := by
  have HL := Lib.hid hl
  have HN := Lib.hid hn
  have hok : okIfs l = (decide (n ≤ 256) && okFrom [] l) := by unfold okIfs; rw [hn]
  have HOK := Lib.hid hok
  have hmm := @run_makeMap Try.prog
  clear hl hn hok
  by_cases h256 : 256 < n
  · have t1 : decide ((256 : Int) < (n : Int)) = true := by simp; omega
    have HF := Lib.hid (show okIfs l = false by rw [HOK.out, show decide (n ≤ 256) = false from decide_eq_false (by omega)]; rfl)
    go_enter Try.func8, Try.ntmps8
    go_wp2_with fail
    exact bodyPost_ret (v := .tuple #[.pointer none, .int .i64 160]) (by simp [results, Try.results8, go_sem]) rfl ⟨Below.refl _ _, fun _ => rfl, fun h => by rw [HF.out] at h; cases h⟩
  · have t1 : decide ((256 : Int) < (n : Int)) = false := by simp; omega
    have H256 := Lib.hid (show n ≤ 256 by omega)
    clear h256
    go_enter Try.func8, Try.ntmps8
    go_wp2_with fail
    go_loopw [14] (fun v wr => LayH w (w.heap.size + 1) w.heap.size v wr) (fun v _ => 17 - (intOf v).toNat)
    case atStart =>
      refine ⟨0, fun _ => ⟨0, 0, fun _ _ => none, []⟩, rfl, Nat.zero_le _, ?_, fun i hi => absurd hi (Nat.not_lt_zero _), (World.ownsMap_made _ _ _ _).alloc _, two_below _ _ _⟩
      refine ⟨?_, fun i hi => absurd hi (Nat.not_lt_zero _), fun i j hi => absurd hi (Nat.not_lt_zero _), by omega⟩
      have hb := Blk.new (w.alloc (.map #[] 0)) HPf (hopC w.heap.size (topV 0 fun _ => ⟨0, 0, fun _ _ => none, []⟩))
      rw [sz_alloc] at hb
      exact hb
    case round =>
      obtain ⟨k, F, rfl, hk, hH, hF0, hM, hB⟩ := hrel
      by_cases hk16 : k < 16
      · have t2 : decide ((k : Int) < 16) = true := by simp; omega
        have hBw : w.heap.size ≤ wr.heap.size := hB.size
        have HH := Lib.hid hH
        have HF0 := Lib.hid hF0
        have HM := Lib.hid hM
        have HB := Lib.hid hB
        have HMORE := Lib.hid (hH.more hk16 hBw)
        have HVB := Lib.hid (two_below wr (.cells #[.pointer none, .pointer none, .pointer none] NDf) (.cells #[.pointer (some ⟨wr.heap.size, 0, none⟩), .int .i64 0] TRf))
        have hc0 : wr.cell? ⟨w.heap.size + 1, 1 + k, none⟩ = some (.pointer none) := hH.blk.cellAt (by rw [hopC_get _ _ _ hk16]; unfold topV; rw [if_neg (by omega)])
        have hc1 : ((wr.alloc (.cells #[.pointer none, .pointer none, .pointer none] NDf)).alloc (.cells #[.pointer (some ⟨wr.heap.size, 0, none⟩), .int .i64 0] TRf)).drew.cell? ⟨w.heap.size + 1, 1 + k, none⟩ = some (.pointer none) := kept HVB.out.drew hc0
        have hf1 : ((wr.alloc (.cells #[.pointer none, .pointer none, .pointer none] NDf)).alloc (.cells #[.pointer (some ⟨wr.heap.size, 0, none⟩), .int .i64 0] TRf)).drew.frozen? ⟨w.heap.size + 1, 1 + k, none⟩ = false := ((hH.blk.alloc _).alloc _).f (1 + k)
        have hi16 : (k : Int) < 16 := by omega
        clear hH hF0 hM hB hBw hk hc0
        go_wp2_with fail
        go_region_law ((go_simp; go_at_call 34; refine (new_if _).mono ?_; rintro e v ⟨rfl, rfl⟩))
        all_goals
          obtain ⟨W, hW⟩ : ∃ W, (((wr.alloc (.cells #[.pointer none, .pointer none, .pointer none] NDf)).alloc (.cells #[.pointer (some ⟨wr.heap.size, 0, none⟩), .int .i64 0] TRf)).setCell ⟨w.heap.size + 1, 1 + k, none⟩ (.pointer (some ⟨wr.heap.size + 1, 0, none⟩))).drew = W := ⟨_, rfl⟩
          have HW1 := Lib.hid (show HopB W w.heap.size (w.heap.size + 1) w.heap.size (k + 1) _ from hW ▸ HMORE.out.below (Below.refl _ _).drew)
          have HW2 := Lib.hid (show W.ownsMap Try.prog 3 ifElem w.heap.size 0 (.map []) from by
            rw [← hW]
            have h1 := (HM.out.alloc (.cells #[.pointer none, .pointer none, .pointer none] NDf)).alloc (.cells #[.pointer (some ⟨wr.heap.size, 0, none⟩), .int .i64 0] TRf)
            obtain ⟨es, clock, hh, Ft, hs, he⟩ := h1
            exact ⟨es, clock, (Below.heap_setCell _ _ _ _ (by show w.heap.size ≠ w.heap.size + 1; omega)).trans hh, Ft, hs, he⟩)
          have HW3 := Lib.hid (show Below w.heap.size w W from by
            rw [← hW]
            exact ((HB.out.trans (HVB.out.mono HB.out.size)).setCell (p := ⟨w.heap.size + 1, 1 + k, none⟩) (by show w.heap.size ≤ w.heap.size + 1; omega) _).drew)
          rw [hW]
          clear hW hc1 hf1 HMORE HVB HM HB HH
          go_wp2_with fail
          go_roundw
          case rel =>
            refine ⟨k + 1, _, by first | rfl | go_num, by omega, HW1.out, fun i hi => ?_, HW2.out, HW3.out⟩
            by_cases e : i = k
            · rw [if_pos e]
            · rw [if_neg e]; exact HF0.out i (by omega)
          case measure => simp [intOf]; omega
      · have hk' : k = 16 := by omega
        have t2 : decide ((k : Int) < 16) = false := by simp; omega
        have HP0 := Lib.hid (show PutH w (w.heap.size + 1) w.heap.size l (.int .i64 0) wr from by
          subst hk'
          refine ⟨0, F, rfl, Nat.zero_le _, ⟨hH, ⟨.map [], by simpa using hM, by simpa using MapIs.empty, by simp [Maps.size]⟩, fun i hi => ?_, fun i hi => ?_, Nat.le_refl _⟩, by simp, hB⟩
          · rw [hF0 i hi]; simpa using TrieIs.nil (i : Int)
          · rw [hF0 i hi]; simp)
        clear hH hF0 hM hB hk hk16 hk'
        go_wp2_with fail
        go_loopw [26] (fun v ws => PutH w (w.heap.size + 1) w.heap.size l v ws) (fun v _ => n + 1 - (intOf v).toNat)
        case atStart => exact HP0.out
        case round =>
          obtain ⟨j, F2, rfl, hj, hH, hokf, hB⟩ := hrel
          rw [HN.out] at hj
          by_cases hlt : j < n
          · have t3 : decide ((j : Int) < (n : Int)) = true := by simp; omega
            have hjl : j < l.length := by rw [HN.out]; exact hlt
            have hst := okFrom_step l j hjl
            have htk : l.take (j + 1) = l.take j ++ [l.getD j Ifc.zero] := by
              rw [List.take_succ_eq_append_getElem hjl]; simp [List.getD, hjl]
            have hmem : l.getD j Ifc.zero ∈ l := by simp [List.getD, hjl]
            have hin := HL.out.ok _ hmem
            obtain ⟨bb, off, rfl, hc⟩ := (HL.out.below hB).cells.resolve_left (fun e => by rw [e] at hjl; simp at hjl)
            obtain ⟨d0, d1, d2, d3, d4⟩ := hc j hjl
            obtain ⟨x, hx⟩ : ∃ x, l.getD j Ifc.zero = x := ⟨_, rfl⟩
            rw [hx] at hst htk hin d0 d1 d2 d3 d4
            obtain ⟨xi, xr, xa, xn, xc⟩ := x
            dsimp only at d0 d1 d2 d3 d4
            have hltI : (j : Int) < (n : Int) := by omega
            have h256 := H256.out
            rw [← Nat.add_assoc] at d1 d2 d3 d4
            have hbx := newB wr (.cells #[.int .i64 xi, .int .i64 xr, .int .u32 xa, .int .i64 xn, .int .i64 xc] 34)
            have hBx := Lib.hid (hB.trans (hbx.mono hB.size))
            have HPUT := Lib.hid (put_any (wr.alloc (.cells #[.int .i64 xi, .int .i64 xr, .int .u32 xa, .int .i64 xn, .int .i64 xc] 34)) w.heap.size (w.heap.size + 1) w.heap.size F2 (l.take j) ⟨xi, xr, xa, xn, xc⟩ (hH.below hbx) (Nat.le_trans hB.size hbx.size) hin.id hin.a0 hin.a1 (by rw [List.length_take]; have := H256.out; omega))
            have HSZ := Lib.hid (Nat.le_trans hB.size hbx.size)
            have HST := Lib.hid (hokf.trans hst)
            have HTK := Lib.hid htk
            have hbox := Blk.new wr 34 [.int .i64 xi, .int .i64 xr, .int .u32 xa, .int .i64 xn, .int .i64 xc]
            obtain ⟨x0, x1, x2, x3, x4⟩ := if_boxes hbox
            obtain ⟨ok, hok⟩ : ∃ o, okIf (l.take j) ⟨xi, xr, xa, xn, xc⟩ = o := ⟨_, rfl⟩
            rw [hok] at HPUT HST
            have HHB := Lib.hid hB
            clear hc hmem hx hjl hbx hH hokf hB hst htk hin hbox hok hj
            go_wp2_with fail
            refine HPUT.out.mono ?_
            rintro e w3 ⟨rfl, hb, himp⟩
            have HB3 := Lib.hid (hBx.out.trans hb)
            rcases ok with _ | _
            · have HF := Lib.hid (show okIfs l = false by rw [HOK.out, HST.out]; simp)
              clear hb himp
              go_wp2_with fail
              exact bodyPost_ret (v := .tuple #[.pointer none, .int .i64 160]) (by simp [results, Try.results8, go_sem]) rfl ⟨HB3.out, fun _ => rfl, fun h => by rw [HF.out] at h; cases h⟩
            · obtain ⟨F3, hF3⟩ := himp (by trivial)
              have HF3 := Lib.hid hF3
              clear hb himp hF3
              go_wp2_with fail
              go_roundw
              case rel =>
                refine ⟨j + 1, F3, by first | rfl | go_num, by rw [HN.out]; omega, by rw [HTK.out]; exact HF3.out, ?_, HB3.out⟩
                have := HST.out
                rw [Bool.true_and] at this
                exact this
              case measure => simp [intOf]; omega
          · obtain rfl : j = n := by omega
            have t3 : decide ((j : Int) < (j : Int)) = false := by simp
            have HF := Lib.hid (show okIfs l = true by
              rw [HOK.out, hokf, ← HN.out, List.drop_length, HN.out]
              simp only [okFrom, Bool.and_true]
              exact decide_eq_true H256.out)
            have HH := Lib.hid (show HopAt wr w.heap.size (w.heap.size + 1) w.heap.size F2 l by have := hH; rwa [← HN.out, List.take_length] at this)
            have HB := Lib.hid hB
            clear hH hokf hB hj
            go_wp2_with fail
            exact bodyPost_ret (v := .tuple #[.pointer (some ⟨w.heap.size + 1, 0, none⟩), .int .i64 0]) (by simp [results, Try.results8, go_sem]) rfl ⟨HB.out, (fun h => by rw [HF.out] at h; cases h), fun _ => ⟨_, _, _, rfl, HH.out⟩⟩
end Go.Proofs.Ytlkpalaakncicaa
