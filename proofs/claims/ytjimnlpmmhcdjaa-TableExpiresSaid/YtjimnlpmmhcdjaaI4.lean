/- table: Set, Delete; nil ones. -/
import Derived.Test.YtjimnlpmmhcdjaaI3
namespace Go.Proofs.Ytjimnlpmmhcdjaa
open Go.RowKit Go.Maps
set_option linter.unusedVariables false
set_option linter.unusedSimpArgs false
set_option maxRecDepth 100000

theorem Turns.mono {S S' : Nat → Prop} {a b : World} (h : Turns S a b) (hs : ∀ k, S k → S' k) : Turns S' a b := ⟨h.os, h.tape, h.output, h.size, fun k hk hn => h.block k hk (fun e => hn (hs k e))⟩
theorem grown_turns {w w' : World} {b : Nat} (hg : w.grownBy w' (some b)) : Turns (fun k => k = b) w w' := ⟨hg.os, hg.tape, hg.output, hg.size, fun k hk hn => hg.block k hk (fun e => hn (by injection e))⟩
/-- What Set answers, and what is there then. -/
def setR (o : Dt) (L : List Dt) : Int × List Dt :=
  if okP o.p.a o.p.n = false then (20, L) else if (lookD L o.p).isSome = false ∧ 4096 ≤ L.length then (2, L) else (0, setD o L)
def SetTo (w w' : World) (g b n : Nat) (R : List Dt) : Prop := ∃ n', n' ≤ n + 1 ∧ TbAt w' g b n' R ∧ Turns (fun k => k = b) w w'
theorem dmap_eq_nil (b : Nat) (w : World) : (binOp .eql 53 (.map (some b)) (.map none)).run Try.prog w = .ok (.bool false) w := by kernel_rfl
set_option maxHeartbeats 4000000 in
theorem tbset_any (w : World) (g b n : Nat) (L : List Dt) (H : TbAt w g b n L) (o : Dt) (ho : InDt o) (hn : n < 1000000) :
    Calls Try.prog 9 #[.pointer (some ⟨g, 0, none⟩), dtV o] w fun e w' => e = .returned (.int .i64 (setR o L).1) ∧ SetTo w w' g b n (setR o L).2 := by
  obtain ⟨x0, ⟨x1, x2⟩, x3, x4⟩ := o
  have ho : InPf ⟨x1, x2⟩ := ho
  obtain ⟨R, hR⟩ : ∃ R, setR ⟨x0, ⟨x1, x2⟩, x3, x4⟩ L = R := ⟨_, rfl⟩
  rw [hR]
  have HR := Lib.hid hR
  have hb1 := newB w (.cells #[.int .i64 x0, .int .u32 x1, .int .i64 x2, .int .i64 x3, .int .i64 x4] 36)
  have hX := Blk.new w 36 [.int .i64 x0, .int .u32 x1, .int .i64 x2, .int .i64 x3, .int .i64 x4]
  obtain ⟨P, hP⟩ : ∃ P, w.heap.size = P := ⟨_, rfl⟩
  obtain ⟨V, hV⟩ : ∃ V, w.alloc (.cells #[.int .i64 x0, .int .u32 x1, .int .i64 x2, .int .i64 x3, .int .i64 x4] 36) = V := ⟨_, rfl⟩
  rw [hV] at hb1 hX
  rw [hP] at hX
  have HB0 := Lib.hid hb1
  have HX := Lib.hid hX
  have HT := Lib.hid (H.next hb1)
  have HVE := Lib.hid hV
  have HPE := Lib.hid hP
  have HALL := Lib.hid (fun (W : World) (hW : Below V.heap.size V W) => show W.cell? ⟨g, 0, none⟩ = some (.map (some b)) ∧ W.cell? ⟨P, 1, none⟩ = some (.int .u32 x1) ∧ W.cell? ⟨P, 2, none⟩ = some (.int .i64 x2) from by
    obtain ⟨c0, c1, c2, c3, c4⟩ := dt_boxes (hX.next hW)
    exact ⟨(HT.out.next hW).at0, c1, c2⟩)
  have HC := Lib.hid (fun (W : World) (hW : Below V.heap.size V W) => tball_any W g b (HT.out.next hW).at0)
  have hmn := dmap_eq_nil b
  have HO := Lib.hid ho
  have HCK := Lib.hid (fun u => check_any x1 x2 u)
  clear hX hb1 hV hP H hR ho
  go_enter Try.func9, Try.ntmps9
  go_wp2_with fail
  rw [HVE.out, HPE.out]
  go_region_held_law (fun W => W.cell? ⟨g, 0, none⟩ = some (.map (some b)) ∧ W.cell? ⟨P, 1, none⟩ = some (.int .u32 x1) ∧ W.cell? ⟨P, 2, none⟩ = some (.int .i64 x2)) (first | exact HALL.out _ (Below.refl _ _).drew | exact HALL.out _ ((Below.refl _ _).drew.alloc (Nat.le_refl _) _)) (first | (go_at_call 23; refine (HC.out _ (by first | exact (Below.refl _ _).drew | exact ((Below.refl _ _).alloc (Nat.le_refl _) _).drew)).mono ?_; rintro e w' ⟨rfl, rfl⟩))
  all_goals
    have hb3 := (newB V (.cells #[.int .u32 x1, .int .i64 x2] 32)).drew
    have hZ : Blk (V.alloc (.cells #[.int .u32 x1, .int .i64 x2] 32)).drew V.heap.size 32 [.int .u32 x1, .int .i64 x2] := (Blk.new V 32 [.int .u32 x1, .int .i64 x2])
    obtain ⟨V2, hV2⟩ : ∃ V2, (V.alloc (.cells #[.int .u32 x1, .int .i64 x2] 32)).drew = V2 := ⟨_, rfl⟩
    obtain ⟨Q, hQ⟩ : ∃ Q, V.heap.size = Q := ⟨_, rfl⟩
    rw [hV2] at hb3 hZ ⊢
    rw [hQ] at hZ ⊢
    have HB3 := Lib.hid (HB0.out.trans (hb3.mono HB0.out.size))
    have HX3 := Lib.hid (HX.out.next hb3)
    have HT3 := Lib.hid (HT.out.next hb3)
    have HZ := Lib.hid hZ
    obtain ⟨z0, z1⟩ := pf_boxes hZ
    clear hV2 hQ hb3 hZ HALL HC
    go_wp2_with fail
    refine (HCK.out _).mono ?_
    rintro e V4 ⟨rfl, hb4⟩
    have HB4 := Lib.hid (HB3.out.trans (hb4.mono HB3.out.size))
    have HX4 := Lib.hid (HX3.out.next hb4)
    have HT4 := Lib.hid (HT3.out.next hb4)
    obtain ⟨z0, z1⟩ := pf_boxes (HZ.out.next hb4)
    clear hb4 HT3 HX3 HB3 HT HX
    rcases hok : okP x1 x2 with _ | _
    · have he : errP x1 x2 = 20 := by unfold errP; rw [hok]; rfl
      rw [he]
      obtain rfl : R = (20, L) := by rw [← HR.out]; unfold setR; rw [if_pos hok]
      clear hok he
      go_wp2_with fail
      go_ret
      exact ⟨rfl, n, Nat.le_succ n, HT4.out, Turns.of_below HB4.out⟩
    have he : errP x1 x2 = 0 := by unfold errP; rw [hok]; rfl
    rw [he]
    have hR2 : R = if (lookD L ⟨x1, x2⟩).isSome = false ∧ 4096 ≤ L.length then (2, L) else (0, setD ⟨x0, ⟨x1, x2⟩, x3, x4⟩ L) := by rw [← HR.out]; unfold setR; rw [if_neg (by simp [hok])]
    clear hok he HR
    have hlk := MapAt.look_ok (C := keyPfC) (E := elDtC) HT4.out.map Try.underlying53 HO.out
    obtain ⟨⟨y0, ⟨y1, y2⟩, y3, y4⟩, hy⟩ : ∃ y, (lookD L ⟨x1, x2⟩).getD Dt.zero = y := ⟨_, rfl⟩
    obtain ⟨is, his⟩ : ∃ o, (lookD L ⟨x1, x2⟩).isSome = o := ⟨_, rfl⟩
    rw [hy, his] at hlk
    rw [his] at hR2
    have hlk : (Instr.lookup 53 (.map (some b)) (.agg #[.int .u32 x1, .int .i64 x2]) true).run Try.prog V4 = .ok (.tuple #[.agg #[.int .i64 y0, .int .u32 y1, .int .i64 y2, .int .i64 y3, .int .i64 y4], .bool is]) V4 := hlk
    have hb5 := newB V4 (.cells #[.int .i64 y0, .int .u32 y1, .int .i64 y2, .int .i64 y3, .int .i64 y4] 36)
    have hln := fun ty => (HT4.out.next hb5).map.len Try.underlying53 ty
    obtain ⟨l, hl⟩ : ∃ l, L.length = l := ⟨_, rfl⟩
    rw [hl] at hln hR2
    have HIS := Lib.hid his
    have HL := Lib.hid hl
    by_cases hful : is = false ∧ 4096 ≤ l
    · obtain ⟨rfl, hful⟩ := hful
      obtain rfl : R = (2, L) := by rw [hR2, if_pos ⟨rfl, hful⟩]
      have t1 : decide ((4096 : Int) ≤ (l : Int)) = true := decide_eq_true (by omega)
      clear hR2 hy his hl hful
      go_wp2_with fail
      go_ret
      exact ⟨rfl, n, Nat.le_succ n, HT4.out.next hb5, (Turns.of_below HB4.out).trans (Turns.of_below hb5)⟩
    obtain rfl : R = (0, setD ⟨x0, ⟨x1, x2⟩, x3, x4⟩ L) := by rw [hR2, if_neg hful]
    have t1 : is = true ∨ (is = false ∧ decide ((4096 : Int) ≤ (l : Int)) = false) := by
      rcases is with _ | _
      · exact .inr ⟨rfl, decide_eq_false (fun h => hful ⟨rfl, by omega⟩)⟩
      · exact .inl rfl
    have hT5 := HT4.out.next hb5
    obtain ⟨c0, c1, c2, c3, c4⟩ := dt_boxes (HX4.out.next hb5)
    obtain ⟨W3, hrun, hM3, hg3⟩ := hT5.map.update Try.underlying53 (by unfold maxLen; omega) HO.out (a := ⟨x0, ⟨x1, x2⟩, x3, x4⟩) trivial
    have hrun : (Instr.mapUpdate 53 (.map (some b)) (.agg #[.int .u32 x1, .int .i64 x2]) (.agg #[.int .i64 x0, .int .u32 x1, .int .i64 x2, .int .i64 x3, .int .i64 x4])).run Try.prog (V4.alloc (.cells #[.int .i64 y0, .int .u32 y1, .int .i64 y2, .int .i64 y3, .int .i64 y4] 36)) = .ok () W3 := hrun
    obtain ⟨z0', z1'⟩ := show (V4.alloc (.cells #[.int .i64 y0, .int .u32 y1, .int .i64 y2, .int .i64 y3, .int .i64 y4] 36)).cell? ⟨Q, 0, none⟩ = some (.int .u32 x1) ∧ (V4.alloc (.cells #[.int .i64 y0, .int .u32 y1, .int .i64 y2, .int .i64 y3, .int .i64 y4] 36)).cell? ⟨Q, 1, none⟩ = some (.int .i64 x2) from ⟨kept hb5 z0, kept hb5 z1⟩
    have HF := Lib.hid (show SetTo w W3 g b n (setD ⟨x0, ⟨x1, x2⟩, x3, x4⟩ L) from ⟨n + 1, Nat.le_refl _, hT5.put hg3 hM3 (fun p => by rw [look_setD hT5.srt]; rfl) (by rw [setD_len hT5.srt]) (setD_srt hT5.srt _) (fun x hx => by
      rcases (mem_setD _ _ _).1 hx with rfl | ⟨h1, _⟩
      · exact HO.out
      · exact hT5.ok x h1), ((Turns.of_below HB4.out).trans (Turns.of_below hb5)).trans (grown_turns hg3)⟩)
    clear hR2 hy his hl hful hM3 hg3 hT5 hb5
    rcases t1 with rfl | ⟨rfl, t1⟩
    all_goals
      go_wp2_with fail
      go_ret
      exact ⟨rfl, HF.out⟩
theorem tbset_nil (w : World) (o : Dt) :
    Calls Try.prog 9 #[.pointer none, dtV o] w fun e w' => e = .returned (.int .i64 6) ∧ Below w.heap.size w w' := by
  obtain ⟨x0, ⟨x1, x2⟩, x3, x4⟩ := o
  have hb1 := newB w (.cells #[.int .i64 x0, .int .u32 x1, .int .i64 x2, .int .i64 x3, .int .i64 x4] 36)
  have hX := Blk.new w 36 [.int .i64 x0, .int .u32 x1, .int .i64 x2, .int .i64 x3, .int .i64 x4]
  obtain ⟨P, hP⟩ : ∃ P, w.heap.size = P := ⟨_, rfl⟩
  obtain ⟨V, hV⟩ : ∃ V, w.alloc (.cells #[.int .i64 x0, .int .u32 x1, .int .i64 x2, .int .i64 x3, .int .i64 x4] 36) = V := ⟨_, rfl⟩
  rw [hV] at hb1 hX
  rw [hP] at hX
  have HB0 := Lib.hid hb1
  have HVE := Lib.hid hV
  have HPE := Lib.hid hP
  have HALL := Lib.hid (fun (W : World) (hW : Below V.heap.size V W) => show W.cell? ⟨P, 1, none⟩ = some (.int .u32 x1) ∧ W.cell? ⟨P, 2, none⟩ = some (.int .i64 x2) from by
    obtain ⟨c0, c1, c2, c3, c4⟩ := dt_boxes (hX.next hW)
    exact ⟨c1, c2⟩)
  have hmn : ∀ w, (binOp .eql 53 (.map none) (.map none)).run Try.prog w = .ok (.bool true) w := fun w => by kernel_rfl
  clear hX hb1 hV hP
  go_enter Try.func9, Try.ntmps9
  go_wp2_with fail
  rw [HVE.out, HPE.out]
  go_region_held_law (fun W => W.cell? ⟨P, 1, none⟩ = some (.int .u32 x1) ∧ W.cell? ⟨P, 2, none⟩ = some (.int .i64 x2)) (first | exact HALL.out _ (Below.refl _ _).drew | exact HALL.out _ ((Below.refl _ _).drew.alloc (Nat.le_refl _) _)) (first | (go_at_call 23; refine (tball_nil _).mono ?_; rintro e w' ⟨rfl, rfl⟩))
  all_goals
    have HB1 := Lib.hid (HB0.out.trans ((newB V (.cells #[.int .u32 x1, .int .i64 x2] 32)).drew.mono HB0.out.size))
    go_wp2_with fail
    go_ret
    exact ⟨rfl, HB1.out⟩
end Go.Proofs.Ytjimnlpmmhcdjaa
