/- table: New, all, Len, Get, Set, Delete. -/
import Derived.Test.YtjimnlpmmhcdjaaI1
namespace Go.Proofs.Ytjimnlpmmhcdjaa
open Go.RowKit Go.Maps
set_option linter.unusedVariables false
set_option linter.unusedSimpArgs false
set_option maxRecDepth 100000

abbrev TBf : TypeId := 55
abbrev MapD (w : World) (b n s : Nat) (f : Pf → Option Dt) : Prop := MapAt keyPfC elDtC w b n s f
/-- A Table at g, whose map is b, that holds L. -/
structure TbAt (w : World) (g b n : Nat) (L : List Dt) : Prop where
  intro ::
  blk : Blk w g TBf [.map (some b)]
  map : MapD w b n L.length (lookD L)
  srt : SrtD L
  ok : ∀ x ∈ L, InDt x
section
variable {w w' : World} {g b n : Nat} {L : List Dt}
theorem TbAt.next (h : TbAt w g b n L) (hb : Below w.heap.size w w') : TbAt w' g b n L := ⟨h.blk.next hb, h.map.next hb, h.srt, h.ok⟩
theorem TbAt.ne (h : TbAt w g b n L) : g ≠ b := h.map.notBlk h.blk
theorem TbAt.at0 (h : TbAt w g b n L) : w.cell? ⟨g, 0, none⟩ = some (.map (some b)) := h.blk.cellAt rfl
theorem TbAt.lt (h : TbAt w g b n L) : g < w.heap.size ∧ b < w.heap.size := ⟨h.blk.lt, h.map.lt⟩
theorem TbAt.put {n' s' : Nat} {f' : Pf → Option Dt} {L' : List Dt} (h : TbAt w g b n L) (hg : w.grownBy w' (some b)) (hm : MapD w' b n' s' f') (hf : ∀ p, f' p = lookD L' p) (hs : s' = L'.length) (hsr : SrtD L') (hok : ∀ x ∈ L', InDt x) : TbAt w' g b n' L' := by
  refine ⟨h.blk.of_same (hg.block g h.blk.lt (fun e => h.ne (by injection e))), ?_, hsr, hok⟩
  subst hs
  have hff : f' = lookD L' := funext hf
  rw [← hff]
  exact hm
end
theorem tball_any (w : World) (g b : Nat) (hc : w.cell? ⟨g, 0, none⟩ = some (.map (some b))) :
    Calls Try.prog 23 #[.pointer (some ⟨g, 0, none⟩)] w fun e w' => e = .returned (.map (some b)) ∧ w = w' := by
  go_enter Try.func23, Try.ntmps23
  go_wp2
  go_ret
  exact ⟨rfl, rfl⟩
theorem tball_nil (w : World) :
    Calls Try.prog 23 #[.pointer none] w fun e w' => e = .returned (.map none) ∧ w = w' := by
  go_enter Try.func23, Try.ntmps23
  go_wp2
  go_ret
  exact ⟨rfl, rfl⟩
theorem tbnew_any (w : World) :
    Calls Try.prog 7 #[] w fun e w' => ∃ g b, e = .returned (.pointer (some ⟨g, 0, none⟩)) ∧ TbAt w' g b 0 [] ∧ Below w.heap.size w w' ∧ w.heap.size ≤ g ∧ w.heap.size ≤ b := by
  have hmm := @run_makeMap Try.prog
  have hX : Blk ((w.alloc (.map #[] 0)).alloc (.cells #[.map (some w.heap.size)] TBf)) (w.heap.size + 1) TBf [.map (some w.heap.size)] := by
    rw [← sz_alloc w (.map #[] 0)]; exact Blk.new _ TBf [.map (some w.heap.size)]
  have hb := newB (w.alloc (.map #[] 0)) (.cells #[.map (some w.heap.size)] TBf)
  have HL := Lib.hid (show TbAt ((w.alloc (.map #[] 0)).alloc (.cells #[.map (some w.heap.size)] TBf)) (w.heap.size + 1) w.heap.size 0 [] from ⟨hX, (MapAt.fresh keyPfC elDtC w).next hb, SrtD.nil, fun x hx => by cases hx⟩)
  have HB := Lib.hid ((newB w (.map #[] 0)).trans (hb.mono (newB w (.map #[] 0)).size))
  clear hX hb
  go_enter Try.func7, Try.ntmps7
  go_wp2
  go_ret
  exact ⟨_, _, rfl, HL.out, HB.out, by omega, Nat.le_refl _⟩
theorem tblen_any (w : World) (g b n : Nat) (L : List Dt) (H : TbAt w g b n L) :
    Calls Try.prog 20 #[.pointer (some ⟨g, 0, none⟩)] w fun e w' => e = .returned (.int .i64 L.length) ∧ w = w' := by
  have HA := Lib.hid (tball_any w g b H.at0)
  have hln := fun ty => H.map.len Try.underlying53 ty
  clear H
  go_enter Try.func20, Try.ntmps20
  go_wp2_with (go_at_call 23; refine HA.out.mono ?_; rintro e w' ⟨rfl, rfl⟩)
  go_ret
  exact ⟨rfl, rfl⟩
theorem tblen_nil (w : World) :
    Calls Try.prog 20 #[.pointer none] w fun e w' => e = .returned (.int .i64 0) ∧ w = w' := by
  go_enter Try.func20, Try.ntmps20
  go_wp2_with (go_at_call 23; refine (tball_nil _).mono ?_; rintro e w' ⟨rfl, rfl⟩)
  go_ret
  exact ⟨rfl, rfl⟩
theorem Blk.fiveD {w : World} {P : Nat} {t : TypeId} {u0 u1 u2 u3 u4 : Value} (h : Blk w P t [u0, u1, u2, u3, u4]) (a b c d e : Value) :
    Blk (((((w.setCell ⟨P, 0, none⟩ a).setCell ⟨P, 1, none⟩ b).setCell ⟨P, 2, none⟩ c).setCell ⟨P, 3, none⟩ d).setCell ⟨P, 4, none⟩ e) P t [a, b, c, d, e] := ((((h.set 0 a).set 1 b).set 2 c).set 3 d).set 4 e
theorem below_fiveD {B : Nat} {w0 w : World} {P : Nat} (h : Below B w0 w) (hP : B ≤ P) (a b c d e : Value) :
    Below B w0 (((((w.setCell ⟨P, 0, none⟩ a).setCell ⟨P, 1, none⟩ b).setCell ⟨P, 2, none⟩ c).setCell ⟨P, 3, none⟩ d).setCell ⟨P, 4, none⟩ e) :=
  ((((h.setCell (p := ⟨P, 0, none⟩) hP _).setCell (p := ⟨P, 1, none⟩) hP _).setCell (p := ⟨P, 2, none⟩) hP _).setCell (p := ⟨P, 3, none⟩) hP _).setCell (p := ⟨P, 4, none⟩) hP _
set_option maxHeartbeats 4000000 in
theorem tbget_any (w : World) (g b n : Nat) (L : List Dt) (H : TbAt w g b n L) (p : Pf) (hp : InPf p) :
    Calls Try.prog 17 #[.pointer (some ⟨g, 0, none⟩), pfV p] w fun e w' => e = .returned (.tuple #[dtV ((lookD L p).getD Dt.zero), .bool (lookD L p).isSome]) ∧ Below w.heap.size w w' := by
  obtain ⟨xa, xn⟩ := p
  have hb1 := newB w (.cells #[.int .u32 xa, .int .i64 xn] 32)
  have hb2 := newB (w.alloc (.cells #[.int .u32 xa, .int .i64 xn] 32)) (.cells #[.int .i64 0, .int .u32 0, .int .i64 0, .int .i64 0, .int .i64 0] 36)
  have hX := (Blk.new w 32 [.int .u32 xa, .int .i64 xn]).next hb2
  have hY := Blk.new (w.alloc (.cells #[.int .u32 xa, .int .i64 xn] 32)) 36 [.int .i64 0, .int .u32 0, .int .i64 0, .int .i64 0, .int .i64 0]
  rw [sz_alloc] at hY
  have hb0 := hb1.trans (hb2.mono hb1.size)
  obtain ⟨P, hP⟩ : ∃ P, w.heap.size = P := ⟨_, rfl⟩
  obtain ⟨V, hV⟩ : ∃ V, (w.alloc (.cells #[.int .u32 xa, .int .i64 xn] 32)).alloc (.cells #[.int .i64 0, .int .u32 0, .int .i64 0, .int .i64 0, .int .i64 0] 36) = V := ⟨_, rfl⟩
  have hX : Blk V P 32 [.int .u32 xa, .int .i64 xn] := by rw [← hV, ← hP]; exact hX
  have hY : Blk V (P + 1) 36 [.int .i64 0, .int .u32 0, .int .i64 0, .int .i64 0, .int .i64 0] := by rw [← hV, ← hP]; exact hY
  have hb0 : Below w.heap.size w V := by rw [← hV]; exact hb0
  have hT := H.next hb0
  obtain ⟨⟨y0, ⟨y1, y2⟩, y3, y4⟩, hy⟩ : ∃ y, (lookD L ⟨xa, xn⟩).getD Dt.zero = y := ⟨_, rfl⟩
  obtain ⟨o, ho⟩ : ∃ o, (lookD L ⟨xa, xn⟩).isSome = o := ⟨_, rfl⟩
  rw [hy, ho]
  have HY := Lib.hid hY
  have HB0 := Lib.hid hb0
  have HVE := Lib.hid hV
  have HPE := Lib.hid hP
  have HALL := Lib.hid (fun (W : World) (hW : Below V.heap.size V W) => show W.cell? ⟨g, 0, none⟩ = some (.map (some b)) ∧ W.cell? ⟨P, 0, none⟩ = some (.int .u32 xa) ∧ W.cell? ⟨P, 1, none⟩ = some (.int .i64 xn) ∧ (Instr.lookup 53 (.map (some b)) (.agg #[.int .u32 xa, .int .i64 xn]) true).run Try.prog W = .ok (.tuple #[.agg #[.int .i64 y0, .int .u32 y1, .int .i64 y2, .int .i64 y3, .int .i64 y4], .bool o]) W from by
    have h1 := MapAt.look_ok (C := keyPfC) (E := elDtC) (hT.map.next hW) Try.underlying53 hp
    rw [hy, ho] at h1
    obtain ⟨x0, x1⟩ := pf_boxes (hX.next hW)
    exact ⟨(hT.next hW).at0, x0, x1, h1⟩)
  have HC := Lib.hid (fun (W : World) (hW : Below V.heap.size V W) => tball_any W g b (hT.next hW).at0)
  clear hX hY hb0 hb1 hb2 hV hP hy ho hT H hp
  go_enter Try.func17, Try.ntmps17
  go_wp2_with fail
  rw [HVE.out, HPE.out]
  go_region_held_law (fun W => W.cell? ⟨g, 0, none⟩ = some (.map (some b)) ∧ W.cell? ⟨P, 0, none⟩ = some (.int .u32 xa) ∧ W.cell? ⟨P, 1, none⟩ = some (.int .i64 xn) ∧ (Instr.lookup 53 (.map (some b)) (.agg #[.int .u32 xa, .int .i64 xn]) true).run Try.prog W = .ok (.tuple #[.agg #[.int .i64 y0, .int .u32 y1, .int .i64 y2, .int .i64 y3, .int .i64 y4], .bool o]) W) (first | exact HALL.out _ (Below.refl _ _).drew | exact HALL.out _ ((Below.refl _ _).drew.alloc (Nat.le_refl _) _)) (first | (go_at_call 23; refine (HC.out _ (by first | exact (Below.refl _ _).drew | exact ((Below.refl _ _).alloc (Nat.le_refl _) _).drew)).mono ?_; rintro e w' ⟨rfl, rfl⟩))
  all_goals
    have hb3 := (newB V (.cells #[.int .i64 y0, .int .u32 y1, .int .i64 y2, .int .i64 y3, .int .i64 y4] 36)).drew
    have hZ : Blk (V.alloc (.cells #[.int .i64 y0, .int .u32 y1, .int .i64 y2, .int .i64 y3, .int .i64 y4] 36)).drew V.heap.size 36 [.int .i64 y0, .int .u32 y1, .int .i64 y2, .int .i64 y3, .int .i64 y4] := (Blk.new V 36 [.int .i64 y0, .int .u32 y1, .int .i64 y2, .int .i64 y3, .int .i64 y4])
    obtain ⟨V2, hV2⟩ : ∃ V2, (V.alloc (.cells #[.int .i64 y0, .int .u32 y1, .int .i64 y2, .int .i64 y3, .int .i64 y4] 36)).drew = V2 := ⟨_, rfl⟩
    obtain ⟨Q, hQ⟩ : ∃ Q, V.heap.size = Q := ⟨_, rfl⟩
    rw [hV2] at hb3 hZ ⊢
    have HB3 := Lib.hid (HB0.out.trans (hb3.mono HB0.out.size))
    have hY3 := HY.out.next hb3
    have HY3 := Lib.hid hY3
    rw [hQ] at hZ ⊢
    obtain ⟨z0, z1, z2, z3, z4⟩ := dt_boxes hZ
    obtain ⟨d0, d1, d2, d3, d4⟩ := dt_boxes hY3
    have f0 := hY3.f 0
    have f1 := hY3.f 1
    have f2 := hY3.f 2
    have f3 := hY3.f 3
    have f4 := hY3.f 4
    clear hV2 hQ hb3 hZ hY3 HALL HC
    go_wp2_with fail
    obtain ⟨r0, r1, r2, r3, r4⟩ := dt_boxes (Blk.fiveD HY3.out (.int .i64 y0) (.int .u32 y1) (.int .i64 y2) (.int .i64 y3) (.int .i64 y4))
    exact bodyPost_ret (v := .tuple #[.agg #[.int .i64 y0, .int .u32 y1, .int .i64 y2, .int .i64 y3, .int .i64 y4], .bool o]) (by simp [results, Try.results17, go_sem, r0, r1, r2, r3, r4]) rfl ⟨rfl, below_fiveD HB3.out (by rw [HPE.out]; omega) _ _ _ _ _⟩
end Go.Proofs.Ytjimnlpmmhcdjaa
