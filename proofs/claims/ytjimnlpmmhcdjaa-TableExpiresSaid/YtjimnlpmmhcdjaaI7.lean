/- table: Expire; nil ones. -/
import Derived.Test.YtjimnlpmmhcdjaaI6
namespace Go.Proofs.Ytjimnlpmmhcdjaa
open Go.RowKit Go.Maps Go.Sort
set_option linter.unusedVariables false
set_option linter.unusedSimpArgs false
set_option maxRecDepth 100000

/-- So many of a list are gone. -/
def goneD (L M : List Dt) (k : Nat) : List Dt := L.filter fun x => !(M.take k).any (fun y => decide (y.p = x.p))
theorem gone_zero (L M : List Dt) : goneD L M 0 = L := by unfold goneD; rw [List.filter_eq_self]; intro x _; simp
theorem gone_step (L M : List Dt) (k : Nat) (hk : k < M.length) : delD (M.getD k Dt.zero).p (goneD L M k) = goneD L M (k + 1) := by
  unfold goneD delD
  rw [List.filter_filter]
  congr 1
  funext x
  rw [List.take_add_one, List.any_append]
  have e : M[k]? = some (M.getD k Dt.zero) := by simp [List.getD, hk]
  rw [e]
  simp only [Option.toList_some, List.any_cons, List.any_nil, Bool.or_false, Bool.not_or]
  have h2 : decide (x.p = (M.getD k Dt.zero).p) = decide ((M.getD k Dt.zero).p = x.p) := by
    rw [Bool.eq_iff_iff, decide_eq_true_eq, decide_eq_true_eq]; exact eq_comm
  rw [h2, Bool.and_comm]
theorem gone_all {L : List Dt} (h : SrtD L) (now : Int) : goneD L (L.filter (wtOver now)) (L.filter (wtOver now)).length = leftD now L := by
  unfold goneD leftD
  rw [List.take_length]
  refine List.filter_congr fun x hx => ?_
  congr 1
  rw [Bool.eq_iff_iff, List.any_eq_true, decide_eq_true_eq]
  constructor
  · rintro ⟨y, hy, e⟩
    obtain ⟨h1, h2⟩ := List.mem_filter.1 hy
    have := h.inj h1 hx (by simpa using e)
    subst this
    simpa [wtOver] using h2
  · intro hu
    exact ⟨x, List.mem_filter.2 ⟨hx, by simpa [wtOver] using hu⟩, by simp⟩
theorem gone_srt {L : List Dt} (h : SrtD L) (M : List Dt) (k : Nat) : SrtD (goneD L M k) := h.filter _
theorem overD_eq (now : Int) (L : List Dt) : L.filter (wtOver now) = overD now L := rfl
set_option maxHeartbeats 8000000 in
theorem tbexpire_any (w : World) (g b n : Nat) (L : List Dt) (H : TbAt w g b n L) (hn : n < 1000000) (now : Int) :
    Calls Try.prog 14 #[.pointer (some ⟨g, 0, none⟩), .int .i64 now] w fun e w' => ∃ q c, e = .returned (.slice q (overD now L).length c) ∧ DtsAt w' q (overD now L) ∧ (overD now L).length ≤ c ∧ c ≤ maxLen ∧ TbAt w' g b n (leftD now L) ∧ Turns (fun k => k = b) w w' ∧ ∀ r off, q = some ⟨r, off, none⟩ → w.heap.size < r := by
  have hb0 := newB w (.cells #[.int .i64 now] 3)
  have hZ := Blk.new w 3 [.int .i64 now]
  obtain ⟨P, hP⟩ : ∃ P, w.heap.size = P := ⟨_, rfl⟩
  obtain ⟨V, hV⟩ : ∃ V, w.alloc (.cells #[.int .i64 now] 3) = V := ⟨_, rfl⟩
  rw [hV] at hb0 hZ
  rw [hP] at hZ
  have HT := Lib.hid (thoseOver_any V g b n L (H.next hb0) hn P now (hZ.cellAt rfl))
  have HH := Lib.hid (H.next hb0)
  have HB0 := Lib.hid hb0
  have HVE := Lib.hid hV
  have HPE := Lib.hid hP
  have HGA := Lib.hid (gone_all H.srt now)
  have HO := Lib.hid (show overD now L = L.filter (wtOver now) from rfl)
  obtain ⟨M, hM⟩ : ∃ M, L.filter (wtOver now) = M := ⟨_, rfl⟩
  rw [hM] at HT HGA HO
  rw [HO.out]
  have HSUB := Lib.hid (show ∀ x ∈ M, x ∈ L from fun x hx => by rw [← hM] at hx; exact (List.mem_filter.1 hx).1)
  clear hb0 hZ hV hP H hM
  go_enter Try.func14, Try.ntmps14
  go_wp2_with fail
  rw [HVE.out, HPE.out]
  go_wp2_with fail
  refine HT.out.mono ?_
  rintro e U ⟨q, c, rfl, h1, h2, h3, h4, h5⟩
  obtain ⟨m, hm⟩ : ∃ m, M.length = m := ⟨_, rfl⟩
  have HM := Lib.hid hm
  have H1 := Lib.hid h1
  have H2 := Lib.hid h2
  have H3 := Lib.hid h3
  have H4 := Lib.hid h4
  have H5 := Lib.hid h5
  have HT2 := Lib.hid (HH.out.next h4)
  rw [hm]
  have hmx : m ≤ maxLen := by rw [← hm]; exact Nat.le_trans h2 h3
  unfold maxLen at hmx
  clear h1 h2 h3 h4 h5 hm HT
  go_wp2_with fail
  go_loopw [13] (fun i wr => ∃ k : Nat, k ≤ m ∧ i = .int .i64 k ∧ TbAt wr g b n (goneD L M k) ∧ DtsAt wr q M ∧ Turns (fun k => k = b) U wr) (fun i _ => m - (intOf i).toNat)
  case atStart => exact ⟨0, Nat.zero_le _, rfl, by rw [gone_zero]; exact HT2.out, H1.out, Turns.refl _ _⟩
  case round =>
    obtain ⟨k, hk, rfl, hT, hA, hTu⟩ := hrel
    have HTR := Lib.hid hT
    have HAR := Lib.hid hA
    have HTU := Lib.hid hTu
    clear hT hA hTu
    by_cases hlt : k < m
    · have hltI : (k : Int) < (m : Int) := by omega
      obtain ⟨r, off, rfl, e0, e1, e2, e3, e4⟩ := dt_cell HAR.out HM.out hlt
      obtain ⟨x, hx⟩ : ∃ x, M.getD k Dt.zero = x := ⟨_, rfl⟩
      have HSTEP := Lib.hid (show delD x.p (goneD L M k) = goneD L M (k + 1) from by rw [← hx]; exact gone_step L M k (by rw [HM.out]; exact hlt))
      have HIN := Lib.hid (show InPf x.p from HH.out.ok x (HSUB.out x (by rw [← hx]; simp [List.getD, show k < M.length by rw [HM.out]; exact hlt])))
      rw [hx] at e0 e1 e2 e3 e4
      obtain ⟨x0, ⟨x1, x2⟩, x3, x4⟩ := x
      dsimp only at e0 e1 e2 e3 e4
      dsimp only at HSTEP HIN
      have hA1 := newB wr (.cells #[.int .i64 x0, .int .u32 x1, .int .i64 x2, .int .i64 x3, .int .i64 x4] 36)
      have hX := Blk.new wr 36 [.int .i64 x0, .int .u32 x1, .int .i64 x2, .int .i64 x3, .int .i64 x4]
      obtain ⟨Y, hY⟩ : ∃ Y, wr.alloc (.cells #[.int .i64 x0, .int .u32 x1, .int .i64 x2, .int .i64 x3, .int .i64 x4] 36) = Y := ⟨_, rfl⟩
      obtain ⟨Q, hQ⟩ : ∃ Q, wr.heap.size = Q := ⟨_, rfl⟩
      rw [hY] at hA1 hX
      rw [hQ] at hX
      have HYE := Lib.hid hY
      have HQE := Lib.hid hQ
      have HBY := Lib.hid hA1.drew
      have HTY := Lib.hid ((HTR.out.next hA1).next (Below.refl _ _).drew)
      have HXY := Lib.hid (hX.next (Below.refl _ _).drew)
      have HAY := Lib.hid ((HAR.out.below hA1).below (Below.refl _ _).drew)
      have HTUY := Lib.hid (HTU.out.trans (Turns.of_below hA1.drew))
      have hS : Y.drew.cell? ⟨g, 0, none⟩ = some (.map (some b)) ∧ Y.drew.cell? ⟨Q, 1, none⟩ = some (.int .u32 x1) ∧ Y.drew.cell? ⟨Q, 2, none⟩ = some (.int .i64 x2) := by
        obtain ⟨c0, c1, c2, c3, c4⟩ := dt_boxes HXY.out
        exact ⟨HTY.out.at0, c1, c2⟩
      have HPG := Lib.hid (show Q < Y.drew.heap.size ∧ Q ≠ b from ⟨HXY.out.lt, HTY.out.map.notBlk HXY.out⟩)
      obtain ⟨es, cl, hes⟩ := HTY.out.map.heap
      have HES := Lib.hid hes
      clear hx hA1 hX hY hQ hes
      go_wp2_with fail
      rw [HYE.out, HQE.out]
      clear e0 e1 e2 e3 e4
      go_region_held_law (fun W => W.cell? ⟨g, 0, none⟩ = some (.map (some b)) ∧ W.cell? ⟨Q, 1, none⟩ = some (.int .u32 x1) ∧ W.cell? ⟨Q, 2, none⟩ = some (.int .i64 x2)) (with_reducible assumption) (first | (refine step_delL (C := keyPfC) (E := elDtC) Try.underlying53 (by kernel_rfl) (.tmp 20) (.tmp 23) rfl b n (goneD L M k).length (lookD (goneD L M k)) ⟨x1, x2⟩ HIN.out rfl rfl HTY.out.map ?_; intro w5 s5 hm5 hs5 hg5; have hS5 : w5.cell? ⟨g, 0, none⟩ = some (.map (some b)) ∧ w5.cell? ⟨Q, 1, none⟩ = some (.int .u32 x1) ∧ w5.cell? ⟨Q, 2, none⟩ = some (.int .i64 x2) := (by
          obtain ⟨c0, c1, c2, c3, c4⟩ := dt_boxes (HXY.out.of_same (hg5.out.block Q HPG.out.1 (fun e => HPG.out.2 (by injection e))))
          exact ⟨(HTY.out.del hg5.out hm5.out hs5.out).at0, c1, c2⟩)))
      all_goals
        go_wp2_with fail
        go_roundw
        case rel => exact ⟨k + 1, by omega, by go_num, HSTEP.out ▸ HTY.out.del hg5.out hm5.out hs5.out, HAY.out.turn HES.out hg5.out, HTUY.out.trans (grown_turns hg5.out)⟩
        case measure => simp [intOf]; omega
    · obtain rfl : k = m := by omega
      go_wp2_with fail
      go_ret
      have hg := HTR.out
      rw [← HM.out, HGA.out] at hg
      refine ⟨q, c, by rw [HM.out]; rfl, HAR.out, H2.out, H3.out, hg, ((Turns.of_below HB0.out).trans (Turns.of_below H4.out)).trans HTU.out, fun r off e => ?_⟩
      have h1 := H5.out r off e
      have h2 := HB0.out.size
      omega
/-- Nil ones. -/
theorem tbget_nil (w : World) (p : Pf) (hp : InPf p) :
    Calls Try.prog 17 #[.pointer none, pfV p] w fun e w' => e = .returned (.tuple #[dtV Dt.zero, .bool false]) ∧ Below w.heap.size w w' := by
  obtain ⟨xa, xn⟩ := p
  have hb1 := newB w (.cells #[.int .u32 xa, .int .i64 xn] 32)
  have hb2 := newB (w.alloc (.cells #[.int .u32 xa, .int .i64 xn] 32)) (.cells #[.int .i64 0, .int .u32 0, .int .i64 0, .int .i64 0, .int .i64 0] 36)
  have hX := (Blk.new w 32 [.int .u32 xa, .int .i64 xn]).next hb2
  have hY := Blk.new (w.alloc (.cells #[.int .u32 xa, .int .i64 xn] 32)) 36 [.int .i64 0, .int .u32 0, .int .i64 0, .int .i64 0, .int .i64 0]
  rw [sz_alloc] at hY
  have hb0 := hb1.trans (hb2.mono hb1.size)
  obtain ⟨P, hP⟩ : ∃ P, w.heap.size = P := ⟨_, rfl⟩
  obtain ⟨V, hV⟩ : ∃ V, (w.alloc (.cells #[.int .u32 xa, .int .i64 xn] 32)).alloc (.cells #[.int .i64 0, .int .u32 0, .int .i64 0, .int .i64 0, .int .i64 0] 36) = V := ⟨_, rfl⟩
  have hX : Blk V P 32 [.int .u32 xa, .int .i64 xn] := by rw [← hV, ← hP]; exact hX
  have hY : Blk V (P + 1) 36 [.int .i64 0, .int .u32 0, .int .i64 0, .int .i64 0, .int .i64 0] := by rw [← hV, ← hP]; exact hY
  have hb0 : Below w.heap.size w V := by rw [← hV]; exact hb0
  have HY := Lib.hid hY
  have HB0 := Lib.hid hb0
  have HVE := Lib.hid hV
  have HPE := Lib.hid hP
  have HALL := Lib.hid (fun (W : World) (hW : Below V.heap.size V W) => show W.cell? ⟨P, 0, none⟩ = some (.int .u32 xa) ∧ W.cell? ⟨P, 1, none⟩ = some (.int .i64 xn) ∧ (Instr.lookup 53 (.map none) (.agg #[.int .u32 xa, .int .i64 xn]) true).run Try.prog W = .ok (.tuple #[.agg #[.int .i64 0, .int .u32 0, .int .i64 0, .int .i64 0, .int .i64 0], .bool false]) W from by
    have h1 : (Instr.lookup 53 (.map none) (pfV ⟨xa, xn⟩) true).run Try.prog W = .ok (.tuple #[dtV Dt.zero, .bool false]) W := Maps.look_nil true pk_keyed Try.underlying53 (elDtC.zrun W) (keyP_mk _ hp)
    obtain ⟨x0, x1⟩ := pf_boxes (hX.next hW)
    exact ⟨x0, x1, h1⟩)
  clear hX hY hb0 hb1 hb2 hV hP hp
  go_enter Try.func17, Try.ntmps17
  go_wp2_with fail
  rw [HVE.out, HPE.out]
  go_region_held_law (fun W => W.cell? ⟨P, 0, none⟩ = some (.int .u32 xa) ∧ W.cell? ⟨P, 1, none⟩ = some (.int .i64 xn) ∧ (Instr.lookup 53 (.map none) (.agg #[.int .u32 xa, .int .i64 xn]) true).run Try.prog W = .ok (.tuple #[.agg #[.int .i64 0, .int .u32 0, .int .i64 0, .int .i64 0, .int .i64 0], .bool false]) W) (first | exact HALL.out _ (Below.refl _ _).drew | exact HALL.out _ ((Below.refl _ _).drew.alloc (Nat.le_refl _) _)) (first | (go_at_call 23; refine (tball_nil _).mono ?_; rintro e w' ⟨rfl, rfl⟩))
  all_goals
    have hb3 := (newB V (.cells #[.int .i64 0, .int .u32 0, .int .i64 0, .int .i64 0, .int .i64 0] 36)).drew
    have hZ : Blk (V.alloc (.cells #[.int .i64 0, .int .u32 0, .int .i64 0, .int .i64 0, .int .i64 0] 36)).drew V.heap.size 36 [.int .i64 0, .int .u32 0, .int .i64 0, .int .i64 0, .int .i64 0] := (Blk.new V 36 [.int .i64 0, .int .u32 0, .int .i64 0, .int .i64 0, .int .i64 0])
    obtain ⟨V2, hV2⟩ : ∃ V2, (V.alloc (.cells #[.int .i64 0, .int .u32 0, .int .i64 0, .int .i64 0, .int .i64 0] 36)).drew = V2 := ⟨_, rfl⟩
    obtain ⟨Q, hQ⟩ : ∃ Q, V.heap.size = Q := ⟨_, rfl⟩
    rw [hV2] at hb3 hZ ⊢
    have HB3 := Lib.hid (HB0.out.trans (hb3.mono HB0.out.size))
    have hY3 := HY.out.next hb3
    have HY3 := Lib.hid hY3
    rw [hQ] at hZ ⊢
    obtain ⟨z0, z1, z2, z3, z4⟩ := dt_boxes hZ
    obtain ⟨d0, d1, d2, d3, d4⟩ := dt_boxes hY3
    have f0 := hY3.f 0
    have f1 := hY3.f 1
    have f2 := hY3.f 2
    have f3 := hY3.f 3
    have f4 := hY3.f 4
    clear hV2 hQ hb3 hZ hY3 HALL
    go_wp2_with fail
    obtain ⟨r0, r1, r2, r3, r4⟩ := dt_boxes (Blk.fiveD HY3.out (.int .i64 0) (.int .u32 0) (.int .i64 0) (.int .i64 0) (.int .i64 0))
    exact bodyPost_ret (v := .tuple #[.agg #[.int .i64 0, .int .u32 0, .int .i64 0, .int .i64 0, .int .i64 0], .bool false]) (by simp [results, Try.results17, go_sem, r0, r1, r2, r3, r4]) rfl ⟨rfl, below_fiveD HB3.out (by rw [HPE.out]; omega) _ _ _ _ _⟩
end Go.Proofs.Ytjimnlpmmhcdjaa
