/- trie: TrieWithin's walk. -/
import Derived.Test.YtipecocalmmmbaaTW
import Derived.Test.YtipecocalmmmbaaTDb
namespace Go.Proofs.Ytipecocalmmmbaa
open Go.RowKit
set_option linter.unusedVariables false
set_option linter.unusedSimpArgs false

/-- What Set makes of the list. -/
def setT (L : List TE) (a n : Int) (v : Value) (g : Nat) : List TE := if okP a n then insT L ⟨a, n, v, g⟩ else L
theorem setT_le {L : List TE} (h : TL L) (a n : Int) (v : Value) (g : Nat) : (setT L a n v g).length ≤ L.length + 1 := by
  unfold setT
  split
  · rw [len_ins h]; split <;> omega
  · omega
theorem set_any_bool (W : World) (B t r : Nat) (N : Int → Nat → Option Nat) (L : List TE) (a n : Int) (x : Bool) (h : TrAt TRb NDb THb W B t r L.length N L) (hB : B ≤ W.heap.size) (a0 : 0 ≤ a) (a1 : a < 4294967296) (hl : L.length ≤ 1000000) :
    Calls Try.prog 24 #[.pointer (some ⟨t, 0, none⟩), .agg #[.int .u32 a, .int .i64 n], .bool x] W fun e w' => ∃ ee N' g, e = .returned (.int .i64 ee) ∧ SetR TRb NDb THb W w' B t r N L N' (setT L a n (.bool x) g) := by
  unfold setT
  rcases hk : okP a n with _ | _
  · refine (set_no_bool W t r a n x (h.tb.cell 0 (by simp)) hk).mono ?_
    rintro e w' ⟨he, hb⟩
    exact ⟨_, N, 0, he, h.below hb, .of_below hb, fun i hi => .inl hi⟩
  · obtain ⟨_, n0, n1⟩ := okP_parts hk
    obtain ⟨m, rfl⟩ := Int.eq_ofNat_of_zero_le n0
    refine (set_yes_bool W B t r N L a m x h hB a0 a1 hk hl).mono ?_
    rintro e w' ⟨N', g, he, hr⟩
    exact ⟨_, N', g, he, hr⟩
theorem prefixes_bool (w : World) (B t r : Nat) (s : Int) (N : Int → Nat → Option Nat) (L : List TE) (h : TrAt TRb NDb THb w B t r s N L) (hl : L.length ≤ 1000000) :
    Calls Try.prog 25 #[.pointer (some ⟨t, 0, none⟩)] w fun e w' => ∃ (ps : List (Int × Int)) (q : Option Addr) (c : Nat), ps = L.map tkey ∧ e = .returned (.slice q ps.length c) ∧ w'.ownsRow w.heap.size 32 2 (.slice q ps.length c) ps.length (pcells ps) ∧ Below w.heap.size w w' := by
  have HW := Lib.hid (within_bool w B t r s N L h 0 0 (by omega) (by omega) hl)
  rw [within_all h.tl] at HW
  clear h
  go_enter Try.func25, Try.ntmps25
  go_wp2_with fail
  refine HW.out.mono ?_
  rintro e w1 ⟨ps, q, c, h1, rfl, h3, h4⟩
  have HB := Lib.hid (show ps = L.map tkey ∧ _ ∧ _ from ⟨h1, h3, h4⟩)
  clear h1 h3 h4
  go_wp2_with fail
  go_ret
  exact ⟨ps, q, c, HB.out.1, rfl, HB.out.2⟩
/-- Where the law stands. -/
structure WS (w W : World) (t r P : Nat) (pa pn : Int) (N : Int → Nat → Option Nat) (L : List TE) : Prop where
  intro ::
  tr : TrAt TRb NDb THb W w.heap.size t r L.length N L
  pb : Blk W P 32 [.int .u32 pa, .int .i64 pn]
  bel : Below w.heap.size w W
theorem WS.below {w W W' : World} {t r P : Nat} {pa pn : Int} {N : Int → Nat → Option Nat} {L : List TE} (h : WS w W t r P pa pn N L) (hb : Below W.heap.size W W') : WS w W' t r P pa pn N L := ⟨h.tr.below hb, h.pb.next hb, h.bel.trans (hb.mono h.bel.size)⟩
theorem WS.turn {w W W' : World} {t r P : Nat} {pa pn : Int} {N N' : Int → Nat → Option Nat} {L L' : List TE} (h : WS w W t r P pa pn N L) (hr : SetR TRb NDb THb W W' w.heap.size t r N L N' L') : WS w W' t r P pa pn N' L' :=
  ⟨hr.tr, h.pb.of_same (hr.turn.block _ h.pb.lt (fun hk => by
    rcases hk with rfl | ⟨x, d, hk⟩
    · exact h.tr.ne.2.2.2.2 (h.pb.type h.tr.tb)
    · exact h.tr.ne.2.2.2.1 (h.pb.type (h.tr.node _ _ _ hk)))), h.bel.trans (hr.turn.below h.bel.size (fun k hk => h.tr.inB hk))⟩
theorem row_below {W W' : World} {base : Nat} {e : TypeId} {size : Nat} {v : Value} {k : Nat} {xs : List Value} (h : W.ownsRow base e size v k xs) (hb : Below W.heap.size W W') : W'.ownsRow base e size v k xs :=
  h.kept (row := none) ⟨hb.os, hb.tape, hb.output, hb.size, fun k hk _ => hb.block k hk⟩ (Decidable.em (v.ownBlock = none))
theorem pfx_cellsAt {W : World} {g : Nat} {a n : Int} (h : Blk W g 32 [.int .u32 a, .int .i64 n]) (j : Nat) (u : Value) (hj : [Value.int .u32 a, Value.int .i64 n][j]? = some u) : W.cell? ((⟨g, 0, none⟩ : Addr).add j) = some u := by
  match j, hj with
  | 0, hj => injection hj with hj; subst hj; exact h.cell 0 (by simp)
  | 1, hj => injection hj with hj; subst hj; exact h.cell 1 (by simp)
  | j + 2, hj => cases hj
theorem pfx_one_cell (a n : Int) : ∀ u ∈ [Value.int .u32 a, Value.int .i64 n], u.oneCell' = true := by
  intro u hu
  simp at hu
  rcases hu with rfl | rfl <;> rfl
/-- Those of the first ones that p holds. -/
def heldL (pa pn : Int) (ks : List (Int × Int)) (j : Nat) : List (Int × Int) := (ks.take j).filter (fun p => withinP pa pn p.1 p.2)
theorem heldL_step {pa pn : Int} {ks : List (Int × Int)} {j : Nat} {y : Int × Int} (h : ks[j]? = some y) : heldL pa pn ks (j + 1) = if withinP pa pn y.1 y.2 then heldL pa pn ks j ++ [y] else heldL pa pn ks j := by
  obtain ⟨hl, hy⟩ := List.getElem?_eq_some_iff.1 h
  unfold heldL
  rw [List.take_succ_eq_append_getElem hl, List.filter_append, hy]
  split <;> rename_i hc <;> simp [hc]
theorem heldL_le (pa pn : Int) (ks : List (Int × Int)) (j : Nat) : (heldL pa pn ks j).length ≤ ks.length := by
  unfold heldL
  exact Nat.le_trans (List.length_filter_le _ _) (by rw [List.length_take]; omega)
set_option maxRecDepth 100000 in
set_option maxHeartbeats 16000000 in
theorem within_walk (w : World) (x : Option Addr × List (Int × Int) × Nat) (hp : PAt w x.1 x.2.1) (hok : ∀ m ∈ x.2.1, 0 ≤ m.1 ∧ m.1 ≤ 4294967295) (pa pn : Int) (p0 : 0 ≤ pa) (p1 : pa ≤ 4294967295) :
    Calls Try.prog 7 #[.slice x.1 x.2.1.length x.2.2, .agg #[.int .u32 pa, .int .i64 pn]] w fun e w' => e = .returned (.bool true) ∧ Below w.heap.size w w' := by
  obtain ⟨q, ps, c⟩ := x
  dsimp only at hp hok ⊢
  have p1 : pa < 4294967296 := by omega
  obtain ⟨n, hn⟩ : ∃ n, ps.length = n := ⟨_, rfl⟩
  rw [hn]
  obtain ⟨P, hP⟩ : ∃ P, w.heap.size = P := ⟨_, rfl⟩
  obtain ⟨t, ht⟩ : ∃ t, P + 2 = t := ⟨_, rfl⟩
  obtain ⟨V, hV⟩ : ∃ V, w.alloc (.cells #[.int .u32 pa, .int .i64 pn] 32) = V := ⟨_, rfl⟩
  obtain ⟨V2, hV2⟩ : ∃ V2, ((V.alloc (.cells #[.pointer none, .pointer none, .pointer none] NDb)).alloc (.cells #[.pointer (some ⟨V.heap.size, 0, none⟩), .int .i64 0] TRb)) = V2 := ⟨_, rfl⟩
  have hVs : V.heap.size = P + 1 := by rw [← hV, sz_alloc, hP]
  have HW0 := Lib.hid (show WS w V2 t (P + 1) P pa pn (N0 (P + 1)) [] from by
    have hb0 : Below w.heap.size w V := by rw [← hV]; exact newB _ _
    have h0 := TrAt.new (TR := TRb) (ND := NDb) (TH := THb) ne_bool V w.heap.size hb0.size
    rw [hV2, hVs, ht] at h0
    have hb : Below V.heap.size V V2 := by rw [← hV2]; exact two_below _ _ _
    refine ⟨h0, ?_, hb0.trans (hb.mono hb0.size)⟩
    have := (hP ▸ hV ▸ Blk.new w 32 [.int .u32 pa, .int .i64 pn] : Blk V P 32 [.int .u32 pa, .int .i64 pn])
    exact this.next hb)
  have HNEW := Lib.hid (new_bool V)
  rw [hVs, show P + 1 + 1 = t from ht] at HNEW
  rw [hVs] at hV2
  have HV := Lib.hid hV
  have HV2 := Lib.hid hV2
  have HP := Lib.hid hP
  have HPS := Lib.hid hp
  have HOK := Lib.hid hok
  have HN := Lib.hid hn
  clear hV hV2 ht hVs hP hp hok hn
  go_enter Try.func7, Try.ntmps7
  go_wp2_with fail
  rw [HV.out, HP.out]
  refine HNEW.out.mono ?_
  rintro e w1 ⟨rfl, rfl⟩
  rw [HV2.out]
  go_wp2_with fail
  refine (lives_any V2).mono ?_
  rintro e w2 ⟨rfl, hb⟩
  have HW1 := Lib.hid (HW0.out.below hb)
  clear hb
  by_cases h100 : 100 < n
  · have hg : (100 : Int) < (n : Int) := by omega
    have hg2 : decide ((100 : Int) < (n : Int)) = true := decide_eq_true hg
    go_wp2_with fail
    refine (lives_any w2).mono ?_
    rintro e w3 ⟨rfl, hb⟩
    have HW2 := Lib.hid (HW1.out.below hb)
    clear hb
    go_wp2_with fail
    go_ret
    exact ⟨rfl, HW2.out.bel⟩
  · have hg : ¬ (100 : Int) < (n : Int) := by omega
    have hg2 : decide ((100 : Int) < (n : Int)) = false := decide_eq_false hg
    have hn100 : (n : Int) ≤ 100 := by omega
    clear h100
    go_wp2_with fail
    go_loopw [6] (fun v wr => ∃ (k : Nat) (N : Int → Nat → Option Nat) (L : List TE), v = .int .i64 k ∧ k ≤ n ∧ L.length ≤ k ∧ WS w wr t (P + 1) P pa pn N L) (fun v _ => n - (intOf v).toNat)
    case atStart => exact ⟨0, N0 (P + 1), [], rfl, Nat.zero_le _, Nat.le_refl _, HW1.out⟩
    case round =>
      obtain ⟨k, N, L, rfl, hk, hL, hW⟩ := hrel
      have HW := Lib.hid hW
      clear hW
      by_cases hlt : k < n
      · have hlt' : (k : Int) < (n : Int) := by omega
        have k0 : (0 : Int) ≤ (k : Int) := by omega
        obtain ⟨y, hy⟩ : ∃ y, ps[k]? = some y := ⟨_, List.getElem?_eq_getElem (by rw [HN.out]; exact hlt)⟩
        rcases HPS.out with h | ⟨b, off, rfl, hc⟩
        · have := HN.out; rw [h] at this; simp at this; omega
        obtain ⟨c0, c1⟩ := hc k y hy
        have hyo := HOK.out y (List.mem_of_getElem? hy)
        obtain ⟨ya, yn⟩ := y
        dsimp only at c0 c1 hyo
        have c0 := kept HW.out.bel c0
        have c1 := kept HW.out.bel c1
        have HS := Lib.hid (set_any_bool wr w.heap.size t (P + 1) N L ya yn true HW.out.tr HW.out.bel.size hyo.1 (by omega) (by omega))
        clear hc hy hyo
        go_wp2_with fail
        refine HS.out.mono ?_
        rintro e w3 ⟨ee, N', g, rfl, hr⟩
        have HW3 := Lib.hid (HW.out.turn hr)
        have HLE := Lib.hid (setT_le HW.out.tr.tl ya yn (.bool true) g)
        clear hr c0 c1
        go_wp2_with fail
        go_roundw
        case rel => exact ⟨k + 1, N', _, by go_num, by omega, by have := HLE.out; omega, HW3.out⟩
        case measure => simp [intOf]; omega
      · obtain rfl : k = n := by omega
        have HLN := Lib.hid (show L.length ≤ 1000000 from by omega)
        go_wp2_with fail
        refine (prefixes_bool wr w.heap.size t (P + 1) _ N L HW.out.tr HLN.out).mono ?_
        rintro e w3 ⟨ks, kq, kc, hks, rfl, hrow, hb⟩
        have HW3 := Lib.hid (HW.out.below hb)
        have HKA := Lib.hid (pat_row hrow rfl)
        have HKS := Lib.hid hks
        have hmle : ks.length ≤ 100 := by rw [hks, List.length_map]; omega
        have HKO := Lib.hid (show ∀ y ∈ ks, 0 ≤ y.1 ∧ y.1 < 4294967296 from fun y hy => by
          rw [hks] at hy
          obtain ⟨e, he, rfl⟩ := List.mem_map.1 hy
          exact ⟨(HW.out.tr.tl.ok e he).a0, (HW.out.tr.tl.ok e he).a1⟩)
        obtain ⟨m, hm⟩ : ∃ m, ks.length = m := ⟨_, rfl⟩
        rw [hm] at hmle ⊢
        have hm100 : (m : Int) ≤ 100 := by omega
        have HM := Lib.hid hm
        clear hb hrow hks hm
        go_wp2_with fail
        go_loopw [8, 9] (fun v8 v9 W => ∃ (j z : Nat) (q' : Option Addr) (c' : Nat), v8 = .slice q' z c' ∧ v9 = .int .i64 j ∧ j ≤ m ∧ z = (heldL pa pn ks j).length ∧ W.ownsRow w3.heap.size 32 2 (.slice q' z c') z (pcells (heldL pa pn ks j)) ∧ Below w3.heap.size w3 W) (fun _ v _ => m - (intOf v).toNat)
        case atStart => exact ⟨0, 0, none, 0, rfl, rfl, Nat.zero_le _, rfl, World.ownsRow_nil _ _ _ _, Below.refl _ _⟩
        case round =>
          obtain ⟨j, z, q', c', rfl, rfl, hj, hz, hrow, hB⟩ := hrel
          have hzm : z ≤ 100 := by have := heldL_le pa pn ks j; have := HM.out; omega
          have HWr := Lib.hid (HW3.out.below hB)
          have HB := Lib.hid hB
          have HROW := Lib.hid hrow
          have HZ := Lib.hid hz
          have p0' : wr.cell? ⟨P, 0, none⟩ = some (.int .u32 pa) := HWr.out.pb.cell 0 (by simp)
          have p1' : wr.cell? ⟨P, 1, none⟩ = some (.int .i64 pn) := HWr.out.pb.cell 1 (by simp)
          clear hrow hB hz
          by_cases hltj : j < m
          · have hltj' : (j : Int) < (m : Int) := by omega
            have j0 : (0 : Int) ≤ (j : Int) := by omega
            obtain ⟨y, hy⟩ : ∃ y, ks[j]? = some y := ⟨_, List.getElem?_eq_getElem (by rw [HM.out]; exact hltj)⟩
            rcases HKA.out.below HB.out with h | ⟨b, off, rfl, hc⟩
            · have := HM.out; rw [h] at this; simp at this; omega
            obtain ⟨c0, c1⟩ := hc j y hy
            have hyo := HKO.out y (List.mem_of_getElem? hy)
            have HST := Lib.hid (heldL_step (pa := pa) (pn := pn) hy)
            obtain ⟨ya, yn⟩ := y
            dsimp only at c0 c1 hyo
            have HST : Hid (heldL pa pn ks (j + 1) = if withinP pa pn ya yn then heldL pa pn ks j ++ [(ya, yn)] else heldL pa pn ks j) := HST
            have HC := Lib.hid (show ∀ U : World, Below wr.heap.size wr U → U.cell? ⟨b, off + j * 2, none⟩ = some (.int .u32 ya) ∧ U.cell? ⟨b, off + j * 2 + 1, none⟩ = some (.int .i64 yn) from fun U hU => ⟨kept hU c0, kept hU c1⟩)
            have P0 : wr.drew.cell? ⟨P, 0, none⟩ = some (.int .u32 pa) := p0'
            have P1 : wr.drew.cell? ⟨P, 1, none⟩ = some (.int .i64 pn) := p1'
            have C0 : wr.drew.cell? ⟨b, off + j * 2, none⟩ = some (.int .u32 ya) := c0
            have C1 : wr.drew.cell? ⟨b, off + j * 2 + 1, none⟩ = some (.int .i64 yn) := c1
            have HRW := Lib.hid (rwithin_any pa pn ya yn wr.drew p0 p1 hyo.1 hyo.2)
            obtain ⟨bb, hbb⟩ : ∃ bb, withinP pa pn ya yn = bb := ⟨_, rfl⟩
            rw [hbb] at HRW HST
            have HD := Lib.hid (show Below wr.heap.size wr wr.drew from (Below.refl _ _).drew)
            clear hc hy hyo hbb p0' p1' c0 c1
            go_wp2_with fail
            go_still_tail 5, (by kernel_rfl)
            change wpList _ _ _ _ _ wr.drew
            obtain ⟨U, hU⟩ : ∃ U, wr.drew = U := ⟨_, rfl⟩
            rw [hU] at HRW HD P0 P1 C0 C1 ⊢
            clear hU
            go_wp2_with fail
            refine HRW.out.mono ?_
            rintro e w4 ⟨rfl, hb4⟩
            have hB4 : Below wr.heap.size wr w4 := HD.out.trans (hb4.mono HD.out.size)
            have HB4 := Lib.hid hB4
            obtain ⟨c0, c1⟩ := HC.out w4 hB4
            clear hb4 P0 P1 C0 C1 hB4
            rcases bb with _ | _
            · go_wp2_with fail
              go_roundw
              case rel => exact ⟨j + 1, z, q', c', rfl, by go_num, by omega, by rw [HST.out]; exact HZ.out, by rw [HST.out]; exact row_below HROW.out HB4.out, HB.out.trans (HB4.out.mono HB.out.size)⟩
              case measure => simp [intOf]; omega
            · obtain ⟨i0, hi, hz0, hz1, hz2⟩ := info_parts infoPfx
              have hr4 := row_below HROW.out HB4.out
              have hs4 : w3.heap.size ≤ w4.heap.size := Nat.le_trans HB.out.size HB4.out.size
              have hX4 := Blk.new w4 32 [.int .u32 ya, .int .i64 yn]
              go_wp2_with (refine wpList_append_own _ rfl _ _ 41 rfl w3.heap.size 32 i0 (.agg #[.int .u32 0, .int .i64 0]) 2 16 Try.underlying41 hi hz0 hz1 hz2 rfl (by decide) _ z _ rfl (hr4.alloc _) ⟨w4.heap.size, 0, none⟩ 1 1 [.int .u32 ya, .int .i64 yn] rfl rfl (pfx_cellsAt hX4) (pfx_one_cell ya yn) (by unfold maxLen; omega) (by omega) (by simp; omega) ?_; intro v5 w5 h5 g5 _)
              obtain ⟨q5, c5, rfl⟩ := row_form h5
              have HB5 := Lib.hid (show Below w3.heap.size w3 w5 from by
                have hb := (HB.out.trans (HB4.out.mono HB.out.size)).alloc (by omega) (.cells #[.int .u32 ya, .int .i64 yn] 32)
                refine hb.grown g5 hb.size (fun g e => ?_)
                have e : (Value.slice q' z c').ownBlock = some g := e
                rcases hr4.2 with ⟨h1, _⟩ | ⟨g', cap, cur, h1, hb', _⟩
                · rw [h1] at e; simp [Value.ownBlock] at e
                · rw [h1] at e
                  have : g' = g := by simpa [Value.ownBlock] using e
                  omega)
              have H5 := Lib.hid h5
              clear h5 g5 hr4 hX4 hi hz0 hz1 hz2 hs4
              go_wp2_with fail
              go_roundw
              case rel => exact ⟨j + 1, z + 1, q5, c5, rfl, by go_num, by omega, by rw [HST.out]; simp [← HZ.out], by rw [HST.out]; simp only [if_true, pcells_snoc]; exact H5.out, HB5.out⟩
              case measure => simp [intOf]; omega
          · obtain rfl : j = m := by omega
            have HWI := Lib.hid (within_bool wr w.heap.size t (P + 1) _ N L HWr.out.tr pa pn p0 p1 HLN.out)
            go_wp2_with fail
            refine HWI.out.mono ?_
            rintro e w6 ⟨qs, qq, qc, hqs, rfl, hqr, hb6⟩
            have hall : heldL pa pn ks j = qs := by
              unfold heldL
              rw [List.take_of_length_le (by rw [HM.out]; exact Nat.le_refl _), HKS.out, List.filter_map, hqs]; rfl
            have HSM := Lib.hid (same_any w6 qq q' qs qs qs.length z qc c' (pat_row hqr rfl) (by rw [← hall]; exact pat_row (row_below HROW.out hb6) HZ.out.symm) rfl (by rw [← hall]; exact HZ.out.symm) (by rw [← hall, ← HZ.out]; omega) (by omega))
            rw [show sameB qs qs = true by unfold sameB; simp] at HSM
            have HB6 := Lib.hid (HWr.out.bel.trans (hb6.mono HWr.out.bel.size))
            clear hall hqr hqs hb6
            go_wp2_with fail
            refine HSM.out.mono ?_
            rintro e w7 ⟨rfl, hb7⟩
            have HB7 := Lib.hid (HB6.out.trans (hb7.mono HB6.out.size))
            clear hb7
            go_wp2_with fail
            go_ret
            exact ⟨rfl, HB7.out⟩
end Go.Proofs.Ytipecocalmmmbaa
