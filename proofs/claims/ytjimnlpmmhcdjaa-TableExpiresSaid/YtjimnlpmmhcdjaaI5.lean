/- table: those, by either function; All, Expire, Clear, Delete. -/
import Derived.Test.YtjimnlpmmhcdjaaI4
import Derived.Test.YtjimnlpmmhcdjaaI2
namespace Go.Proofs.Ytjimnlpmmhcdjaa
open Go.RowKit Go.Maps Go.Sort
set_option linter.unusedVariables false
set_option linter.unusedSimpArgs false
set_option maxRecDepth 100000

theorem LOwn.lo {et : TypeId} {α : Type} {c : α → List Value} {ok : α → Prop} {sz : Nat} {w : World} {B n cap : Nat} {q : Option Addr} {l : List α} (h : LOwn et c ok sz w B q n cap l) : ∀ b off, q = some ⟨b, off, none⟩ → B ≤ b := by
  intro b off e
  rcases h.row.2 with ⟨hv, _⟩ | ⟨g, cap', cur, hv, hB, _⟩
  · rw [e] at hv; cases hv
  · rw [e] at hv
    simp only [Value.slice.injEq, Option.some.injEq, Addr.mk.injEq, and_true] at hv
    obtain ⟨⟨rfl, _⟩, _⟩ := hv
    exact hB
theorem row_neD {w : World} {B r : Nat} {e : TypeId} {size n : Nat} {v : Value} {xs : List Value} (h : w.ownsRow B e size v n xs) (hr : r < B) : v.ownBlock = none ∨ v.ownBlock ≠ some r := by
  rcases h.2 with ⟨rfl, _⟩ | ⟨g, cap, cur, rfl, hg, _⟩
  · exact .inl rfl
  · refine .inr fun e' => ?_
    have : g = r := by simpa [Value.ownBlock] using e'
    omega
/-- All are wanted; those whose time is over. -/
def wtAll (x : Dt) : Bool := true
def wtOver (now : Int) (x : Dt) : Bool := decide (x.u < now)
theorem nodup_leD : ∀ {ss ls : List Dt}, ss.Nodup → (∀ x ∈ ss, x ∈ ls) → ss.length ≤ ls.length
  | [], _, _, _ => Nat.zero_le _
  | x :: s, ls, h, hm => by
    obtain ⟨a, b, rfl⟩ := List.append_of_mem (hm x (by simp))
    obtain ⟨h1, h2⟩ := List.nodup_cons.1 h
    have := nodup_leD (ls := a ++ b) h2 fun y hy => by
      have hne : y ≠ x := fun e => h1 (e ▸ hy)
      have := hm y (by simp [hy])
      simp [hne] at this
      simpa using this
    simp at this ⊢
    omega
theorem dtV_inj {x y : Dt} (h : dtV x = dtV y) : x = y := by
  obtain ⟨a, ⟨b, c⟩, d, e⟩ := x
  obtain ⟨a', ⟨b', c'⟩, d', e'⟩ := y
  unfold dtV at h
  simp at h
  obtain ⟨rfl, rfl, rfl, rfl, rfl⟩ := h
  rfl
/-- Those that have come, and are wanted, while others are left. -/
structure CameD (L : List Dt) (q : Dt → Bool) (left : Lit → Bool) (ss : List Dt) : Prop where
  intro ::
  nd : ss.Nodup
  mem : ∀ x, x ∈ ss ↔ x ∈ L ∧ q x = true ∧ left (litP x.p) = false
theorem CameD.start {L : List Dt} {q : Dt → Bool} {left : Lit → Bool} (h : ∀ x ∈ L, left (litP x.p) = true) : CameD L q left [] :=
  ⟨List.nodup_nil, fun x => ⟨fun hx => by simp at hx, fun ⟨h1, _, h3⟩ => by rw [h x h1] at h3; cases h3⟩⟩
theorem CameD.step {L : List Dt} {q : Dt → Bool} {left : Lit → Bool} {ss : List Dt} (h : CameD L q left ss) (hs : SrtD L) (hok : ∀ x ∈ L, InDt x) {c : Dt} (hc : c ∈ L) (hl : left (litP c.p) = true) :
    CameD L q (fun z => left z && !z.sameKey (litP c.p)) (if q c then ss ++ [c] else ss) := by
  have hnew : c ∉ ss := fun hm => by have := ((h.mem c).1 hm).2.2; rw [hl] at this; cases this
  have hkey : ∀ x ∈ L, ((left (litP x.p) && !(litP x.p).sameKey (litP c.p)) = false ↔ left (litP x.p) = false ∨ x = c) := fun x hx => by
    by_cases e : x = c
    · subst e; simp [WideAt.sameKey_self (litP_key x.p)]
    · have hne : litP x.p ≠ litP c.p := fun e2 => e (hs.inj hx hc (litP_inj _ _ (hok x hx) (hok c hc) e2))
      rw [sameKey_ne hne]
      simp [e]
  rcases hq : q c with _ | _
  · rw [if_neg (by simp)]
    refine ⟨h.nd, fun x => ?_⟩
    rw [h.mem]
    constructor
    · rintro ⟨h1, h2, h3⟩; exact ⟨h1, h2, (hkey x h1).2 (.inl h3)⟩
    · rintro ⟨h1, h2, h3⟩
      rcases (hkey x h1).1 h3 with h3 | rfl
      · exact ⟨h1, h2, h3⟩
      · rw [hq] at h2; cases h2
  · rw [if_pos rfl]
    refine ⟨List.nodup_append.2 ⟨h.nd, by simp, fun a ha b hb => by simp at hb; subst hb; exact fun e => hnew (e ▸ ha)⟩, fun x => ?_⟩
    rw [List.mem_append, List.mem_singleton, h.mem]
    constructor
    · rintro (⟨h1, h2, h3⟩ | rfl)
      · exact ⟨h1, h2, (hkey x h1).2 (.inl h3)⟩
      · exact ⟨hc, hq, (hkey x hc).2 (.inr rfl)⟩
    · rintro ⟨h1, h2, h3⟩
      rcases (hkey x h1).1 h3 with h3 | rfl
      · exact .inl ⟨h1, h2, h3⟩
      · exact .inr rfl
theorem dt_lit (w : World) (x : Dt) (hx : InDt x) : DtsAt (w.alloc (.cells #[.int .i64 x.r, .int .u32 x.p.a, .int .i64 x.p.n, .int .i64 x.d, .int .i64 x.u] 36)) (some ⟨w.heap.size, 0, none⟩) [x] :=
  (LOwn.lit rowDt w 0 [x] (fun y hy => by simp at hy; rw [hy]; exact hx) (Nat.zero_le _) (by unfold maxLen; simp)).at rowDt
theorem allone_any (x : Dt) (w : World) :
    Calls Try.prog 29 #[dtV x] w fun e w' => e = .returned (.bool true) ∧ Below w.heap.size w w' := by
  obtain ⟨x0, ⟨x1, x2⟩, x3, x4⟩ := x
  have HB := Lib.hid (newB w (.cells #[.int .i64 x0, .int .u32 x1, .int .i64 x2, .int .i64 x3, .int .i64 x4] 36))
  go_enter Try.func29, Try.ntmps29
  go_wp2
  go_ret
  exact ⟨rfl, HB.out⟩
theorem exone_any (x : Dt) (w : World) (z : Nat) (now : Int) (hz : w.cell? ⟨z, 0, none⟩ = some (.int .i64 now)) :
    Calls Try.prog 28 #[dtV x, .pointer (some ⟨z, 0, none⟩)] w fun e w' => e = .returned (.bool (decide (x.u < now))) ∧ Below w.heap.size w w' := by
  obtain ⟨x0, ⟨x1, x2⟩, x3, x4⟩ := x
  have hb := newB w (.cells #[.int .i64 x0, .int .u32 x1, .int .i64 x2, .int .i64 x3, .int .i64 x4] 36)
  obtain ⟨c0, c1, c2, c3, c4⟩ := dt_boxes (Blk.new w 36 [.int .i64 x0, .int .u32 x1, .int .i64 x2, .int .i64 x3, .int .i64 x4])
  have hz1 := kept hb hz
  have HB := Lib.hid hb
  clear hb hz
  go_enter Try.func28, Try.ntmps28
  go_wp2_with fail
  go_ret
  exact ⟨rfl, HB.out⟩
theorem ranges_same {w w' : World} {P : Program} {k : TypeId} {R : Value → Option (DataW Unit × List MemPlace)} {b r n : Nat} {D : DataW Unit} {left : Lit → Bool} {cnt : Nat} (h : w.ranges P k R b r n D left cnt) (hb' : w'.heap[b]? = w.heap[b]?) (hr' : w'.heap[r]? = w.heap[r]?) : w'.ranges P k R b r n D left cnt := by
  obtain ⟨es, clock, since, seen, c0, hb, F, hs, hD, hr, rest⟩ := h
  exact ⟨es, clock, since, seen, c0, hb'.trans hb, F, hs, hD, hr'.trans hr, rest⟩

set_option maxHeartbeats 8000000 in
theorem thoseAll_any (w : World) (g b n : Nat) (L : List Dt) (H : TbAt w g b n L) (hn : n < 1000000) :
    Calls Try.prog 27 #[.pointer (some ⟨g, 0, none⟩), .func (.func 29) #[] #[]] w fun e w' => ∃ q c, e = .returned (.slice q (L.filter (wtAll)).length c) ∧ DtsAt w' q (L.filter (wtAll)) ∧ (L.filter (wtAll)).length ≤ c ∧ c ≤ maxLen ∧ Below w.heap.size w w' ∧ ∀ r off, q = some ⟨r, off, none⟩ → w.heap.size < r := by
  have HH := Lib.hid H
  have hc0 := H.at0
  have hLn : L.length ≤ n := by obtain ⟨D, h1, h2, _⟩ := H.map; rw [← h2]; exact h1.size_le
  obtain ⟨D, hown, hsz, hD⟩ := H.map
  have HOWN := Lib.hid hown
  have HD := Lib.hid hD
  have HLN := Lib.hid hLn
  have HN := Lib.hid hn
  have hgl := H.lt
  obtain ⟨P, hP⟩ : ∃ P, w.heap.size = P := ⟨_, rfl⟩
  have HPE := Lib.hid hP
  clear H hD hsz hLn hn hP
  go_enter Try.func27, Try.ntmps27
  go_wp2_with (first
    | (go_at_call 23; refine (tball_any _ g b hc0).mono ?_; rintro e w' ⟨rfl, rfl⟩)
    | (at_range; refine wpList_range_own _ rfl _ 53 rfl 32 36 pk_keyed Try.underlying53 _ b n D rfl HOWN.out ?_; intro w0 hrg0 hg0 hs0))
  go_frame
  go_loopw [5] (fun v wr => ∃ (left : Lit → Bool) (cnt : Nat) (q : Option Addr) (k cap : Nat) (ss : List Dt), wr.ranges Try.prog 32 dtElem b w.heap.size n D left cnt ∧ (∀ kl, left kl = true → has D kl = true) ∧ Below w.heap.size w wr ∧ w.heap.size < wr.heap.size ∧ v = .slice q k cap ∧ DtsOwn wr (w.heap.size + 1) q k cap ss ∧ CameD L (wtAll) left ss) (fun _ wr => wr.rangeLeft b w.heap.size)
  case atStart =>
    refine ⟨_, _, none, 0, 0, [], hrg0, fun _ h => h, (Below.refl _ w).grown hg0 (Nat.le_refl _) (fun k e => by cases e), by omega, rfl, LOwn.nil _ _ _ _ _ _, CameD.start fun x hx => ?_⟩
    rw [(HD.out x.p (HH.out.ok x hx)).1, lookD_mem HH.out.srt hx]; rfl
  case round =>
    obtain ⟨left, cnt, q, k, cap, ss, hrg, hsub, hbw, hlt0, rfl, hO, hcm⟩ := hrel
    have HO := Lib.hid hO
    have HCM := Lib.hid hcm
    have HBW := Lib.hid hbw
    have HSUB := Lib.hid hsub
    have HLT0 := Lib.hid hlt0
    have HKL := Lib.hid (show k ≤ L.length from by rw [← hO.len]; exact nodup_leD hcm.nd fun x hx => ((hcm.mem x).1 hx).1)
    clear hO hcm hsub hlt0
    go_wp2_with (at_next; refine wpList_next_ranges _ rfl _ rfl 32 pk_keyed _ pfV dtV (fun key kl hkey => by obtain ⟨x, rfl, _⟩ := keyP_inv hkey; exact ⟨x, rfl⟩) (fun v y hv => by obtain ⟨c, _, rfl, _⟩ := elDtC.inv _ _ hv; exact ⟨c, rfl⟩) b w.heap.size n D left cnt rfl hrg ?_ ?_)
    · intro _ hl0
      have hm : ∀ x, x ∈ ss ↔ x ∈ L ∧ (wtAll) x = true := fun x => by
        rw [HCM.out.mem]
        exact ⟨fun ⟨h1, h2, _⟩ => ⟨h1, h2⟩, fun ⟨h1, h2⟩ => ⟨h1, h2, hl0 _⟩⟩
      have HM := Lib.hid hm
      have hlen : ∀ ts, ss.Perm ts → ts.length = k := fun ts hp => by rw [← hp.length_eq]; exact HO.out.len
      have HLEN := Lib.hid hlen
      have HCAP := Lib.hid HO.out.cap_
      clear hm hlen hrg
      rcases Nat.eq_zero_or_pos k with h0 | h0
      · subst h0
        have hss : ss = [] := List.eq_nil_of_length_eq_zero HO.out.len
        have HF := Lib.hid (show L.filter (wtAll) = [] from by
          have := srt_of HH.out.srt HCM.out.nd HM.out (List.Perm.refl ss) (by rw [hss]; exact List.Pairwise.nil)
          rw [← this]; exact hss)
        have HQ := Lib.hid HO.out.lo
        go_wp2_with (go_at_call 33; refine (sort_noneD _ _ _ _).mono ?_; rintro e w' ⟨rfl, rfl⟩)
        go_ret
        rw [HF.out]
        exact ⟨q, cap, rfl, LAt.nil _ _ _ _ _ _, HCAP.out.1, HCAP.out.2, HBW.out, fun r off e => HQ.out r off e⟩
      · obtain ⟨r, hr, hBr⟩ : ∃ r, q = some ⟨r, 0, none⟩ ∧ w.heap.size + 1 ≤ r := by
          rcases HO.out.row.2 with ⟨hv, hn0⟩ | ⟨g', cap', cur, hv, hB, _⟩
          · omega
          · simp only [Value.slice.injEq] at hv
            exact ⟨g', hv.1, hB⟩
        subst hr
        have HBR := Lib.hid hBr
        have hsort := sort_someD HO.out.row HO.out.len (by have := HLT0.out; omega) HO.out.ok (by have := HKL.out; have := HLN.out; have := HN.out; omega)
        have HS := Lib.hid hsort
        clear hsort hBr h0
        go_wp2_with (go_at_call 33; refine HS.out.mono ?_; rintro e w' ⟨rfl, ts, hp, hsr, hat, hb⟩)
        go_ret
        have e := srt_of HH.out.srt HCM.out.nd HM.out hp hsr
        have hl := HLEN.out ts hp
        rw [e] at hl hat
        rw [hl]
        refine ⟨_, cap, rfl, hat, HCAP.out.1, HCAP.out.2, HBW.out.trans (hb.mono (by omega)), fun r' off e => ?_⟩
        simp only [Option.some.injEq, Addr.mk.injEq, and_true] at e
        have := HBR.out
        omega
    · intro x c kl y1 y2 w1 cnt1 hkey hlk hv1 hat hrg1 hlt hg1 hs1 hen
      obtain ⟨x', hxx, hok, rfl⟩ := keyP_inv hkey
      obtain ⟨c', _, hcc, hy⟩ := elDtC.inv _ _ hv1
      obtain rfl := dtV_inj hcc
      cases hy
      obtain rfl : x = x' := pfV_inj hxx
      have hat0 : D.atKey (litP x) (dtD Dt.zero) = dtD c := hat _
      have hhas := HSUB.out _ hlk
      obtain ⟨hd1, hd2⟩ := HD.out x hok
      have hlook : lookD L x = some c := by
        rw [hhas] at hd1
        rw [hat0] at hd2
        rcases hl : lookD L x with _ | y
        · rw [hl] at hd1; cases hd1
        · rw [hl] at hd2
          rw [elDtC.inj _ _ hd2]; rfl
      obtain ⟨hcL, hcp⟩ := lookD_in hlook
      subst hcp
      have hbw1 := HBW.out.grown hg1 HBW.out.size (fun k e => by cases e; exact Nat.le_refl _)
      have hdrop : w1.rangeLeft b w.heap.size < wr.rangeLeft b w.heap.size := by rw [hrg1.left_eq, hrg.left_eq]; exact hlt
      have HSTEP := Lib.hid (HCM.out.step HH.out.srt HH.out.ok hcL hlk)
      have HSUB1 := Lib.hid (show ∀ kl, (left kl && !kl.sameKey (litP c.p)) = true → has D kl = true from fun kl hl => HSUB.out kl (by simp at hl; exact hl.1))
      have HIN := Lib.hid (HH.out.ok c hcL)
      have HO1 := Lib.hid (show DtsOwn w1 (w.heap.size + 1) q k cap ss from ⟨HO.out.len, HO.out.ok, HO.out.row.kept hg1 (row_neD HO.out.row (Nat.lt_succ_self _))⟩)
      obtain ⟨c0, ⟨c1, c2⟩, c3, c4⟩ := c
      dsimp only at HSTEP HSUB1
      unfold pfV dtV at hen
      dsimp only at hen
      have hA := newB w1 (.cells #[.int .i64 c0, .int .u32 c1, .int .i64 c2, .int .i64 c3, .int .i64 c4] 36)
      have hX := Blk.new w1 36 [.int .i64 c0, .int .u32 c1, .int .i64 c2, .int .i64 c3, .int .i64 c4]
      have hrg2 := hrg1.alloc (.cells #[.int .i64 c0, .int .u32 c1, .int .i64 c2, .int .i64 c3, .int .i64 c4] 36)
      obtain ⟨U, hU⟩ : ∃ U, w1.alloc (.cells #[.int .i64 c0, .int .u32 c1, .int .i64 c2, .int .i64 c3, .int .i64 c4] 36) = U := ⟨_, rfl⟩
      obtain ⟨Q, hQ⟩ : ∃ Q, w1.heap.size = Q := ⟨_, rfl⟩
      rw [hU] at hA hX hrg2
      rw [hQ] at hX
      have HU := Lib.hid hU
      have HQE := Lib.hid hQ
      have HRG2 := Lib.hid hrg2
      have HA := Lib.hid (hbw1.trans (hA.mono hbw1.size))
      have HOU := Lib.hid (HO1.out.below hA)
      have HSZU := Lib.hid (show w.heap.size + 1 ≤ U.heap.size from by have := hA.size; have := HLT0.out; have := hs1; omega)
      have HX := Lib.hid hX
      have HDROP := Lib.hid (show U.rangeLeft b w.heap.size < wr.rangeLeft b w.heap.size from by rw [hrg2.left_eq, hrg.left_eq]; exact hlt)
      clear hA hX hrg2 hU hQ hbw1 hdrop hd1 hd2 hlook hat0 hhas hat hcL hrg1 hrg hkey hlk hv1 hg1 hlt hcc hxx hs1
      go_wp2_with fail
      rw [HU.out, HQE.out]
      obtain ⟨z0, z1, z2, z3, z4⟩ := dt_boxes HX.out
      go_wp2_with fail
      go_at_call 29
      refine (allone_any ⟨c0, ⟨c1, c2⟩, c3, c4⟩ _).mono ?_
      rintro e U3 ⟨rfl, hb3⟩
      have HRG3 := Lib.hid (HRG2.out.kept (row := none) (gb_belowL hb3) (by simp) (by simp))
      have HA3 := Lib.hid (HA.out.trans (hb3.mono HA.out.size))
      have HO3 := Lib.hid (HOU.out.below hb3)
      have HS3 := Lib.hid (Nat.le_trans HSZU.out hb3.size)
      have HD3 := Lib.hid (show U3.rangeLeft b w.heap.size < wr.rangeLeft b w.heap.size from by rw [HRG3.out.left_eq, ← HRG2.out.left_eq]; exact HDROP.out)
      obtain ⟨z0, z1, z2, z3, z4⟩ := dt_boxes (HX.out.next hb3)
      clear hb3
      have hwt : (wtAll) ⟨c0, ⟨c1, c2⟩, c3, c4⟩ = true ∨ (wtAll) ⟨c0, ⟨c1, c2⟩, c3, c4⟩ = false := by cases (wtAll) ⟨c0, ⟨c1, c2⟩, c3, c4⟩ <;> simp
      rcases hwt with hwt | hwt
      · have hst := HSTEP.out
        rw [if_pos hwt] at hst
        skip
        have HST := Lib.hid hst
        clear hst
        have LIT := Lib.hid (dt_lit U3 ⟨c0, ⟨c1, c2⟩, c3, c4⟩ HIN.out)
        have hb4 := newB U3 (.cells #[.int .i64 c0, .int .u32 c1, .int .i64 c2, .int .i64 c3, .int .i64 c4] 36)
        have OW := Lib.hid (HO3.out.below hb4)
        have HSZ := Lib.hid (Nat.le_trans HS3.out hb4.size)
        have HK1 := Lib.hid (show k + 1 ≤ 34359738368 from by have := HKL.out; have := HLN.out; have := HN.out; omega)
        have HRG4 := Lib.hid (HRG3.out.alloc (.cells #[.int .i64 c0, .int .u32 c1, .int .i64 c2, .int .i64 c3, .int .i64 c4] 36))
        have HA4 := Lib.hid (HA3.out.trans (hb4.mono HA3.out.size))
        clear hb4
        go_wp2_with (refine wpList_appL (o := ⟨some 21, _, _, _, _, _⟩) rowDt (by kernel_rfl) (.tmp 18) (.tmp 20) rfl (w.heap.size + 1) q k cap ss OW.out rfl (some ⟨U3.heap.size, 0, none⟩) 1 1 [⟨c0, ⟨c1, c2⟩, c3, c4⟩] LIT.out rfl rfl (k + 1) rfl HK1.out HSZ.out ?_; intro q3 cap3 w3 hO3 hB3)
        have HRG5 := Lib.hid (ranges_same HRG4.out (hB3.out.block b (by omega)) (hB3.out.block w.heap.size (by omega)))
        have hdec : w3.rangeLeft b w.heap.size < wr.rangeLeft b w.heap.size := by rw [HRG5.out.left_eq, ← HRG3.out.left_eq]; exact HD3.out
        go_roundw
        case rel => exact ⟨_, cnt1, q3, k + 1, cap3, ss ++ [⟨c0, ⟨c1, c2⟩, c3, c4⟩], HRG5.out, HSUB1.out, HA4.out.trans (hB3.out.mono (by omega)), by have := hB3.out.size; have := HSZ.out; omega, rfl, hO3.out, HST.out⟩
        case measure => exact hdec
      · exact absurd hwt (by simp [wtAll])

set_option maxHeartbeats 8000000 in
theorem thoseOver_any (w : World) (g b n : Nat) (L : List Dt) (H : TbAt w g b n L) (hn : n < 1000000) (z : Nat) (now : Int) (hz : w.cell? ⟨z, 0, none⟩ = some (.int .i64 now)) :
    Calls Try.prog 27 #[.pointer (some ⟨g, 0, none⟩), .func (.func 28) #[] #[.pointer (some ⟨z, 0, none⟩)]] w fun e w' => ∃ q c, e = .returned (.slice q (L.filter (wtOver now)).length c) ∧ DtsAt w' q (L.filter (wtOver now)) ∧ (L.filter (wtOver now)).length ≤ c ∧ c ≤ maxLen ∧ Below w.heap.size w w' ∧ ∀ r off, q = some ⟨r, off, none⟩ → w.heap.size < r := by
  have HH := Lib.hid H
  have hc0 := H.at0
  have hLn : L.length ≤ n := by obtain ⟨D, h1, h2, _⟩ := H.map; rw [← h2]; exact h1.size_le
  obtain ⟨D, hown, hsz, hD⟩ := H.map
  have HOWN := Lib.hid hown
  have HD := Lib.hid hD
  have HLN := Lib.hid hLn
  have HN := Lib.hid hn
  have hgl := H.lt
  obtain ⟨P, hP⟩ : ∃ P, w.heap.size = P := ⟨_, rfl⟩
  have HPE := Lib.hid hP
  clear H hD hsz hLn hn hP
  go_enter Try.func27, Try.ntmps27
  go_wp2_with (first
    | (go_at_call 23; refine (tball_any _ g b hc0).mono ?_; rintro e w' ⟨rfl, rfl⟩)
    | (at_range; refine wpList_range_own _ rfl _ 53 rfl 32 36 pk_keyed Try.underlying53 _ b n D rfl HOWN.out ?_; intro w0 hrg0 hg0 hs0))
  go_frame
  go_loopw [5] (fun v wr => ∃ (left : Lit → Bool) (cnt : Nat) (q : Option Addr) (k cap : Nat) (ss : List Dt), wr.ranges Try.prog 32 dtElem b w.heap.size n D left cnt ∧ (∀ kl, left kl = true → has D kl = true) ∧ Below w.heap.size w wr ∧ w.heap.size < wr.heap.size ∧ v = .slice q k cap ∧ DtsOwn wr (w.heap.size + 1) q k cap ss ∧ CameD L (wtOver now) left ss) (fun _ wr => wr.rangeLeft b w.heap.size)
  case atStart =>
    refine ⟨_, _, none, 0, 0, [], hrg0, fun _ h => h, (Below.refl _ w).grown hg0 (Nat.le_refl _) (fun k e => by cases e), by omega, rfl, LOwn.nil _ _ _ _ _ _, CameD.start fun x hx => ?_⟩
    rw [(HD.out x.p (HH.out.ok x hx)).1, lookD_mem HH.out.srt hx]; rfl
  case round =>
    obtain ⟨left, cnt, q, k, cap, ss, hrg, hsub, hbw, hlt0, rfl, hO, hcm⟩ := hrel
    have HO := Lib.hid hO
    have HCM := Lib.hid hcm
    have HBW := Lib.hid hbw
    have HSUB := Lib.hid hsub
    have HLT0 := Lib.hid hlt0
    have HKL := Lib.hid (show k ≤ L.length from by rw [← hO.len]; exact nodup_leD hcm.nd fun x hx => ((hcm.mem x).1 hx).1)
    clear hO hcm hsub hlt0
    go_wp2_with (at_next; refine wpList_next_ranges _ rfl _ rfl 32 pk_keyed _ pfV dtV (fun key kl hkey => by obtain ⟨x, rfl, _⟩ := keyP_inv hkey; exact ⟨x, rfl⟩) (fun v y hv => by obtain ⟨c, _, rfl, _⟩ := elDtC.inv _ _ hv; exact ⟨c, rfl⟩) b w.heap.size n D left cnt rfl hrg ?_ ?_)
    · intro _ hl0
      have hm : ∀ x, x ∈ ss ↔ x ∈ L ∧ (wtOver now) x = true := fun x => by
        rw [HCM.out.mem]
        exact ⟨fun ⟨h1, h2, _⟩ => ⟨h1, h2⟩, fun ⟨h1, h2⟩ => ⟨h1, h2, hl0 _⟩⟩
      have HM := Lib.hid hm
      have hlen : ∀ ts, ss.Perm ts → ts.length = k := fun ts hp => by rw [← hp.length_eq]; exact HO.out.len
      have HLEN := Lib.hid hlen
      have HCAP := Lib.hid HO.out.cap_
      clear hm hlen hrg
      rcases Nat.eq_zero_or_pos k with h0 | h0
      · subst h0
        have hss : ss = [] := List.eq_nil_of_length_eq_zero HO.out.len
        have HF := Lib.hid (show L.filter (wtOver now) = [] from by
          have := srt_of HH.out.srt HCM.out.nd HM.out (List.Perm.refl ss) (by rw [hss]; exact List.Pairwise.nil)
          rw [← this]; exact hss)
        have HQ := Lib.hid HO.out.lo
        go_wp2_with (go_at_call 33; refine (sort_noneD _ _ _ _).mono ?_; rintro e w' ⟨rfl, rfl⟩)
        go_ret
        rw [HF.out]
        exact ⟨q, cap, rfl, LAt.nil _ _ _ _ _ _, HCAP.out.1, HCAP.out.2, HBW.out, fun r off e => HQ.out r off e⟩
      · obtain ⟨r, hr, hBr⟩ : ∃ r, q = some ⟨r, 0, none⟩ ∧ w.heap.size + 1 ≤ r := by
          rcases HO.out.row.2 with ⟨hv, hn0⟩ | ⟨g', cap', cur, hv, hB, _⟩
          · omega
          · simp only [Value.slice.injEq] at hv
            exact ⟨g', hv.1, hB⟩
        subst hr
        have HBR := Lib.hid hBr
        have hsort := sort_someD HO.out.row HO.out.len (by have := HLT0.out; omega) HO.out.ok (by have := HKL.out; have := HLN.out; have := HN.out; omega)
        have HS := Lib.hid hsort
        clear hsort hBr h0
        go_wp2_with (go_at_call 33; refine HS.out.mono ?_; rintro e w' ⟨rfl, ts, hp, hsr, hat, hb⟩)
        go_ret
        have e := srt_of HH.out.srt HCM.out.nd HM.out hp hsr
        have hl := HLEN.out ts hp
        rw [e] at hl hat
        rw [hl]
        refine ⟨_, cap, rfl, hat, HCAP.out.1, HCAP.out.2, HBW.out.trans (hb.mono (by omega)), fun r' off e => ?_⟩
        simp only [Option.some.injEq, Addr.mk.injEq, and_true] at e
        have := HBR.out
        omega
    · intro x c kl y1 y2 w1 cnt1 hkey hlk hv1 hat hrg1 hlt hg1 hs1 hen
      obtain ⟨x', hxx, hok, rfl⟩ := keyP_inv hkey
      obtain ⟨c', _, hcc, hy⟩ := elDtC.inv _ _ hv1
      obtain rfl := dtV_inj hcc
      cases hy
      obtain rfl : x = x' := pfV_inj hxx
      have hat0 : D.atKey (litP x) (dtD Dt.zero) = dtD c := hat _
      have hhas := HSUB.out _ hlk
      obtain ⟨hd1, hd2⟩ := HD.out x hok
      have hlook : lookD L x = some c := by
        rw [hhas] at hd1
        rw [hat0] at hd2
        rcases hl : lookD L x with _ | y
        · rw [hl] at hd1; cases hd1
        · rw [hl] at hd2
          rw [elDtC.inj _ _ hd2]; rfl
      obtain ⟨hcL, hcp⟩ := lookD_in hlook
      subst hcp
      have hbw1 := HBW.out.grown hg1 HBW.out.size (fun k e => by cases e; exact Nat.le_refl _)
      have hdrop : w1.rangeLeft b w.heap.size < wr.rangeLeft b w.heap.size := by rw [hrg1.left_eq, hrg.left_eq]; exact hlt
      have HSTEP := Lib.hid (HCM.out.step HH.out.srt HH.out.ok hcL hlk)
      have HSUB1 := Lib.hid (show ∀ kl, (left kl && !kl.sameKey (litP c.p)) = true → has D kl = true from fun kl hl => HSUB.out kl (by simp at hl; exact hl.1))
      have HIN := Lib.hid (HH.out.ok c hcL)
      have HO1 := Lib.hid (show DtsOwn w1 (w.heap.size + 1) q k cap ss from ⟨HO.out.len, HO.out.ok, HO.out.row.kept hg1 (row_neD HO.out.row (Nat.lt_succ_self _))⟩)
      obtain ⟨c0, ⟨c1, c2⟩, c3, c4⟩ := c
      dsimp only at HSTEP HSUB1
      unfold pfV dtV at hen
      dsimp only at hen
      have hA := newB w1 (.cells #[.int .i64 c0, .int .u32 c1, .int .i64 c2, .int .i64 c3, .int .i64 c4] 36)
      have hX := Blk.new w1 36 [.int .i64 c0, .int .u32 c1, .int .i64 c2, .int .i64 c3, .int .i64 c4]
      have hrg2 := hrg1.alloc (.cells #[.int .i64 c0, .int .u32 c1, .int .i64 c2, .int .i64 c3, .int .i64 c4] 36)
      obtain ⟨U, hU⟩ : ∃ U, w1.alloc (.cells #[.int .i64 c0, .int .u32 c1, .int .i64 c2, .int .i64 c3, .int .i64 c4] 36) = U := ⟨_, rfl⟩
      obtain ⟨Q, hQ⟩ : ∃ Q, w1.heap.size = Q := ⟨_, rfl⟩
      rw [hU] at hA hX hrg2
      rw [hQ] at hX
      have HU := Lib.hid hU
      have HQE := Lib.hid hQ
      have HRG2 := Lib.hid hrg2
      have HA := Lib.hid (hbw1.trans (hA.mono hbw1.size))
      have HOU := Lib.hid (HO1.out.below hA)
      have HSZU := Lib.hid (show w.heap.size + 1 ≤ U.heap.size from by have := hA.size; have := HLT0.out; have := hs1; omega)
      have HX := Lib.hid hX
      have HDROP := Lib.hid (show U.rangeLeft b w.heap.size < wr.rangeLeft b w.heap.size from by rw [hrg2.left_eq, hrg.left_eq]; exact hlt)
      clear hA hX hrg2 hU hQ hbw1 hdrop hd1 hd2 hlook hat0 hhas hat hcL hrg1 hrg hkey hlk hv1 hg1 hlt hcc hxx hs1
      go_wp2_with fail
      rw [HU.out, HQE.out]
      obtain ⟨z0, z1, z2, z3, z4⟩ := dt_boxes HX.out
      go_wp2_with fail
      go_at_call 28
      refine (exone_any ⟨c0, ⟨c1, c2⟩, c3, c4⟩ _ z now (kept HA.out hz)).mono ?_
      rintro e U3 ⟨rfl, hb3⟩
      have HRG3 := Lib.hid (HRG2.out.kept (row := none) (gb_belowL hb3) (by simp) (by simp))
      have HA3 := Lib.hid (HA.out.trans (hb3.mono HA.out.size))
      have HO3 := Lib.hid (HOU.out.below hb3)
      have HS3 := Lib.hid (Nat.le_trans HSZU.out hb3.size)
      have HD3 := Lib.hid (show U3.rangeLeft b w.heap.size < wr.rangeLeft b w.heap.size from by rw [HRG3.out.left_eq, ← HRG2.out.left_eq]; exact HDROP.out)
      obtain ⟨z0, z1, z2, z3, z4⟩ := dt_boxes (HX.out.next hb3)
      clear hb3
      have hwt : (wtOver now) ⟨c0, ⟨c1, c2⟩, c3, c4⟩ = true ∨ (wtOver now) ⟨c0, ⟨c1, c2⟩, c3, c4⟩ = false := by cases (wtOver now) ⟨c0, ⟨c1, c2⟩, c3, c4⟩ <;> simp
      rcases hwt with hwt | hwt
      · have hst := HSTEP.out
        rw [if_pos hwt] at hst
        have t1 : decide (c4 < now) = true := hwt
        have HST := Lib.hid hst
        clear hst
        have LIT := Lib.hid (dt_lit U3 ⟨c0, ⟨c1, c2⟩, c3, c4⟩ HIN.out)
        have hb4 := newB U3 (.cells #[.int .i64 c0, .int .u32 c1, .int .i64 c2, .int .i64 c3, .int .i64 c4] 36)
        have OW := Lib.hid (HO3.out.below hb4)
        have HSZ := Lib.hid (Nat.le_trans HS3.out hb4.size)
        have HK1 := Lib.hid (show k + 1 ≤ 34359738368 from by have := HKL.out; have := HLN.out; have := HN.out; omega)
        have HRG4 := Lib.hid (HRG3.out.alloc (.cells #[.int .i64 c0, .int .u32 c1, .int .i64 c2, .int .i64 c3, .int .i64 c4] 36))
        have HA4 := Lib.hid (HA3.out.trans (hb4.mono HA3.out.size))
        clear hb4
        go_wp2_with (refine wpList_appL (o := ⟨some 21, _, _, _, _, _⟩) rowDt (by kernel_rfl) (.tmp 18) (.tmp 20) rfl (w.heap.size + 1) q k cap ss OW.out rfl (some ⟨U3.heap.size, 0, none⟩) 1 1 [⟨c0, ⟨c1, c2⟩, c3, c4⟩] LIT.out rfl rfl (k + 1) rfl HK1.out HSZ.out ?_; intro q3 cap3 w3 hO3 hB3)
        have HRG5 := Lib.hid (ranges_same HRG4.out (hB3.out.block b (by omega)) (hB3.out.block w.heap.size (by omega)))
        have hdec : w3.rangeLeft b w.heap.size < wr.rangeLeft b w.heap.size := by rw [HRG5.out.left_eq, ← HRG3.out.left_eq]; exact HD3.out
        go_roundw
        case rel => exact ⟨_, cnt1, q3, k + 1, cap3, ss ++ [⟨c0, ⟨c1, c2⟩, c3, c4⟩], HRG5.out, HSUB1.out, HA4.out.trans (hB3.out.mono (by omega)), by have := hB3.out.size; have := HSZ.out; omega, rfl, hO3.out, HST.out⟩
        case measure => exact hdec
      · have t1 : decide (c4 < now) = false := hwt
        have hst := HSTEP.out
        rw [if_neg (by rw [hwt]; simp)] at hst
        have HST := Lib.hid hst
        clear hst
        go_wp2_with fail
        go_roundw
        case rel => exact ⟨_, cnt1, q, k, cap, ss, HRG3.out, HSUB1.out, HA3.out, by have := HS3.out; omega, rfl, HO3.out, HST.out⟩
        case measure => exact HD3.out
end Go.Proofs.Ytjimnlpmmhcdjaa
