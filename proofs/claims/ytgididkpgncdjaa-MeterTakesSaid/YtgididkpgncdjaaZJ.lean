/- meter: each, for Over and for Demands. -/
import Derived.Test.YtgididkpgncdjaaZI
import Derived.Test.YtgididkpgncdjaaZ9
import Derived.Laws.IdiomRangeMap
namespace Go.Proofs.Ytgididkpgncdjaa
open Go.RowKit Go.Maps
set_option linter.unusedVariables false
set_option linter.unusedSimpArgs false
set_option maxRecDepth 100000

theorem ranges_same {w w' : World} {b r n : Nat} {D : DataW Unit} {left : Lit → Bool} {cnt : Nat} (h : w.ranges Try.prog 25 (plainElem Try.prog 3) b r n D left cnt) (e1 : w'.heap[b]? = w.heap[b]?) (e2 : w'.heap[r]? = w.heap[r]?) : w'.ranges Try.prog 25 (plainElem Try.prog 3) b r n D left cnt := by
  obtain ⟨es, clock, since, seen, c0, h1, h2, h3, h4, h5, h6⟩ := h
  exact ⟨es, clock, since, seen, c0, e1.trans h1, h2, h3, h4, e2.trans h5, h6⟩
theorem fill_none {R : List Ct} (h : ∀ p, fillT R p = none) : R = [] := by
  rcases R with _ | ⟨x, t⟩
  · rfl
  · have h1 := fillT_has (x :: t) x.p
    rw [h x.p] at h1
    simp at h1
theorem allR_len {V : Nat → Mv} (h : ∀ i, i < 16 → OkMv (V i)) : ∀ k, k ≤ 16 → (allR V k).length ≤ 1024 * k
  | 0, _ => by simp [allR]
  | k + 1, hk => by
    have h1 := allR_len h k (by omega)
    have h2 := (h k (by omega)).lenR
    rw [allR_step, List.length_append]
    omega
/-- What has come of a list so far. -/
structure ComeT (D : DataW Unit) (left : Lit → Bool) (L pre : List Ct) : Prop where
  intro ::
  come : Come D left (pre.map (·.p))
  val : ∀ x ∈ pre, x ∈ L
theorem ComeT.start (D : DataW Unit) (L : List Ct) : ComeT D (has D) L [] := ⟨Come.start D, fun x h => (by cases h)⟩
theorem ComeT.step {D : DataW Unit} {left : Lit → Bool} {L pre : List Ct} (h : ComeT D left L pre) {x : Ct} (hx : InPf x.p) {y : DataW Unit} (hlk : left (litP x.p) = true) (hat : ∀ zd, D.atKey (litP x.p) zd = y) (hm : x ∈ L) : ComeT D (fun z => left z && !z.sameKey (litP x.p)) L (pre ++ [x]) := by
  refine ⟨?_, fun z hz => ?_⟩
  · rw [List.map_append]
    exact h.come.step hx hlk hat
  · rcases List.mem_append.1 hz with hz | hz
    · exact h.val z hz
    · simp at hz; subst hz; exact hm
theorem ComeT.len {D : DataW Unit} {left : Lit → Bool} {L pre : List Ct} (h : ComeT D left L pre) : pre.length ≤ L.length := by
  have := nodup_le (ls := L.map (·.p)) h.come.1 fun p hp => by
    obtain ⟨x, hx, rfl⟩ := List.mem_map.1 hp
    exact List.mem_map_of_mem (h.val x hx)
  simpa using this
theorem uniq_nodup {L : List Ct} (h : Uniq L) : L.Nodup := by
  unfold Uniq at h
  induction L with
  | nil => exact List.nodup_nil
  | cons x t ih =>
    rw [List.map_cons, List.nodup_cons] at h
    exact List.nodup_cons.2 ⟨fun hm => h.1 (List.mem_map_of_mem hm), ih h.2⟩
theorem ComeT.all {D : DataW Unit} {left : Lit → Bool} {L pre : List Ct} (h : ComeT D left L pre) (hl : ∀ kl, left kl = false) (hH : Held D (L.map (·.p))) (hin : ∀ x ∈ L, InCt x) (hu : Uniq L) : pre.Perm L := by
  obtain ⟨h1, h2⟩ := h.come.all hl hH (fun p hp => by obtain ⟨x, hx, rfl⟩ := List.mem_map.1 hp; exact hin x hx)
  refine (List.perm_ext_iff_of_nodup (uniq_nodup h1) (uniq_nodup hu)).2 fun x => ⟨h.val x, fun hx => ?_⟩
  obtain ⟨y, hy, e⟩ := List.mem_map.1 ((h2 x.p).2 (List.mem_map_of_mem hx))
  have hyL := h.val y hy
  have e2 := fillT_mem hu hyL
  have e3 := fillT_mem hu hx
  rw [e, e3] at e2
  obtain ⟨p, c⟩ := x
  obtain ⟨p', c'⟩ := y
  simp only [Option.some.injEq] at e2
  subst e2
  simp only at e
  subst e
  exact hy
/-- What such a map holds. -/
theorem held_fill {w : World} {b n s : Nat} {L : List Ct} (h : MapP w b n s (fillT L)) : ∃ D, w.ownsMap Try.prog 25 (plainElem Try.prog 3) b n D ∧ Held D (L.map (·.p)) ∧ ∀ x, InPf x → ∀ c, (∀ zd : DataW Unit, D.atKey (litP x) zd = .lit (.int .i64 c)) → (⟨x, c⟩ : Ct) ∈ L := by
  obtain ⟨D, h1, _, h3⟩ := h
  have hHeld : Held D (L.map (·.p)) := fun x hx => by
    rw [(h3 x hx).1, fillT_has, List.any_eq_true]
    constructor
    · rintro ⟨y, hy, e⟩
      have e : y.p = x := by simpa using e
      exact e ▸ List.mem_map_of_mem hy
    · intro hm
      obtain ⟨y, hy, e⟩ := List.mem_map.1 hm
      exact ⟨y, hy, by simpa using e⟩
  refine ⟨D, h1, hHeld, fun x hx c hat => ?_⟩
  have hhas : has D (litP x) = true := has_true_of_atKey hat
  have hs := (h3 x hx).1
  rw [hhas] at hs
  obtain ⟨v, hv⟩ := Option.isSome_iff_exists.1 hs.symm
  have e := (h3 x hx).2
  rw [hat, hv] at e
  have e2 : c = v := by injection e with e; injection e
  subst e2
  exact fillT_in hv

set_option maxHeartbeats 8000000 in
theorem eachO_any (w0 : World) (B m b : Nat) (V : Nat → Mv) (P : Nat → Mp) (H : MtAt w0 B m b V P) (w : World) (hw : Below w0.heap.size w0 w) (g : Nat) (J : List Ct → World → Prop)
    (hkeep : ∀ pre W W', J pre W → Turns (fun x => w.heap.size ≤ x) W W' → J pre W')
    (hstep : ∀ pre x W, J pre W → InCt x → 1 ≤ x.c → x.c ≤ 9007199254740991 → pre.length < 16384 → Calls Try.prog 43 #[.agg #[.int .u32 x.p.a, .int .i64 x.p.n], .int .i64 x.c, .pointer (some ⟨g, 0, none⟩)] W fun e W' => e = .returned (.tuple #[]) ∧ J (pre ++ [x]) W' ∧ Turns (fun x => w0.heap.size ≤ x ∧ x < w.heap.size) W W')
    (h0 : J [] w) :
    Calls Try.prog 37 #[.pointer (some ⟨m, 0, none⟩), .func (.func 43) #[] #[.pointer (some ⟨g, 0, none⟩)]] w fun e w' => e = .returned (.tuple #[]) ∧ ∃ X, X.Perm (allR V 16) ∧ J X w' ∧ Below w0.heap.size w0 w' ∧ w.heap.size ≤ w'.heap.size := by
  have HK := Lib.hid H
  have HW := Lib.hid hw
  have HKP := Lib.hid hkeep
  have HST := Lib.hid hstep
  have HJ0 := Lib.hid h0
  have hh0 := (H.below hw).at0
  clear H hw hkeep hstep h0
  go_enter Try.func37, Try.ntmps37
  go_wp2_with fail
  refine (mclosed_any w m b hh0).mono ?_
  rintro e w' ⟨rfl, rfl⟩
  go_wp2_with fail
  clear hh0
  go_loopw [15] (fun iv wr => ∃ (k : Nat) (X : List Ct), k ≤ 16 ∧ iv = .int .i64 k ∧ X.Perm (allR V k) ∧ J X wr ∧ Below w0.heap.size w0 wr ∧ w.heap.size ≤ wr.heap.size) (fun iv _ => 16 - (intOf iv).toNat)
  case atStart => exact ⟨0, [], Nat.zero_le _, rfl, List.Perm.refl _, HJ0.out, HW.out, Nat.le_refl _⟩
  case round =>
    obtain ⟨k, X, hk, rfl, hX, hJ, hB, hsz⟩ := hrel
    have HX := Lib.hid hX
    have HJ := Lib.hid hJ
    have HB := Lib.hid hB
    clear hX hJ hB
    by_cases hlt : k < 16
    · have hlt' : (k : Int) < 16 := by omega
      have k0 : (0 : Int) ≤ (k : Int) := by omega
      obtain ⟨s0, s1, s2, s3, s4⟩ := (HK.out.below HB.out).src hlt
      have hrm := HK.out.rm k hlt
      have HOK := Lib.hid (HK.out.ok k hlt)
      have HAS := Lib.hid (allR_step V k)
      have HXL := Lib.hid (show X.length ≤ 1024 * k from by
        rw [HX.out.length_eq]
        exact allR_len HK.out.ok k (by omega))
      obtain ⟨⟨q, a, hh, L, R⟩, hv⟩ : ∃ v, V k = v := ⟨_, rfl⟩
      obtain ⟨⟨c, r⟩, hp⟩ : ∃ p, P k = p := ⟨_, rfl⟩
      rw [hv] at s0 s1 s2 hrm HOK HAS
      rw [hp] at s3 s4 hrm
      dsimp only at s0 s1 s2 s3 s4 hrm HOK HAS
      have hb1 := newB wr (.cells #[.int .i64 q, .int .i64 a, .bool hh, .map c, .map r] 62)
      have hx := (ms_boxes (Blk.new wr 62 [.int .i64 q, .int .i64 a, .bool hh, .map c, .map r])).2.2.2.2
      have hx : (wr.alloc (.cells #[.int .i64 q, .int .i64 a, .bool hh, .map c, .map r] 62)).cell? ⟨wr.heap.size, 3 + 1, none⟩ = some (.map r) := hx
      obtain ⟨U, hU⟩ : ∃ U, wr.alloc (.cells #[.int .i64 q, .int .i64 a, .bool hh, .map c, .map r] 62) = U := ⟨_, rfl⟩
      rw [hU] at hb1
      have HUE := Lib.hid hU
      have HJU := Lib.hid (HKP.out X wr U HJ.out (.of_below hb1))
      have HBU := Lib.hid (HB.out.trans (hb1.mono HB.out.size))
      have hszU : w.heap.size ≤ U.heap.size := Nat.le_trans hsz hb1.size
      rcases hrm with ⟨rfl, hf⟩ | ⟨b', nn, s, rfl, hBb, _, _, hmp⟩
      · have hR : R = [] := fill_none hf
        subst hR
        rw [List.append_nil] at HAS
        have hrg := run_range_nilMap (P := Try.prog) (wr.alloc (.cells #[.int .i64 q, .int .i64 a, .bool hh, .map c, .map none] 62)) 60 25 3 Try.underlying60
        have hnx := fun ty => run_next_nilMap (P := Try.prog) (wr.alloc (.cells #[.int .i64 q, .int .i64 a, .bool hh, .map c, .map none] 62)) ty 0 0 #[]
        simp only [sz_alloc] at hnx
        have hb2 := newB U (.mapIter none 0 #[] 0)
        have HJ2 := Lib.hid (HKP.out X U _ HJU.out (.of_below hb2))
        have HB2 := Lib.hid (HBU.out.trans (hb2.mono HBU.out.size))
        have hsz2 := Nat.le_trans hszU hb2.size
        clear hb1 hb2 hU
        go_wp2_with fail
        refine wp_loop_rounds 1 ?_
        rw [rounds_succ]
        go_wp2_with fail
        rw [HUE.out]
        go_roundw
        case rel => exact ⟨k + 1, X, by omega, by go_num, by rw [HAS.out]; exact HX.out, HJ2.out, HB2.out, hsz2⟩
        case measure => simp [intOf]; omega
      · have hblt := hmp.lt
        obtain ⟨D, hown, hheld, hval⟩ := held_fill (hmp.next HBU.out)
        have HHE := Lib.hid hheld
        have HVA := Lib.hid hval
        rw [← hU] at hown
        clear hb1 hmp hheld hval hU
        go_wp2_with (at_range; refine wpList_range_own _ rfl _ 60 rfl 25 3 pk_keyed Try.underlying60 _ b' nn D rfl hown ?_; intro w1 hrg0 hg0 hs0)
        go_frame
        rw [HUE.out] at hrg0 hg0 hs0 ⊢
        have hT0 : Turns (fun x => w.heap.size ≤ x) U w1 := ⟨hg0.os, hg0.tape, hg0.output, hg0.size, fun x hx _ => hg0.block x hx (by simp)⟩
        go_loopw [7] (fun _ W => ∃ (left : Lit → Bool) (cnt : Nat) (pre : List Ct), W.ranges Try.prog 25 (plainElem Try.prog 3) b' U.heap.size nn D left cnt ∧ ComeT D left R pre ∧ J (X ++ pre) W ∧ Below w0.heap.size w0 W ∧ w.heap.size ≤ W.heap.size) (fun _ W => W.rangeLeft b' U.heap.size)
        case atStart => exact ⟨_, _, [], hrg0, ComeT.start _ _, by rw [List.append_nil]; exact HKP.out X U w1 HJU.out hT0, HBU.out.trans (hT0.below HBU.out.size (fun x hx => Nat.le_trans HW.out.size hx)), Nat.le_trans hszU hg0.size⟩
        case round =>
          obtain ⟨left, cnt, pre, hrg, hC, hJ9, hB9, hs9⟩ := hrel
          have HC := Lib.hid hC
          have HJ9 := Lib.hid hJ9
          have HB9 := Lib.hid hB9
          clear hC hJ9 hB9
          go_wp2_with (at_next; refine wpList_next_ranges _ rfl _ rfl 25 pk_keyed (plainElem Try.prog 3) pfV (Value.int .i64) (fun key kl hk => by obtain ⟨x, hx, _⟩ := keyP_inv hk; exact ⟨x, hx⟩) (fun v y hv => by obtain ⟨c, h1, h2, h3⟩ := plainElem_int_inv Try.underlying3 hv; exact ⟨c, h1⟩) b' U.heap.size nn D left cnt rfl hrg ?_ ?_)
          · intro _ hl0
            have HPM := Lib.hid (HC.out.all hl0 HHE.out (fun x hx => (HOK.out.inR x hx).1) HOK.out.uR)
            go_wp2_with fail
            go_roundw
            case rel => exact ⟨k + 1, X ++ pre, by omega, by go_num, by rw [HAS.out]; exact HX.out.append HPM.out, HJ9.out, HB9.out, hs9⟩
            case measure => simp [intOf]; omega
          · intro x c1 kl y1 y2 w2 cnt1 hkey hlk hvv hat hrg1 hltc hg1 hs1 hen
            obtain ⟨x', ex, hox, rfl⟩ := keyP_inv hkey
            obtain rfl : x = x' := pfV_inj ex
            obtain ⟨c', hcc, hy, hwc⟩ := plainElem_int_inv Try.underlying3 hvv
            cases hcc
            cases hy
            have hmem : (⟨x, c1⟩ : Ct) ∈ R := HVA.out x hox c1 hat
            have hCs := HC.out.step (x := ⟨x, c1⟩) hox hlk hat hmem
            have hin := HOK.out.inR _ hmem
            have hT1 : Turns (fun x => w.heap.size ≤ x) _ w2 := ⟨hg1.os, hg1.tape, hg1.output, hg1.size, fun y hy hne => hg1.block y hy (fun e => hne (by cases e; exact hszU))⟩
            obtain ⟨xa, xn⟩ := x
            have hen : (Instr.entry (.pointer (some ⟨U.heap.size, 0, none⟩))).run Try.prog w2 = .ok (.tuple #[.agg #[.int .u32 xa, .int .i64 xn], .int .i64 c1]) w2 := hen
            have hn3 := newB w2 (.cells #[.int .u32 xa, .int .i64 xn] 25)
            have hx3 := Blk.new w2 25 [.int .u32 xa, .int .i64 xn]
            have hrg3 := hrg1.alloc (.cells #[.int .u32 xa, .int .i64 xn] 25)
            obtain ⟨W3, hW3⟩ : ∃ W, w2.alloc (.cells #[.int .u32 xa, .int .i64 xn] 25) = W := ⟨_, rfl⟩
            have p0 : (w2.alloc (.cells #[.int .u32 xa, .int .i64 xn] 25)).cell? ⟨w2.heap.size, 0, none⟩ = some (.int .u32 xa) := hx3.cell 0 (by simp)
            have p1 : (w2.alloc (.cells #[.int .u32 xa, .int .i64 xn] 25)).cell? ⟨w2.heap.size, 1, none⟩ = some (.int .i64 xn) := hx3.cell 1 (by simp)
            rw [hW3] at hn3 hrg3
            have hT3 := hT1.trans (.of_below hn3)
            have hB3 := HB9.out.trans (hT3.below HB9.out.size (fun y hy => Nat.le_trans HW.out.size hy))
            have hlen : (X ++ pre).length < 16384 := by
              have h1 := HXL.out
              have h2 := hCs.len
              have h3 := HOK.out.lenR
              dsimp only at h3
              rw [List.length_append] at h2 ⊢
              simp only [List.length_cons, List.length_nil] at h2
              omega
            have HCALL := Lib.hid (HST.out (X ++ pre) ⟨⟨xa, xn⟩, c1⟩ W3 (HKP.out (X ++ pre) _ W3 HJ9.out hT3) hin.1 hin.2.1 hin.2.2 hlen)
            have HRG := Lib.hid hrg
            have HRG3 := Lib.hid hrg3
            have HCS := Lib.hid hCs
            have HB3 := Lib.hid hB3
            have HW3 := Lib.hid hW3
            have hs3 : w.heap.size ≤ W3.heap.size := Nat.le_trans hs9 hT3.size
            clear hW3 hn3 hx3 hrg hrg1 hrg3 hT1 hT3 hB3 hCs hkey hat hlk hvv hmem hin hg1 hs1 hlen ex
            go_wp2_with fail
            rw [HW3.out]
            refine HCALL.out.mono ?_
            rintro e W4 ⟨rfl, hJ4, hT4⟩
            have hrg4 := ranges_same HRG3.out (hT4.block b' (Nat.lt_of_lt_of_le hblt HB3.out.size) (fun h => by omega)) (hT4.block U.heap.size HRG3.out.lt (fun h => by omega))
            have HRG4 := Lib.hid hrg4
            have HJ4 := Lib.hid hJ4
            have HB4 := Lib.hid (HB3.out.trans (hT4.below HB3.out.size (fun y hy => hy.1)))
            have hs4 := Nat.le_trans hs3 hT4.size
            clear hrg4 hJ4 hT4 p0 p1 hen
            go_wp2_with fail
            go_roundw
            case rel => exact ⟨_, cnt1, pre ++ [⟨⟨xa, xn⟩, c1⟩], HRG4.out, HCS.out, by rw [← List.append_assoc]; exact HJ4.out, HB4.out, hs4⟩
            case measure => rw [HRG4.out.left_eq, HRG.out.left_eq]; exact hltc
    · obtain rfl : k = 16 := by omega
      go_wp2_with fail
      go_end0
      exact ⟨rfl, X, HX.out, HJ.out, HB.out, hsz⟩

set_option maxHeartbeats 8000000 in
theorem eachD_any (w0 : World) (B m b : Nat) (V : Nat → Mv) (P : Nat → Mp) (H : MtAt w0 B m b V P) (w : World) (hw : Below w0.heap.size w0 w) (g : Nat) (J : List Ct → World → Prop)
    (hkeep : ∀ pre W W', J pre W → Turns (fun x => w.heap.size ≤ x) W W' → J pre W')
    (hstep : ∀ pre x W, J pre W → InCt x → 1 ≤ x.c → x.c ≤ 9007199254740991 → pre.length < 16384 → Calls Try.prog 38 #[.agg #[.int .u32 x.p.a, .int .i64 x.p.n], .int .i64 x.c, .pointer (some ⟨g, 0, none⟩)] W fun e W' => e = .returned (.tuple #[]) ∧ J (pre ++ [x]) W' ∧ Turns (fun x => w0.heap.size ≤ x ∧ x < w.heap.size) W W')
    (h0 : J [] w) :
    Calls Try.prog 37 #[.pointer (some ⟨m, 0, none⟩), .func (.func 38) #[] #[.pointer (some ⟨g, 0, none⟩)]] w fun e w' => e = .returned (.tuple #[]) ∧ ∃ X, X.Perm (allR V 16) ∧ J X w' ∧ Below w0.heap.size w0 w' ∧ w.heap.size ≤ w'.heap.size := by
  have HK := Lib.hid H
  have HW := Lib.hid hw
  have HKP := Lib.hid hkeep
  have HST := Lib.hid hstep
  have HJ0 := Lib.hid h0
  have hh0 := (H.below hw).at0
  clear H hw hkeep hstep h0
  go_enter Try.func37, Try.ntmps37
  go_wp2_with fail
  refine (mclosed_any w m b hh0).mono ?_
  rintro e w' ⟨rfl, rfl⟩
  go_wp2_with fail
  clear hh0
  go_loopw [15] (fun iv wr => ∃ (k : Nat) (X : List Ct), k ≤ 16 ∧ iv = .int .i64 k ∧ X.Perm (allR V k) ∧ J X wr ∧ Below w0.heap.size w0 wr ∧ w.heap.size ≤ wr.heap.size) (fun iv _ => 16 - (intOf iv).toNat)
  case atStart => exact ⟨0, [], Nat.zero_le _, rfl, List.Perm.refl _, HJ0.out, HW.out, Nat.le_refl _⟩
  case round =>
    obtain ⟨k, X, hk, rfl, hX, hJ, hB, hsz⟩ := hrel
    have HX := Lib.hid hX
    have HJ := Lib.hid hJ
    have HB := Lib.hid hB
    clear hX hJ hB
    by_cases hlt : k < 16
    · have hlt' : (k : Int) < 16 := by omega
      have k0 : (0 : Int) ≤ (k : Int) := by omega
      obtain ⟨s0, s1, s2, s3, s4⟩ := (HK.out.below HB.out).src hlt
      have hrm := HK.out.rm k hlt
      have HOK := Lib.hid (HK.out.ok k hlt)
      have HAS := Lib.hid (allR_step V k)
      have HXL := Lib.hid (show X.length ≤ 1024 * k from by
        rw [HX.out.length_eq]
        exact allR_len HK.out.ok k (by omega))
      obtain ⟨⟨q, a, hh, L, R⟩, hv⟩ : ∃ v, V k = v := ⟨_, rfl⟩
      obtain ⟨⟨c, r⟩, hp⟩ : ∃ p, P k = p := ⟨_, rfl⟩
      rw [hv] at s0 s1 s2 hrm HOK HAS
      rw [hp] at s3 s4 hrm
      dsimp only at s0 s1 s2 s3 s4 hrm HOK HAS
      have hb1 := newB wr (.cells #[.int .i64 q, .int .i64 a, .bool hh, .map c, .map r] 62)
      have hx := (ms_boxes (Blk.new wr 62 [.int .i64 q, .int .i64 a, .bool hh, .map c, .map r])).2.2.2.2
      have hx : (wr.alloc (.cells #[.int .i64 q, .int .i64 a, .bool hh, .map c, .map r] 62)).cell? ⟨wr.heap.size, 3 + 1, none⟩ = some (.map r) := hx
      obtain ⟨U, hU⟩ : ∃ U, wr.alloc (.cells #[.int .i64 q, .int .i64 a, .bool hh, .map c, .map r] 62) = U := ⟨_, rfl⟩
      rw [hU] at hb1
      have HUE := Lib.hid hU
      have HJU := Lib.hid (HKP.out X wr U HJ.out (.of_below hb1))
      have HBU := Lib.hid (HB.out.trans (hb1.mono HB.out.size))
      have hszU : w.heap.size ≤ U.heap.size := Nat.le_trans hsz hb1.size
      rcases hrm with ⟨rfl, hf⟩ | ⟨b', nn, s, rfl, hBb, _, _, hmp⟩
      · have hR : R = [] := fill_none hf
        subst hR
        rw [List.append_nil] at HAS
        have hrg := run_range_nilMap (P := Try.prog) (wr.alloc (.cells #[.int .i64 q, .int .i64 a, .bool hh, .map c, .map none] 62)) 60 25 3 Try.underlying60
        have hnx := fun ty => run_next_nilMap (P := Try.prog) (wr.alloc (.cells #[.int .i64 q, .int .i64 a, .bool hh, .map c, .map none] 62)) ty 0 0 #[]
        simp only [sz_alloc] at hnx
        have hb2 := newB U (.mapIter none 0 #[] 0)
        have HJ2 := Lib.hid (HKP.out X U _ HJU.out (.of_below hb2))
        have HB2 := Lib.hid (HBU.out.trans (hb2.mono HBU.out.size))
        have hsz2 := Nat.le_trans hszU hb2.size
        clear hb1 hb2 hU
        go_wp2_with fail
        refine wp_loop_rounds 1 ?_
        rw [rounds_succ]
        go_wp2_with fail
        rw [HUE.out]
        go_roundw
        case rel => exact ⟨k + 1, X, by omega, by go_num, by rw [HAS.out]; exact HX.out, HJ2.out, HB2.out, hsz2⟩
        case measure => simp [intOf]; omega
      · have hblt := hmp.lt
        obtain ⟨D, hown, hheld, hval⟩ := held_fill (hmp.next HBU.out)
        have HHE := Lib.hid hheld
        have HVA := Lib.hid hval
        rw [← hU] at hown
        clear hb1 hmp hheld hval hU
        go_wp2_with (at_range; refine wpList_range_own _ rfl _ 60 rfl 25 3 pk_keyed Try.underlying60 _ b' nn D rfl hown ?_; intro w1 hrg0 hg0 hs0)
        go_frame
        rw [HUE.out] at hrg0 hg0 hs0 ⊢
        have hT0 : Turns (fun x => w.heap.size ≤ x) U w1 := ⟨hg0.os, hg0.tape, hg0.output, hg0.size, fun x hx _ => hg0.block x hx (by simp)⟩
        go_loopw [7] (fun _ W => ∃ (left : Lit → Bool) (cnt : Nat) (pre : List Ct), W.ranges Try.prog 25 (plainElem Try.prog 3) b' U.heap.size nn D left cnt ∧ ComeT D left R pre ∧ J (X ++ pre) W ∧ Below w0.heap.size w0 W ∧ w.heap.size ≤ W.heap.size) (fun _ W => W.rangeLeft b' U.heap.size)
        case atStart => exact ⟨_, _, [], hrg0, ComeT.start _ _, by rw [List.append_nil]; exact HKP.out X U w1 HJU.out hT0, HBU.out.trans (hT0.below HBU.out.size (fun x hx => Nat.le_trans HW.out.size hx)), Nat.le_trans hszU hg0.size⟩
        case round =>
          obtain ⟨left, cnt, pre, hrg, hC, hJ9, hB9, hs9⟩ := hrel
          have HC := Lib.hid hC
          have HJ9 := Lib.hid hJ9
          have HB9 := Lib.hid hB9
          clear hC hJ9 hB9
          go_wp2_with (at_next; refine wpList_next_ranges _ rfl _ rfl 25 pk_keyed (plainElem Try.prog 3) pfV (Value.int .i64) (fun key kl hk => by obtain ⟨x, hx, _⟩ := keyP_inv hk; exact ⟨x, hx⟩) (fun v y hv => by obtain ⟨c, h1, h2, h3⟩ := plainElem_int_inv Try.underlying3 hv; exact ⟨c, h1⟩) b' U.heap.size nn D left cnt rfl hrg ?_ ?_)
          · intro _ hl0
            have HPM := Lib.hid (HC.out.all hl0 HHE.out (fun x hx => (HOK.out.inR x hx).1) HOK.out.uR)
            go_wp2_with fail
            go_roundw
            case rel => exact ⟨k + 1, X ++ pre, by omega, by go_num, by rw [HAS.out]; exact HX.out.append HPM.out, HJ9.out, HB9.out, hs9⟩
            case measure => simp [intOf]; omega
          · intro x c1 kl y1 y2 w2 cnt1 hkey hlk hvv hat hrg1 hltc hg1 hs1 hen
            obtain ⟨x', ex, hox, rfl⟩ := keyP_inv hkey
            obtain rfl : x = x' := pfV_inj ex
            obtain ⟨c', hcc, hy, hwc⟩ := plainElem_int_inv Try.underlying3 hvv
            cases hcc
            cases hy
            have hmem : (⟨x, c1⟩ : Ct) ∈ R := HVA.out x hox c1 hat
            have hCs := HC.out.step (x := ⟨x, c1⟩) hox hlk hat hmem
            have hin := HOK.out.inR _ hmem
            have hT1 : Turns (fun x => w.heap.size ≤ x) _ w2 := ⟨hg1.os, hg1.tape, hg1.output, hg1.size, fun y hy hne => hg1.block y hy (fun e => hne (by cases e; exact hszU))⟩
            obtain ⟨xa, xn⟩ := x
            have hen : (Instr.entry (.pointer (some ⟨U.heap.size, 0, none⟩))).run Try.prog w2 = .ok (.tuple #[.agg #[.int .u32 xa, .int .i64 xn], .int .i64 c1]) w2 := hen
            have hn3 := newB w2 (.cells #[.int .u32 xa, .int .i64 xn] 25)
            have hx3 := Blk.new w2 25 [.int .u32 xa, .int .i64 xn]
            have hrg3 := hrg1.alloc (.cells #[.int .u32 xa, .int .i64 xn] 25)
            obtain ⟨W3, hW3⟩ : ∃ W, w2.alloc (.cells #[.int .u32 xa, .int .i64 xn] 25) = W := ⟨_, rfl⟩
            have p0 : (w2.alloc (.cells #[.int .u32 xa, .int .i64 xn] 25)).cell? ⟨w2.heap.size, 0, none⟩ = some (.int .u32 xa) := hx3.cell 0 (by simp)
            have p1 : (w2.alloc (.cells #[.int .u32 xa, .int .i64 xn] 25)).cell? ⟨w2.heap.size, 1, none⟩ = some (.int .i64 xn) := hx3.cell 1 (by simp)
            rw [hW3] at hn3 hrg3
            have hT3 := hT1.trans (.of_below hn3)
            have hB3 := HB9.out.trans (hT3.below HB9.out.size (fun y hy => Nat.le_trans HW.out.size hy))
            have hlen : (X ++ pre).length < 16384 := by
              have h1 := HXL.out
              have h2 := hCs.len
              have h3 := HOK.out.lenR
              dsimp only at h3
              rw [List.length_append] at h2 ⊢
              simp only [List.length_cons, List.length_nil] at h2
              omega
            have HCALL := Lib.hid (HST.out (X ++ pre) ⟨⟨xa, xn⟩, c1⟩ W3 (HKP.out (X ++ pre) _ W3 HJ9.out hT3) hin.1 hin.2.1 hin.2.2 hlen)
            have HRG := Lib.hid hrg
            have HRG3 := Lib.hid hrg3
            have HCS := Lib.hid hCs
            have HB3 := Lib.hid hB3
            have HW3 := Lib.hid hW3
            have hs3 : w.heap.size ≤ W3.heap.size := Nat.le_trans hs9 hT3.size
            clear hW3 hn3 hx3 hrg hrg1 hrg3 hT1 hT3 hB3 hCs hkey hat hlk hvv hmem hin hg1 hs1 hlen ex
            go_wp2_with fail
            rw [HW3.out]
            refine HCALL.out.mono ?_
            rintro e W4 ⟨rfl, hJ4, hT4⟩
            have hrg4 := ranges_same HRG3.out (hT4.block b' (Nat.lt_of_lt_of_le hblt HB3.out.size) (fun h => by omega)) (hT4.block U.heap.size HRG3.out.lt (fun h => by omega))
            have HRG4 := Lib.hid hrg4
            have HJ4 := Lib.hid hJ4
            have HB4 := Lib.hid (HB3.out.trans (hT4.below HB3.out.size (fun y hy => hy.1)))
            have hs4 := Nat.le_trans hs3 hT4.size
            clear hrg4 hJ4 hT4 p0 p1 hen
            go_wp2_with fail
            go_roundw
            case rel => exact ⟨_, cnt1, pre ++ [⟨⟨xa, xn⟩, c1⟩], HRG4.out, HCS.out, by rw [← List.append_assoc]; exact HJ4.out, HB4.out, hs4⟩
            case measure => rw [HRG4.out.left_eq, HRG.out.left_eq]; exact hltc
    · obtain rfl : k = 16 := by omega
      go_wp2_with fail
      go_end0
      exact ⟨rfl, X, HX.out, HJ.out, HB.out, hsz⟩
end Go.Proofs.Ytgididkpgncdjaa
