/- meter: Demands. -/
import Derived.Test.YtgididkpgncdjaaZL
import Derived.Deep.RegionLaw
namespace Go.Proofs.Ytgididkpgncdjaa
open Go.RowKit Go.Maps
set_option linter.unusedVariables false
set_option linter.unusedSimpArgs false
set_option maxRecDepth 100000

theorem LOwn.lo {et : TypeId} {α : Type} {c : α → List Value} {ok : α → Prop} {sz : Nat} {w : World} {B n cap : Nat} {q : Option Addr} {l : List α} (h : LOwn et c ok sz w B q n cap l) : ∀ b off, q = some ⟨b, off, none⟩ → B ≤ b := by
  intro b off e
  rcases h.row.2 with ⟨hv, _⟩ | ⟨g, cap', cur, hv, hB, _⟩
  · rw [e] at hv; cases hv
  · rw [e] at hv
    simp only [Value.slice.injEq, Option.some.injEq, Addr.mk.injEq, and_true] at hv
    obtain ⟨⟨rfl, _⟩, _⟩ := hv
    exact hB
theorem srt_nodup {ss : List Pf} (h : Srt ss) : ss.Nodup := h.imp fun {a b} hab e => by subst e; exact ltN_irrefl _ hab
def mkD (X : List Ct) (p : Pf) : Ct := ⟨p, (sumF X p).getD 0⟩
theorem dem_of {V : Nat → Mv} (hok : ∀ i, i < 16 → OkMv (V i)) {X : List Ct} (hX : X.Perm (allR V 16)) {ss : List Pf} (hs : Srt ss) (hm : ∀ x, x ∈ ss ↔ x ∈ X.map (·.p)) : Dem V (ss.map (mkD X)) := by
  have e1 : (ss.map (mkD X)).map (·.p) = ss := by
    rw [List.map_map]
    exact (List.map_congr_left (fun x _ => rfl)).trans (List.map_id ss)
  refine ⟨by rw [e1]; exact hs, fun p => ?_, fun x hx => ?_⟩
  · rw [e1, hm, List.mem_map]
    exact ⟨fun ⟨y, hy, e⟩ => ⟨y, hX.mem_iff.1 hy, e⟩, fun ⟨y, hy, e⟩ => ⟨y, hX.mem_iff.2 hy, e⟩⟩
  · obtain ⟨p, _, rfl⟩ := List.mem_map.1 hx
    show (sumF X p).getD 0 = demV V p
    rw [sumF_getD, totP_perm p hX, demS_tot hok p 16 (Nat.le_refl _)]
    rfl
def DemTo (w w' : World) (V : Nat → Mv) (e : Ending) : Prop := ∃ q k cap l, e = .returned (.slice q k cap) ∧ l.length = k ∧ k ≤ 16384 ∧ k ≤ cap ∧ CtsAt w' q l ∧ Dem V l ∧ Below w.heap.size w w' ∧ ∀ b off, q = some ⟨b, off, none⟩ → w.heap.size ≤ b
set_option maxHeartbeats 8000000 in
theorem mdemands_any (w : World) (B m b : Nat) (V : Nat → Mv) (P : Nat → Mp) (H : MtAt w B m b V P) :
    Calls Try.prog 19 #[.pointer (some ⟨m, 0, none⟩)] w fun e w' => DemTo w w' V e := by
  have hmm := @run_makeMap Try.prog
  have HOK := Lib.hid H.ok
  have hb1 := newB w (.map #[] 0)
  have hb2 := newB (w.alloc (.map #[] 0)) (.cells #[.map (some w.heap.size)] 60)
  have hm1 := (MapAt.fresh keyPfC elIntC w).next hb2
  have hg1 := Blk.new (w.alloc (.map #[] 0)) 60 [.map (some w.heap.size)]
  rw [sz_alloc] at hg1
  have hsz : ((w.alloc (.map #[] 0)).alloc (.cells #[.map (some w.heap.size)] 60)).heap.size = w.heap.size + 2 := by simp
  have hb := hb1.trans (hb2.mono hb1.size)
  obtain ⟨U, hU⟩ : ∃ U, (w.alloc (.map #[] 0)).alloc (.cells #[.map (some w.heap.size)] 60) = U := ⟨_, rfl⟩
  rw [hU] at hm1 hg1 hsz hb
  have HE := Lib.hid (eachD_any w B m b V P H U hb (w.heap.size + 1) (fun X W => Blk W (w.heap.size + 1) 60 [.map (some w.heap.size)] ∧ (∃ nn s, nn ≤ X.length ∧ MapP W w.heap.size nn s (sumF X)) ∧ ∀ y ∈ X, InCt y ∧ 1 ≤ y.c)
    (fun pre W W' h hT => ⟨h.1.of_same (hT.block _ h.1.lt (fun hh => by omega)), h.2.1.imp fun nn h2 => h2.imp fun s h3 => ⟨h3.1, h3.2.of_same (hT.block _ h3.2.lt (fun hh => by omega))⟩, h.2.2⟩)
    (fun pre x W h hx h1 hM hl => by
      obtain ⟨hg, ⟨nn, s, hnn, hmp⟩, hin⟩ := h
      refine (mdem1_any W (w.heap.size + 1) w.heap.size nn s _ hg hmp (by omega) x hx).mono ?_
      rintro e W' ⟨rfl, hg', ⟨s', hm'⟩, hT'⟩
      refine ⟨rfl, ⟨hg', ⟨nn + 1, s', by rw [List.length_append]; simp; omega, ?_⟩, fun y hy => ?_⟩, ⟨hT'.os, hT'.tape, hT'.output, hT'.size, fun k hk hn => hT'.block k hk (fun e => hn (by omega))⟩⟩
      · rw [sumF_step pre x (fun y hy => by have := (hin y hy).2; omega) (by omega)] at hm'
        exact hm'
      · rcases List.mem_append.1 hy with hy | hy
        · exact hin y hy
        · simp at hy; subst hy; exact ⟨hx, h1⟩)
    ⟨hg1, ⟨0, 0, Nat.le_refl _, hm1.ext (fun p _ => rfl)⟩, fun y hy => by cases hy⟩)
  have HU := Lib.hid hU
  have HB := Lib.hid hb
  clear H hb hb1 hb2 hm1 hg1 hsz hU
  go_enter Try.func19, Try.ntmps19
  go_wp2_with fail
  rw [HU.out]
  refine HE.out.mono ?_
  rintro e W ⟨rfl, X, hX, ⟨hblk, ⟨nn, s, hnn, hmp⟩, hin⟩, hB, _⟩
  have HX := Lib.hid hX
  have hXl : X.length ≤ 16384 := by
    have h1 := allR_len HOK.out 16 (Nat.le_refl _)
    rw [hX.length_eq]; omega
  have g0 := hblk.cell 0 (by simp)
  simp only [List.getD_cons_zero] at g0
  obtain ⟨D, hown, hheld⟩ : ∃ D, W.ownsMap Try.prog 25 (plainElem Try.prog 3) w.heap.size nn D ∧ Held D (X.map (·.p)) := by
    obtain ⟨D, h1, _, h3⟩ := hmp
    refine ⟨D, h1, fun x hx => ?_⟩
    rw [(h3 x hx).1]
    unfold sumF
    rw [List.mem_map]
    split
    · rename_i h
      obtain ⟨y, hy, e⟩ := List.any_eq_true.1 h
      exact ⟨fun _ => ⟨y, hy, by simpa using e⟩, fun _ => rfl⟩
    · rename_i h
      rw [Bool.not_eq_true] at h
      exact ⟨fun h => (by cases h), fun ⟨y, hy, e⟩ => absurd (show X.any (fun z => z.p == x) = true from List.any_eq_true.2 ⟨y, hy, by simpa using e⟩) (by rw [h]; simp)⟩
  have hb3 := newB W (.cells #[.map (some w.heap.size)] 60)
  have hx3 := Blk.new W 60 [.map (some w.heap.size)]
  obtain ⟨W2, hW2⟩ : ∃ U, W.alloc (.cells #[.map (some w.heap.size)] 60) = U := ⟨_, rfl⟩
  have hs2 : W2.heap.size = W.heap.size + 1 := by rw [← hW2]; simp
  rw [hW2] at hb3 hx3
  have HSK := Lib.hid (sorted_keys W.heap.size w.heap.size nn D (X.map (·.p)) hheld (fun p hp => by obtain ⟨y, hy, rfl⟩ := List.mem_map.1 hp; exact (hin y hy).1) W2 (by omega) (by omega) (by rw [List.length_map]; omega) (hx3.cell 0 (by simp)) (hW2 ▸ hown.alloc _))
  have HW2 := Lib.hid hW2
  have HMP := Lib.hid (hmp.next hb3)
  have HBK := Lib.hid (hblk.next hb3)
  have HIN := Lib.hid hin
  have HB2 := Lib.hid (hB.trans (hb3.mono hB.size))
  clear hX hblk hmp hin hB hown hheld hb3 hx3 hW2 hs2 hmm
  go_wp2_with (first
    | (go_at_call 40; refine (pfKeys_any _ _).mono ?_; rintro e w9 ⟨rfl, rfl⟩; rw [HW2.out])
    | (go_at_call 39; refine HSK.out.mono ?_; rintro e W4 ⟨q, k, cap, ss, rfl, hk, hsrt, hb4⟩))
  have HK := Lib.hid hk
  have HSS := Lib.hid hsrt
  have HMP4 := Lib.hid (HMP.out.next hb4)
  have HBK4 := Lib.hid (HBK.out.next hb4)
  have HB4 := Lib.hid (HB2.out.trans (hb4.mono HB2.out.size))
  have hkl : k ≤ 16384 := by
    have h1 := nodup_le (srt_nodup hsrt.srt) (fun x hx => (hsrt.mem x).1 hx)
    rw [List.length_map, hk] at h1
    omega
  clear hk hsrt hb4 g0
  go_loopw [4, 15] (fun lv v wr => ∃ (j : Nat) (q2 : Option Addr) (cap2 : Nat), j ≤ k ∧ v = .int .i64 j ∧ lv = .slice q2 j cap2 ∧ CtsOwn wr W4.heap.size q2 j cap2 ((ss.take j).map (mkD X)) ∧ Below W4.heap.size W4 wr) (fun _ v _ => k - (intOf v).toNat)
  case atStart => exact ⟨0, none, 0, Nat.zero_le _, rfl, rfl, LOwn.nil _ _ _ _ _ _, Below.refl _ _⟩
  case round =>
    obtain ⟨j, q2, cap2, hj, rfl, rfl, hown, hbr⟩ := hrel
    have HOWN := Lib.hid hown
    have HBR := Lib.hid hbr
    have hcap := hown.cap_
    have hat := HSS.out.at_.below hbr
    clear hown hbr
    by_cases hlt : j < k
    · have hlt' : (j : Int) < (k : Int) := by omega
      have j0 : (0 : Int) ≤ (j : Int) := by omega
      have hxi := hat.in_ HK.out hlt
      obtain ⟨b9, off, rfl, hc⟩ := hat.cell HK.out hlt
      have c0 := hc 0 _ rfl
      have c1 := hc 1 _ rfl
      have hjl : j < ss.length := by rw [HK.out]; exact hlt
      have HTK := Lib.hid (show (ss.take (j + 1)).map (mkD X) = (ss.take j).map (mkD X) ++ [mkD X (ss.getD j Pf.zero)] from by
        rw [List.take_add_one, List.map_append]
        simp [List.getD, hjl])
      obtain ⟨p, hp⟩ : ∃ p, ss.getD j Pf.zero = p := ⟨_, rfl⟩
      rw [hp] at c0 c1 hxi HTK
      obtain ⟨pa, pn⟩ := p
      dsimp only at c0 c1
      have c0 : wr.cell? ⟨b9, off + j * 2, none⟩ = some (.int .u32 pa) := c0
      have hn1 := newB wr (.cells #[.int .u32 pa, .int .i64 pn] 25)
      have hx1 := Blk.new wr 25 [.int .u32 pa, .int .i64 pn]
      obtain ⟨Q, hQ⟩ : ∃ Q, wr.heap.size = Q := ⟨_, rfl⟩
      obtain ⟨U1, hU1⟩ : ∃ U, wr.alloc (.cells #[.int .u32 pa, .int .i64 pn] 25) = U := ⟨_, rfl⟩
      rw [hU1] at hn1 hx1
      rw [hQ] at hx1
      have hb5 := HBR.out.trans (hn1.mono HBR.out.size)
      have hlk := ((HMP4.out.next hb5).drew).look Try.underlying60 (x := ⟨pa, pn⟩) hxi
      obtain ⟨v, hv⟩ : ∃ v, (sumF X ⟨pa, pn⟩).getD 0 = v := ⟨_, rfl⟩
      have hmk : mkD X ⟨pa, pn⟩ = ⟨⟨pa, pn⟩, v⟩ := by unfold mkD; rw [hv]
      rw [hv] at hlk
      rw [hmk] at HTK
      have hlk : (Instr.lookup 60 (.map (some w.heap.size)) (.agg #[.int .u32 pa, .int .i64 pn]) false).run Try.prog U1.drew = .ok (.int .i64 v) U1.drew := hlk
      have g0 : U1.drew.cell? ⟨w.heap.size + 1, 0, none⟩ = some (.map (some w.heap.size)) := (HBK4.out.next hb5).cell 0 (by simp)
      have y0 : U1.drew.cell? ⟨Q, 0, none⟩ = some (.int .u32 pa) := hx1.cell 0 (by simp)
      have y1 : U1.drew.cell? ⟨Q, 1, none⟩ = some (.int .i64 pn) := hx1.cell 1 (by simp)
      have hbu : Below U1.heap.size U1 (U1.alloc (.cells #[.int .u32 pa, .int .i64 pn, .int .i64 v] 67)).drew := (newB U1 _).drew
      have LIT := Lib.hid (show CtsAt (U1.alloc (.cells #[.int .u32 pa, .int .i64 pn, .int .i64 v] 67)).drew (some ⟨U1.heap.size, 0, none⟩) [⟨⟨pa, pn⟩, v⟩] from (((LOwn.lit rowCt U1 0 [(⟨⟨pa, pn⟩, v⟩ : Ct)] (fun y hy => by simp at hy; rw [hy]; exact hxi) (Nat.zero_le _) (by unfold maxLen; simp)).at rowCt).below (Below.refl _ _).drew))
      have OW := Lib.hid ((HOWN.out.below hn1).below hbu)
      have HBU := Lib.hid (hb5.trans (hbu.mono hb5.size))
      have HSZ := Lib.hid (show W4.heap.size ≤ (U1.alloc (.cells #[.int .u32 pa, .int .i64 pn, .int .i64 v] 67)).drew.heap.size from Nat.le_trans hb5.size hbu.size)
      have HUE := Lib.hid hU1
      have HQE := Lib.hid hQ
      clear hc hp hn1 hx1 hb5 hv hmk hbu hU1 hQ hat hxi
      go_wp2_with fail
      rw [HUE.out, HQE.out]
      go_region_law (refine step_appL (o := ⟨some 26, _, _, _, _, _⟩) rowCt (by kernel_rfl) (.tmp 19) (.tmp 25) rfl W4.heap.size q2 j cap2 _ OW.out rfl (some ⟨U1.heap.size, 0, none⟩) 1 1 [⟨⟨pa, pn⟩, v⟩] LIT.out rfl rfl (j + 1) rfl (by omega) HSZ.out ?_; intro q3 cap3 w3 hO3 hB3)
      all_goals
        clear g0 y0 y1 hlk
        go_wp2_with fail
        go_roundw
        case rel => exact ⟨j + 1, q3, cap3, by omega, by go_num, rfl, by rw [HTK.out]; exact hO3.out, HBU.out.trans hB3.out⟩
        case measure => simp [intOf]; omega
    · obtain rfl : j = k := by omega
      go_wp2_with fail
      go_ret
      have ho := HOWN.out
      rw [List.take_of_length_le (by rw [HK.out]; exact Nat.le_refl _)] at ho
      exact ⟨q2, j, cap2, _, rfl, by rw [List.length_map]; exact HK.out, hkl, hcap.1, ho.at rowCt, dem_of HOK.out HX.out HSS.out.srt HSS.out.mem, HB4.out.trans (HBR.out.mono HB4.out.size), fun b off e => Nat.le_trans HB4.out.size (ho.lo b off e)⟩
end Go.Proofs.Ytgididkpgncdjaa
