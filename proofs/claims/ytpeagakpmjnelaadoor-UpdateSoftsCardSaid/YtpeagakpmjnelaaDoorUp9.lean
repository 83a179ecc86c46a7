/- update: Get. -/
import Derived.Test.YtpeagakpmjnelaaDoorUp8
namespace Go.Proofs.YtpeagakpmjnelaaDoor.Ax
open Go.RowKit
set_option maxRecDepth 100000
set_option linter.unusedVariables false
set_option linter.unusedSimpArgs false

/-- What goes, what is said, what comes, as bytes. -/
def s1U (xs : List Int) : Option (List Int) := numNext (some xs) 2
def goneB (xs : List Int) : List Int := outV (s1U xs) (numV (some xs) 2)
def s2U (xs : List Int) : Option (List Int) := nextV (s1U xs) (numV (some xs) 2)
def s3U (xs : List Int) : Option (List Int) := numNext (s2U xs) 2
def saidB (xs : List Int) : List Int := outV (s3U xs) (numV (s2U xs) 2)
def s4U (xs : List Int) : Option (List Int) := nextV (s3U xs) (numV (s2U xs) 2)
def Upd.zero : Upd := ⟨[], [], At.zero, false⟩
def getU (xs : List Int) (four paths : Bool) : Upd × Int × Int := match s4U xs with
  | none => (Upd.zero, 3, 1)
  | some r => match getNls paths (goneB xs), getNls paths r with
    | some goes, some comes => (toldU goes comes (getA (saidB xs) four), 0, 0)
    | _, _ => (Upd.zero, 3, 10)
theorem wrong_any (s : Int) (w : World) :
    Calls Tryd.prog 35 #[.int .i64 s] w fun e w' => e = .returned (.agg #[.int .i64 3, .int .i64 s, .slice none 0 0]) ∧ Below w.heap.size w w' := by
  have HX := Lib.hid (Blk.new w 41 [.int .i64 3, .int .i64 s, .slice none 0 0])
  have HB := Lib.hid (newB w (.cells #[.int .i64 3, .int .i64 s, .slice none 0 0] 41))
  go_enter Tryd.func35, Tryd.ntmps35
  go_wp2_with fail
  have t0 := HX.out.cell 0 (by simp)
  have t1 := HX.out.cell 1 (by simp)
  have t2 := HX.out.cell 2 (by simp)
  exact bodyPost_ret (v := .agg #[.int .i64 3, .int .i64 s, .slice none 0 0]) (by simp [results, Tryd.results35, go_sem, t0, t1, t2]) rfl ⟨rfl, HB.out⟩
theorem outV_len' (s : Option (List Int)) (n : Int) (k : Nat) (h : ∀ xs, s = some xs → xs.length ≤ k) : (outV s n).length ≤ k := outV_le s n k h
/-- What lies in memory while a body is read. -/
structure GU (w wr : World) (P gr : Nat) (s : Option (List Int)) : Prop where
  intro ::
  up : Blk wr P 29 [.slice none 0 0, .slice none 0 0, .int .i64 0, .slice none 0 0, .int .u32 0, .int .i64 0, .int .i64 0, .slice none 0 0, .bool false]
  nt : Blk wr (P + 1) 41 [.int .i64 0, .int .i64 0, .slice none 0 0]
  rd : RdAt wr gr s
  bel : Below w.heap.size w wr
  hP : w.heap.size = P
  lt : P + 1 < gr
theorem GU.turn {w wr w' : World} {P gr : Nat} {s s' : Option (List Int)} (h : GU w wr P gr s) (hr : RdAt w' gr s') (hg : wr.grownBy w' (some gr)) : GU w w' P gr s' :=
  have hlt := h.lt
  have hP := h.hP
  ⟨h.up.grown (by omega) hg, h.nt.grown (by omega) hg, hr, below_new h.bel hg (by omega) h.bel.size, h.hP, h.lt⟩
theorem GU.below {w wr w' : World} {P gr : Nat} {s : Option (List Int)} (h : GU w wr P gr s) (hb : Below wr.heap.size wr w') : GU w w' P gr s :=
  ⟨h.up.next hb, h.nt.next hb, h.rd.below hb, h.bel.trans (hb.mono h.bel.size), h.hP, h.lt⟩
/-- A row of bytes that stands. -/
structure BR (w : World) (q gr : Nat) (ys : List Int) : Prop where
  intro ::
  row : BRow w q ys
  byte : InByte ys
  ne : q ≠ gr
theorem BR.turn {w w' : World} {q gr : Nat} {ys : List Int} (h : BR w q gr ys) (hg : w.grownBy w' (some gr)) : BR w' q gr ys := ⟨h.row.grown h.ne hg, h.byte, h.ne⟩
theorem BR.below {w w' : World} {q gr : Nat} {ys : List Int} (h : BR w q gr ys) (hb : Below w.heap.size w w') : BR w' q gr ys := ⟨World.rowIs.of_block h.row (hb.block _ (World.rowIs.lt h.row)), h.byte, h.ne⟩
theorem BR.bytes {w : World} {q gr : Nat} {ys : List Int} (h : BR w q gr ys) : BytesAt w (some ⟨q, 0, none⟩) ys := BRow.bytes h.row h.byte
theorem nextV_le (s : Option (List Int)) (n : Int) (k : Nat) (h : ∀ ys, s = some ys → ys.length ≤ k) : ∀ ys, nextV s n = some ys → ys.length ≤ k := by
  intro ys hy
  unfold nextV at hy
  split at hy
  · cases s with
    | none => rename_i hk; simp [okTake] at hk
    | some zs =>
      have := h zs rfl
      cases hy
      simp
      omega
  · cases hy
theorem numNext_le (s : Option (List Int)) (n : Int) (k : Nat) (h : ∀ ys, s = some ys → ys.length ≤ k) : ∀ ys, numNext s n = some ys → ys.length ≤ k := by
  intro ys hy
  unfold numNext at hy
  split at hy
  · exact nextV_le s n k h ys hy
  · cases hy
theorem s1U_le (xs : List Int) : ∀ ys, s1U xs = some ys → ys.length ≤ xs.length := numNext_le _ _ _ fun ys h => by cases h; exact Nat.le_refl _
theorem s2U_le (xs : List Int) : ∀ ys, s2U xs = some ys → ys.length ≤ xs.length := nextV_le _ _ _ (s1U_le xs)
theorem s3U_le (xs : List Int) : ∀ ys, s3U xs = some ys → ys.length ≤ xs.length := numNext_le _ _ _ (s2U_le xs)
theorem goneB_le (xs : List Int) : (goneB xs).length ≤ xs.length := outV_le _ _ _ (s1U_le xs)
theorem saidB_le (xs : List Int) : (saidB xs).length ≤ xs.length := outV_le _ _ _ (s3U_le xs)
theorem gb3 (w : World) (P : Nat) (a b c : Value) : w.grownBy (((w.setCell ⟨P, 0, none⟩ (a)).setCell ⟨P, 1, none⟩ (b)).setCell ⟨P, 2, none⟩ (c)) (some P) :=
  gb_trans (gb_trans (gb_set w ⟨P, 0, none⟩ a) (gb_set _ ⟨P, 1, none⟩ b)) (gb_set _ ⟨P, 2, none⟩ c)
theorem below3 {B P : Nat} {W w : World} (h : Below B W w) (hP : B ≤ P) (a b c : Value) : Below B W (((w.setCell ⟨P, 0, none⟩ (a)).setCell ⟨P, 1, none⟩ (b)).setCell ⟨P, 2, none⟩ (c)) := ((h.setCell hP _).setCell hP _).setCell hP _
theorem NlsOwn_turn {w w' : World} {B n cap gr : Nat} {q : Option Addr} {l : List Nl} (h : NlsOwn w B q n cap l) (hB : gr < B) (hg : w.grownBy w' (some gr)) : NlsOwn w' B q n cap l :=
  ⟨h.len, h.addr, h.row.kept hg (by
    rcases hv : (Value.slice q n cap).ownBlock with _ | z
    · exact .inl rfl
    · have := row_block h.row z hv
      exact .inr (by simp; omega))⟩
theorem getNl_len (paths : Bool) : ∀ (f k : Nat) (xs : List Int) (l : List Nl), getNl paths f k xs = some l → k ≤ 1024 → k + l.length ≤ 1024
  | 0, k, xs, l, h, hk => by
    unfold getNl at h
    cases h
    simpa using hk
  | f + 1, k, xs, l, h, hk => by
    unfold getNl at h
    split at h
    · cases h; simpa using hk
    · split at h
      · cases h
      · split at h
        · cases h
        · obtain ⟨m, hm, rfl⟩ := Option.map_eq_some_iff.1 h
          have := getNl_len paths f (k + 1) _ m hm (by omega)
          simp only [List.length_cons]
          omega
/-- nlri.Get, one way for both. -/
theorem getNl_to (q : Nat) (xs : List Int) (n : Nat) (paths : Bool) (w : World) (hb : BytesAt w (some ⟨q, 0, none⟩) xs) (hn : xs.length = n) (hm : n ≤ 140737488355328) :
    Calls Tryd.prog 36 #[.slice (some ⟨q, 0, none⟩) n n, .bool paths] w fun e w' => ∃ p m c en l, e = .returned (.tuple #[.slice p m c, .int .i64 en]) ∧ NlsOwn w' w.heap.size p m c l ∧ (∀ l', getNls paths xs = some l' → l = l' ∧ en = 0) ∧ (getNls paths xs = none → en = 60) ∧ Below w.heap.size w w' := by
  refine (getNl_any (some ⟨q, 0, none⟩) xs n n paths w hb hn (Nat.le_refl _) (by unfold maxLen; omega)).mono ?_
  intro e w' h
  unfold NlsTo at h
  rcases hr : getNls paths xs with _ | l
  · rw [hr] at h
    exact ⟨none, 0, 0, 60, [], h.1, NlsOwn.nil _ _, fun l' hl => by simp at hl, fun _ => rfl, h.2⟩
  · rw [hr] at h
    obtain ⟨p, c, he, ho, hb⟩ := h
    exact ⟨p, _, c, 0, l, he, ho, fun l' hl => ⟨by simpa using hl, rfl⟩, fun hl => by simp at hl, hb⟩
set_option maxHeartbeats 16000000 in
theorem getU_any (p : Option Addr) (xs : List Int) (n c : Nat) (four paths : Bool) (w : World) (ht : Tab w) (hb : BytesAt w p xs) (hn : xs.length = n) (hl : n ≤ 100000) :
    Calls Tryd.prog 12 #[.slice p n c, .bool four, .bool paths] w fun e w' => ∃ ul, e = .returned (.tuple #[.agg (updL (getU xs four paths).1 ul).toArray, .agg #[.int .i64 (getU xs four paths).2.1, .int .i64 (getU xs four paths).2.2, .slice none 0 0]]) ∧ UOwn w' (getU xs four paths).1 ul ∧ Below w.heap.size w w' := by
  have hA := two_below w (.cells #[.slice none 0 0, .slice none 0 0, .int .i64 0, .slice none 0 0, .int .u32 0, .int .i64 0, .int .i64 0, .slice none 0 0, .bool false] 29) (.cells #[.int .i64 0, .int .i64 0, .slice none 0 0] 41)
  have hX := (Blk.new w 29 [.slice none 0 0, .slice none 0 0, .int .i64 0, .slice none 0 0, .int .u32 0, .int .i64 0, .int .i64 0, .slice none 0 0, .bool false]).alloc (.cells #[.int .i64 0, .int .i64 0, .slice none 0 0] 41)
  have hR := Blk.new (w.alloc (.cells #[.slice none 0 0, .slice none 0 0, .int .i64 0, .slice none 0 0, .int .u32 0, .int .i64 0, .int .i64 0, .slice none 0 0, .bool false] 29)) 41 [.int .i64 0, .int .i64 0, .slice none 0 0]
  rw [sz_alloc] at hR
  obtain ⟨V, hV⟩ : ∃ V, (w.alloc (.cells #[.slice none 0 0, .slice none 0 0, .int .i64 0, .slice none 0 0, .int .u32 0, .int .i64 0, .int .i64 0, .slice none 0 0, .bool false] 29)).alloc (.cells #[.int .i64 0, .int .i64 0, .slice none 0 0] 41) = V := ⟨_, rfl⟩
  obtain ⟨P, hP⟩ : ∃ P, w.heap.size = P := ⟨_, rfl⟩
  have hX : Blk V P 29 [.slice none 0 0, .slice none 0 0, .int .i64 0, .slice none 0 0, .int .u32 0, .int .i64 0, .int .i64 0, .slice none 0 0, .bool false] := hP ▸ hV ▸ hX
  have hR : Blk V (P + 1) 41 [.int .i64 0, .int .i64 0, .slice none 0 0] := hP ▸ hV ▸ hR
  rw [hV] at hA
  have HA := Lib.hid hA
  have HX := Lib.hid hX
  have HRN := Lib.hid hR
  have HV := Lib.hid hV
  have HPE := Lib.hid hP
  have HT := Lib.hid ht
  have HNL := Lib.hid hn
  have HF := Lib.hid (show Calls Tryd.prog 31 #[.slice p n c] V fun e w' => NewAt V w' e (fun g => RdAt w' g (some xs)) by subst hn; exact from_any p xs c V (by omega) (hb.below hA))
  have HOL := Lib.hid (show ∀ (s : Option (List Int)) (k : Int), (∀ ys, s = some ys → ys.length ≤ 140737488355328) → (outV s k).length ≤ 140737488355328 from fun s k h => outV_le s k _ h)
  obtain ⟨R, hRR⟩ : ∃ R, getU xs four paths = R := ⟨_, rfl⟩
  rw [hRR]
  have HR0 := Lib.hid hRR
  clear hX hR hA hV hP ht hb hn hRR
  go_enter Tryd.func12, Tryd.ntmps12
  go_wp2_with fail
  rw [HV.out, HPE.out]
  refine HF.out.mono ?_
  rintro e w1 ⟨gr, rfl, hgr, hrd, hb⟩
  have hlt : P + 1 < gr := Nat.lt_of_lt_of_le HRN.out.lt hgr
  have G1 := Lib.hid (show GU w w1 P gr (some xs) from ⟨HX.out.next hb, HRN.out.next hb, hrd, HA.out.trans (hb.mono HA.out.size), HPE.out, hlt⟩)
  clear hgr hrd hb hlt HF
  have HN1 := Lib.hid (num_any w1 gr (some xs) 2 G1.out.rd)
  go_wp2_with fail
  refine HN1.out.mono ?_
  rintro e w2 ⟨rfl, hrd, hg⟩
  have G2 := Lib.hid (show GU w w2 P gr (s1U xs) from G1.out.turn hrd hg)
  obtain ⟨v1, hv1⟩ : ∃ v, numV (some xs) 2 = v := ⟨_, rfl⟩
  have HV1 := Lib.hid hv1
  rw [hv1]
  clear hrd hg hv1 HN1
  have HN2 := Lib.hid (bytes_any w2 gr (s1U xs) v1 G2.out.rd)
  go_wp2_with fail
  refine HN2.out.mono ?_
  rintro e w3 ⟨q3, rfl, hrow, hby, hq, hqs, hrd, hg⟩
  have G3 := Lib.hid (show GU w w3 P gr (s2U xs) from G2.out.turn (by have := HV1.out; subst this; exact hrd) hg)
  have BG3 := Lib.hid (show BR w3 q3 gr (goneB xs) from by have := HV1.out; subst this; exact ⟨hrow, hby, hq⟩)
  have hgl : (outV (s1U xs) v1) = goneB xs := by have := HV1.out; subst this; rfl
  rw [hgl]
  obtain ⟨m3, hm3⟩ : ∃ m, (goneB xs).length = m := ⟨_, rfl⟩
  have HM3 := Lib.hid hm3
  rw [hm3]
  clear hrow hby hq hqs hrd hg hgl hm3 HN2
  have HN3 := Lib.hid (num_any w3 gr (s2U xs) 2 G3.out.rd)
  go_wp2_with fail
  refine HN3.out.mono ?_
  rintro e w4 ⟨rfl, hrd, hg⟩
  have G4 := Lib.hid (show GU w w4 P gr (s3U xs) from G3.out.turn hrd hg)
  have BG4 := Lib.hid (BG3.out.turn hg)
  obtain ⟨v2, hv2⟩ : ∃ v, numV (s2U xs) 2 = v := ⟨_, rfl⟩
  have HV2 := Lib.hid hv2
  rw [hv2]
  clear hrd hg hv2 HN3
  have HN4 := Lib.hid (bytes_any w4 gr (s3U xs) v2 G4.out.rd)
  go_wp2_with fail
  refine HN4.out.mono ?_
  rintro e w5 ⟨q5, rfl, hrow, hby, hq, hqs, hrd, hg⟩
  have G5 := Lib.hid (show GU w w5 P gr (s4U xs) from G4.out.turn (by have := HV2.out; subst this; exact hrd) hg)
  have BG5 := Lib.hid (BG4.out.turn hg)
  have BS5 := Lib.hid (show BR w5 q5 gr (saidB xs) from by have := HV2.out; subst this; exact ⟨hrow, hby, hq⟩)
  have hgl : (outV (s3U xs) v2) = saidB xs := by have := HV2.out; subst this; rfl
  rw [hgl]
  obtain ⟨m5, hm5⟩ : ∃ m, (saidB xs).length = m := ⟨_, rfl⟩
  have HM5 := Lib.hid hm5
  rw [hm5]
  clear hrow hby hq hqs hrd hg hgl hm5 HN4
  have HBD := Lib.hid (bad_any w5 gr (s4U xs) G5.out.rd)
  obtain ⟨s4, hs4⟩ : ∃ s, s4U xs = s := ⟨_, rfl⟩
  have HS4 := Lib.hid hs4
  rw [hs4] at HBD
  have G5 : Hid (GU w w5 P gr s4) := hs4 ▸ G5
  clear hs4
  go_wp2_with fail
  refine HBD.out.mono ?_
  rintro e w6 ⟨rfl, rfl⟩
  rcases s4 with _ | r
  · have HRR := Lib.hid (show R = (Upd.zero, 3, 1) by rw [← HR0.out]; unfold getU; rw [HS4.out])
    have HWR := Lib.hid (wrong_any 1 w5)
    go_wp2_with fail
    refine HWR.out.mono ?_
    rintro e w6 ⟨rfl, hb⟩
    have G6 := Lib.hid (G5.out.below hb)
    clear hb HWR
    have p0 : w6.cell? ⟨P, 0, none⟩ = some (.slice none 0 0) := G6.out.up.cell 0 (by simp)
    have p1 : w6.cell? ⟨P, 1, none⟩ = some (.slice none 0 0) := G6.out.up.cell 1 (by simp)
    have p2 : w6.cell? ⟨P, 2, none⟩ = some (.int .i64 0) := G6.out.up.cell 2 (by simp)
    have p3 : w6.cell? ⟨P, 3, none⟩ = some (.slice none 0 0) := G6.out.up.cell 3 (by simp)
    have p4 : w6.cell? ⟨P, 4, none⟩ = some (.int .u32 0) := G6.out.up.cell 4 (by simp)
    have p5 : w6.cell? ⟨P, 5, none⟩ = some (.int .i64 0) := G6.out.up.cell 5 (by simp)
    have p6 : w6.cell? ⟨P, 6, none⟩ = some (.int .i64 0) := G6.out.up.cell 6 (by simp)
    have p7 : w6.cell? ⟨P, 7, none⟩ = some (.slice none 0 0) := G6.out.up.cell 7 (by simp)
    have p8 : w6.cell? ⟨P, 8, none⟩ = some (.bool false) := G6.out.up.cell 8 (by simp)
    have f0 : w6.frozen? ⟨P, 0, none⟩ = false := G6.out.up.f 0
    have f1 : w6.frozen? ⟨P, 1, none⟩ = false := G6.out.up.f 1
    have f2 : w6.frozen? ⟨P, 2, none⟩ = false := G6.out.up.f 2
    have f3 : w6.frozen? ⟨P, 3, none⟩ = false := G6.out.up.f 3
    have f4 : w6.frozen? ⟨P, 4, none⟩ = false := G6.out.up.f 4
    have f5 : w6.frozen? ⟨P, 5, none⟩ = false := G6.out.up.f 5
    have f6 : w6.frozen? ⟨P, 6, none⟩ = false := G6.out.up.f 6
    have f7 : w6.frozen? ⟨P, 7, none⟩ = false := G6.out.up.f 7
    have f8 : w6.frozen? ⟨P, 8, none⟩ = false := G6.out.up.f 8
    have n0 : w6.cell? ⟨P + 1, 0, none⟩ = some (.int .i64 0) := G6.out.nt.cell 0 (by simp)
    have n1 : w6.cell? ⟨P + 1, 1, none⟩ = some (.int .i64 0) := G6.out.nt.cell 1 (by simp)
    have n2 : w6.cell? ⟨P + 1, 2, none⟩ = some (.slice none 0 0) := G6.out.nt.cell 2 (by simp)
    have g0 : w6.frozen? ⟨P + 1, 0, none⟩ = false := G6.out.nt.f 0
    have g1 : w6.frozen? ⟨P + 1, 1, none⟩ = false := G6.out.nt.f 1
    have g2 : w6.frozen? ⟨P + 1, 2, none⟩ = false := G6.out.nt.f 2
    go_wp2_with fail
    have t0 := at9_0 G6.out.up (.slice none 0 0)
    have t1 := at9_1 G6.out.up (.slice none 0 0) (.slice none 0 0)
    have t2 := at9_2 G6.out.up (.slice none 0 0) (.slice none 0 0) (.int .i64 0)
    have t3 := at9_3 G6.out.up (.slice none 0 0) (.slice none 0 0) (.int .i64 0) (.slice none 0 0)
    have t4 := at9_4 G6.out.up (.slice none 0 0) (.slice none 0 0) (.int .i64 0) (.slice none 0 0) (.int .u32 0)
    have t5 := at9_5 G6.out.up (.slice none 0 0) (.slice none 0 0) (.int .i64 0) (.slice none 0 0) (.int .u32 0) (.int .i64 0)
    have t6 := at9_6 G6.out.up (.slice none 0 0) (.slice none 0 0) (.int .i64 0) (.slice none 0 0) (.int .u32 0) (.int .i64 0) (.int .i64 0)
    have t7 := at9_7 G6.out.up (.slice none 0 0) (.slice none 0 0) (.int .i64 0) (.slice none 0 0) (.int .u32 0) (.int .i64 0) (.int .i64 0) (.slice none 0 0)
    have t8 := at9_8 G6.out.up (.slice none 0 0) (.slice none 0 0) (.int .i64 0) (.slice none 0 0) (.int .u32 0) (.int .i64 0) (.int .i64 0) (.slice none 0 0) (.bool false)
    have HN9 := Lib.hid (show Blk (((((((((w6.setCell ⟨P, 0, none⟩ (.slice none 0 0)).setCell ⟨P, 1, none⟩ (.slice none 0 0)).setCell ⟨P, 2, none⟩ (.int .i64 0)).setCell ⟨P, 3, none⟩ (.slice none 0 0)).setCell ⟨P, 4, none⟩ (.int .u32 0)).setCell ⟨P, 5, none⟩ (.int .i64 0)).setCell ⟨P, 6, none⟩ (.int .i64 0)).setCell ⟨P, 7, none⟩ (.slice none 0 0)).setCell ⟨P, 8, none⟩ (.bool false)) (P + 1) 41 [.int .i64 0, .int .i64 0, .slice none 0 0] from (((((((((G6.out.nt.setOther (a := ⟨P, 0, none⟩) (by show P + 1 ≠ P; omega) (.slice none 0 0)).setOther (a := ⟨P, 1, none⟩) (by show P + 1 ≠ P; omega) (.slice none 0 0)).setOther (a := ⟨P, 2, none⟩) (by show P + 1 ≠ P; omega) (.int .i64 0)).setOther (a := ⟨P, 3, none⟩) (by show P + 1 ≠ P; omega) (.slice none 0 0)).setOther (a := ⟨P, 4, none⟩) (by show P + 1 ≠ P; omega) (.int .u32 0)).setOther (a := ⟨P, 5, none⟩) (by show P + 1 ≠ P; omega) (.int .i64 0)).setOther (a := ⟨P, 6, none⟩) (by show P + 1 ≠ P; omega) (.int .i64 0)).setOther (a := ⟨P, 7, none⟩) (by show P + 1 ≠ P; omega) (.slice none 0 0)).setOther (a := ⟨P, 8, none⟩) (by show P + 1 ≠ P; omega) (.bool false)))
    have m0 : ((((((((((w6.setCell ⟨P, 0, none⟩ (.slice none 0 0)).setCell ⟨P, 1, none⟩ (.slice none 0 0)).setCell ⟨P, 2, none⟩ (.int .i64 0)).setCell ⟨P, 3, none⟩ (.slice none 0 0)).setCell ⟨P, 4, none⟩ (.int .u32 0)).setCell ⟨P, 5, none⟩ (.int .i64 0)).setCell ⟨P, 6, none⟩ (.int .i64 0)).setCell ⟨P, 7, none⟩ (.slice none 0 0)).setCell ⟨P, 8, none⟩ (.bool false)).setCell ⟨P + 1, 0, none⟩ (.int .i64 3)).cell? ⟨P + 1, 0, none⟩ = some (.int .i64 3) := (HN9.out.set 0 (.int .i64 3)).cell 0 (by simp)
    have m1 : (((((((((((w6.setCell ⟨P, 0, none⟩ (.slice none 0 0)).setCell ⟨P, 1, none⟩ (.slice none 0 0)).setCell ⟨P, 2, none⟩ (.int .i64 0)).setCell ⟨P, 3, none⟩ (.slice none 0 0)).setCell ⟨P, 4, none⟩ (.int .u32 0)).setCell ⟨P, 5, none⟩ (.int .i64 0)).setCell ⟨P, 6, none⟩ (.int .i64 0)).setCell ⟨P, 7, none⟩ (.slice none 0 0)).setCell ⟨P, 8, none⟩ (.bool false)).setCell ⟨P + 1, 0, none⟩ (.int .i64 3)).setCell ⟨P + 1, 1, none⟩ (.int .i64 1)).cell? ⟨P + 1, 1, none⟩ = some (.int .i64 1) := ((HN9.out.set 0 (.int .i64 3)).set 1 (.int .i64 1)).cell 1 (by simp)
    have m2 : ((((((((((((w6.setCell ⟨P, 0, none⟩ (.slice none 0 0)).setCell ⟨P, 1, none⟩ (.slice none 0 0)).setCell ⟨P, 2, none⟩ (.int .i64 0)).setCell ⟨P, 3, none⟩ (.slice none 0 0)).setCell ⟨P, 4, none⟩ (.int .u32 0)).setCell ⟨P, 5, none⟩ (.int .i64 0)).setCell ⟨P, 6, none⟩ (.int .i64 0)).setCell ⟨P, 7, none⟩ (.slice none 0 0)).setCell ⟨P, 8, none⟩ (.bool false)).setCell ⟨P + 1, 0, none⟩ (.int .i64 3)).setCell ⟨P + 1, 1, none⟩ (.int .i64 1)).setCell ⟨P + 1, 2, none⟩ (.slice none 0 0)).cell? ⟨P + 1, 2, none⟩ = some (.slice none 0 0) := (((HN9.out.set 0 (.int .i64 3)).set 1 (.int .i64 1)).set 2 (.slice none 0 0)).cell 2 (by simp)
    exact bodyPost_ret (v := .tuple #[.agg #[.slice none 0 0, .slice none 0 0, .int .i64 0, .slice none 0 0, .int .u32 0, .int .i64 0, .int .i64 0, .slice none 0 0, .bool false], .agg #[.int .i64 3, .int .i64 1, .slice none 0 0]]) (by simp [results, Tryd.results12, go_sem, t0, t1, t2, t3, t4, t5, t6, t7, t8, m0, m1, m2]) rfl ⟨⟨none, 0, 0, none, 0, 0, Loc.zero⟩, by rw [HRR.out]; rfl, (by rw [HRR.out]; exact UOwn.past (w := (((((((((w6.setCell ⟨P, 0, none⟩ (.slice none 0 0)).setCell ⟨P, 1, none⟩ (.slice none 0 0)).setCell ⟨P, 2, none⟩ (.int .i64 0)).setCell ⟨P, 3, none⟩ (.slice none 0 0)).setCell ⟨P, 4, none⟩ (.int .u32 0)).setCell ⟨P, 5, none⟩ (.int .i64 0)).setCell ⟨P, 6, none⟩ (.int .i64 0)).setCell ⟨P, 7, none⟩ (.slice none 0 0)).setCell ⟨P, 8, none⟩ (.bool false))) (UOwn.past (w := w6) ⟨⟨0, NlsOwn.nil _ _⟩, ⟨0, NlsOwn.nil _ _⟩, 0, zeroOwn _ _⟩ G6.out.up ne_upd (gb9 _ _ _ _ _ _ _ _ _ _ _)) HN9.out ne_note (gb3 _ _ _ _ _)), below3 (below9 G6.out.bel (Nat.le_of_eq HPE.out) _ _ _ _ _ _ _ _ _) (by rw [HPE.out]; exact Nat.le_succ P) _ _ _⟩
  · have hm3l : m3 ≤ 140737488355328 := by
      rw [← HM3.out]; exact Nat.le_trans (goneB_le xs) (by rw [HNL.out]; omega)
    have HG1 := Lib.hid (getNl_to q3 (goneB xs) m3 paths w5 BG5.out.bytes HM3.out hm3l)
    clear hm3l
    go_wp2_with fail
    refine HG1.out.mono ?_
    rintro e w6 ⟨p6, m6, c6, e6, l6, rfl, ho, hs6, hn6, hb⟩
    have HO6 := Lib.hid ho
    have HE6 := Lib.hid hs6
    have HF6 := Lib.hid hn6
    have G6 := Lib.hid (G5.out.below hb)
    have BS6 := Lib.hid (BS5.out.below hb)
    have HGR := Lib.hid (show gr < w5.heap.size from G5.out.rd.lt)
    have HB6 := Lib.hid hb
    clear ho hs6 hn6 hb HG1
    have HLF := Lib.hid (left_any w6 gr (some r) G6.out.rd)
    go_wp2_with fail
    refine HLF.out.mono ?_
    rintro e w7 ⟨rfl, rfl⟩
    have hrl : r.length ≤ 140737488355328 := G6.out.rd.len
    have HBY := Lib.hid (bytes_ok (leftV (some r)) r.length rfl (Nat.le_refl _) G6.out.rd)
    obtain ⟨rl, hrll⟩ : ∃ rl, leftV (some r) = rl := ⟨_, rfl⟩
    have HRLL := Lib.hid hrll
    rw [hrll] at HBY ⊢
    rw [show r.length = rl from hrll] at HBY hrl
    clear hrll
    go_wp2_with fail
    refine HBY.out.mono ?_
    rintro e w8 ⟨q8, rfl, hrow, hby, hln, hq, hqs, hrd, hg⟩
    have htk : r.take rl = r := List.take_of_length_le (by have := HRLL.out; show r.length ≤ rl; exact Nat.le_of_eq this)
    rw [htk] at hrow hby hln
    have G8 := Lib.hid (G6.out.turn hrd hg)
    have BR8 := Lib.hid (show BR w8 q8 gr r from ⟨hrow, hby, hq⟩)
    have BS8 := Lib.hid (BS6.out.turn hg)
    have HO8 := Lib.hid (NlsOwn_turn HO6.out HGR.out hg)
    have HLN8 := Lib.hid hln
    clear hrow hby hln hq hqs hrd hg htk HBY HLF
    have HG2 := Lib.hid (getNl_to q8 r rl paths w8 BR8.out.bytes HLN8.out hrl)
    clear hrl
    go_wp2_with fail
    refine HG2.out.mono ?_
    rintro e w9 ⟨p9, m9, c9, e9, l9, rfl, ho, hs9, hn9, hb⟩
    have HO9 := Lib.hid ho
    have HO69 := Lib.hid (HO8.out.below hb)
    have G9 := Lib.hid (G8.out.below hb)
    have BS9 := Lib.hid (BS8.out.below hb)
    clear ho hb HG2
    rcases hg1 : getNls paths (goneB xs) with _ | goes
    · obtain rfl : e6 = 60 := HF6.out hg1
      have HRR := Lib.hid (show R = (Upd.zero, 3, 10) by rw [← HR0.out]; unfold getU; rw [HS4.out]; simp only [hg1])
      clear hg1 hs9 hn9
      have HWR := Lib.hid (wrong_any 10 w9)
      go_wp2_with fail
      refine HWR.out.mono ?_
      rintro e w10 ⟨rfl, hb⟩
      have G10 := Lib.hid (G9.out.below hb)
      clear hb HWR
      have p0 : w10.cell? ⟨P, 0, none⟩ = some (.slice none 0 0) := G10.out.up.cell 0 (by simp)
      have p1 : w10.cell? ⟨P, 1, none⟩ = some (.slice none 0 0) := G10.out.up.cell 1 (by simp)
      have p2 : w10.cell? ⟨P, 2, none⟩ = some (.int .i64 0) := G10.out.up.cell 2 (by simp)
      have p3 : w10.cell? ⟨P, 3, none⟩ = some (.slice none 0 0) := G10.out.up.cell 3 (by simp)
      have p4 : w10.cell? ⟨P, 4, none⟩ = some (.int .u32 0) := G10.out.up.cell 4 (by simp)
      have p5 : w10.cell? ⟨P, 5, none⟩ = some (.int .i64 0) := G10.out.up.cell 5 (by simp)
      have p6 : w10.cell? ⟨P, 6, none⟩ = some (.int .i64 0) := G10.out.up.cell 6 (by simp)
      have p7 : w10.cell? ⟨P, 7, none⟩ = some (.slice none 0 0) := G10.out.up.cell 7 (by simp)
      have p8 : w10.cell? ⟨P, 8, none⟩ = some (.bool false) := G10.out.up.cell 8 (by simp)
      have f0 : w10.frozen? ⟨P, 0, none⟩ = false := G10.out.up.f 0
      have f1 : w10.frozen? ⟨P, 1, none⟩ = false := G10.out.up.f 1
      have f2 : w10.frozen? ⟨P, 2, none⟩ = false := G10.out.up.f 2
      have f3 : w10.frozen? ⟨P, 3, none⟩ = false := G10.out.up.f 3
      have f4 : w10.frozen? ⟨P, 4, none⟩ = false := G10.out.up.f 4
      have f5 : w10.frozen? ⟨P, 5, none⟩ = false := G10.out.up.f 5
      have f6 : w10.frozen? ⟨P, 6, none⟩ = false := G10.out.up.f 6
      have f7 : w10.frozen? ⟨P, 7, none⟩ = false := G10.out.up.f 7
      have f8 : w10.frozen? ⟨P, 8, none⟩ = false := G10.out.up.f 8
      have n0 : w10.cell? ⟨P + 1, 0, none⟩ = some (.int .i64 0) := G10.out.nt.cell 0 (by simp)
      have n1 : w10.cell? ⟨P + 1, 1, none⟩ = some (.int .i64 0) := G10.out.nt.cell 1 (by simp)
      have n2 : w10.cell? ⟨P + 1, 2, none⟩ = some (.slice none 0 0) := G10.out.nt.cell 2 (by simp)
      have g0 : w10.frozen? ⟨P + 1, 0, none⟩ = false := G10.out.nt.f 0
      have g1 : w10.frozen? ⟨P + 1, 1, none⟩ = false := G10.out.nt.f 1
      have g2 : w10.frozen? ⟨P + 1, 2, none⟩ = false := G10.out.nt.f 2
      go_wp2_with fail
      have t0 := at9_0 G10.out.up (.slice none 0 0)
      have t1 := at9_1 G10.out.up (.slice none 0 0) (.slice none 0 0)
      have t2 := at9_2 G10.out.up (.slice none 0 0) (.slice none 0 0) (.int .i64 0)
      have t3 := at9_3 G10.out.up (.slice none 0 0) (.slice none 0 0) (.int .i64 0) (.slice none 0 0)
      have t4 := at9_4 G10.out.up (.slice none 0 0) (.slice none 0 0) (.int .i64 0) (.slice none 0 0) (.int .u32 0)
      have t5 := at9_5 G10.out.up (.slice none 0 0) (.slice none 0 0) (.int .i64 0) (.slice none 0 0) (.int .u32 0) (.int .i64 0)
      have t6 := at9_6 G10.out.up (.slice none 0 0) (.slice none 0 0) (.int .i64 0) (.slice none 0 0) (.int .u32 0) (.int .i64 0) (.int .i64 0)
      have t7 := at9_7 G10.out.up (.slice none 0 0) (.slice none 0 0) (.int .i64 0) (.slice none 0 0) (.int .u32 0) (.int .i64 0) (.int .i64 0) (.slice none 0 0)
      have t8 := at9_8 G10.out.up (.slice none 0 0) (.slice none 0 0) (.int .i64 0) (.slice none 0 0) (.int .u32 0) (.int .i64 0) (.int .i64 0) (.slice none 0 0) (.bool false)
      have HN9 := Lib.hid (show Blk (((((((((w10.setCell ⟨P, 0, none⟩ (.slice none 0 0)).setCell ⟨P, 1, none⟩ (.slice none 0 0)).setCell ⟨P, 2, none⟩ (.int .i64 0)).setCell ⟨P, 3, none⟩ (.slice none 0 0)).setCell ⟨P, 4, none⟩ (.int .u32 0)).setCell ⟨P, 5, none⟩ (.int .i64 0)).setCell ⟨P, 6, none⟩ (.int .i64 0)).setCell ⟨P, 7, none⟩ (.slice none 0 0)).setCell ⟨P, 8, none⟩ (.bool false)) (P + 1) 41 [.int .i64 0, .int .i64 0, .slice none 0 0] from (((((((((G10.out.nt.setOther (a := ⟨P, 0, none⟩) (by show P + 1 ≠ P; omega) (.slice none 0 0)).setOther (a := ⟨P, 1, none⟩) (by show P + 1 ≠ P; omega) (.slice none 0 0)).setOther (a := ⟨P, 2, none⟩) (by show P + 1 ≠ P; omega) (.int .i64 0)).setOther (a := ⟨P, 3, none⟩) (by show P + 1 ≠ P; omega) (.slice none 0 0)).setOther (a := ⟨P, 4, none⟩) (by show P + 1 ≠ P; omega) (.int .u32 0)).setOther (a := ⟨P, 5, none⟩) (by show P + 1 ≠ P; omega) (.int .i64 0)).setOther (a := ⟨P, 6, none⟩) (by show P + 1 ≠ P; omega) (.int .i64 0)).setOther (a := ⟨P, 7, none⟩) (by show P + 1 ≠ P; omega) (.slice none 0 0)).setOther (a := ⟨P, 8, none⟩) (by show P + 1 ≠ P; omega) (.bool false)))
      have m0 : ((((((((((w10.setCell ⟨P, 0, none⟩ (.slice none 0 0)).setCell ⟨P, 1, none⟩ (.slice none 0 0)).setCell ⟨P, 2, none⟩ (.int .i64 0)).setCell ⟨P, 3, none⟩ (.slice none 0 0)).setCell ⟨P, 4, none⟩ (.int .u32 0)).setCell ⟨P, 5, none⟩ (.int .i64 0)).setCell ⟨P, 6, none⟩ (.int .i64 0)).setCell ⟨P, 7, none⟩ (.slice none 0 0)).setCell ⟨P, 8, none⟩ (.bool false)).setCell ⟨P + 1, 0, none⟩ (.int .i64 3)).cell? ⟨P + 1, 0, none⟩ = some (.int .i64 3) := (HN9.out.set 0 (.int .i64 3)).cell 0 (by simp)
      have m1 : (((((((((((w10.setCell ⟨P, 0, none⟩ (.slice none 0 0)).setCell ⟨P, 1, none⟩ (.slice none 0 0)).setCell ⟨P, 2, none⟩ (.int .i64 0)).setCell ⟨P, 3, none⟩ (.slice none 0 0)).setCell ⟨P, 4, none⟩ (.int .u32 0)).setCell ⟨P, 5, none⟩ (.int .i64 0)).setCell ⟨P, 6, none⟩ (.int .i64 0)).setCell ⟨P, 7, none⟩ (.slice none 0 0)).setCell ⟨P, 8, none⟩ (.bool false)).setCell ⟨P + 1, 0, none⟩ (.int .i64 3)).setCell ⟨P + 1, 1, none⟩ (.int .i64 10)).cell? ⟨P + 1, 1, none⟩ = some (.int .i64 10) := ((HN9.out.set 0 (.int .i64 3)).set 1 (.int .i64 10)).cell 1 (by simp)
      have m2 : ((((((((((((w10.setCell ⟨P, 0, none⟩ (.slice none 0 0)).setCell ⟨P, 1, none⟩ (.slice none 0 0)).setCell ⟨P, 2, none⟩ (.int .i64 0)).setCell ⟨P, 3, none⟩ (.slice none 0 0)).setCell ⟨P, 4, none⟩ (.int .u32 0)).setCell ⟨P, 5, none⟩ (.int .i64 0)).setCell ⟨P, 6, none⟩ (.int .i64 0)).setCell ⟨P, 7, none⟩ (.slice none 0 0)).setCell ⟨P, 8, none⟩ (.bool false)).setCell ⟨P + 1, 0, none⟩ (.int .i64 3)).setCell ⟨P + 1, 1, none⟩ (.int .i64 10)).setCell ⟨P + 1, 2, none⟩ (.slice none 0 0)).cell? ⟨P + 1, 2, none⟩ = some (.slice none 0 0) := (((HN9.out.set 0 (.int .i64 3)).set 1 (.int .i64 10)).set 2 (.slice none 0 0)).cell 2 (by simp)
      exact bodyPost_ret (v := .tuple #[.agg #[.slice none 0 0, .slice none 0 0, .int .i64 0, .slice none 0 0, .int .u32 0, .int .i64 0, .int .i64 0, .slice none 0 0, .bool false], .agg #[.int .i64 3, .int .i64 10, .slice none 0 0]]) (by simp [results, Tryd.results12, go_sem, t0, t1, t2, t3, t4, t5, t6, t7, t8, m0, m1, m2]) rfl ⟨⟨none, 0, 0, none, 0, 0, Loc.zero⟩, by rw [HRR.out]; rfl, (by rw [HRR.out]; exact UOwn.past (w := (((((((((w10.setCell ⟨P, 0, none⟩ (.slice none 0 0)).setCell ⟨P, 1, none⟩ (.slice none 0 0)).setCell ⟨P, 2, none⟩ (.int .i64 0)).setCell ⟨P, 3, none⟩ (.slice none 0 0)).setCell ⟨P, 4, none⟩ (.int .u32 0)).setCell ⟨P, 5, none⟩ (.int .i64 0)).setCell ⟨P, 6, none⟩ (.int .i64 0)).setCell ⟨P, 7, none⟩ (.slice none 0 0)).setCell ⟨P, 8, none⟩ (.bool false))) (UOwn.past (w := w10) ⟨⟨0, NlsOwn.nil _ _⟩, ⟨0, NlsOwn.nil _ _⟩, 0, zeroOwn _ _⟩ G10.out.up ne_upd (gb9 _ _ _ _ _ _ _ _ _ _ _)) HN9.out ne_note (gb3 _ _ _ _ _)), below3 (below9 G10.out.bel (Nat.le_of_eq HPE.out) _ _ _ _ _ _ _ _ _) (by rw [HPE.out]; exact Nat.le_succ P) _ _ _⟩
    · obtain ⟨rfl, rfl⟩ := HE6.out goes hg1
      rcases hg2 : getNls paths r with _ | comes
      · obtain rfl : e9 = 60 := hn9 hg2
        have HRR := Lib.hid (show R = (Upd.zero, 3, 10) by rw [← HR0.out]; unfold getU; rw [HS4.out]; simp only [hg1, hg2])
        clear hg1 hg2 hs9 hn9
        have HWR := Lib.hid (wrong_any 10 w9)
        go_wp2_with fail
        refine HWR.out.mono ?_
        rintro e w10 ⟨rfl, hb⟩
        have G10 := Lib.hid (G9.out.below hb)
        clear hb HWR
        have p0 : w10.cell? ⟨P, 0, none⟩ = some (.slice none 0 0) := G10.out.up.cell 0 (by simp)
        have p1 : w10.cell? ⟨P, 1, none⟩ = some (.slice none 0 0) := G10.out.up.cell 1 (by simp)
        have p2 : w10.cell? ⟨P, 2, none⟩ = some (.int .i64 0) := G10.out.up.cell 2 (by simp)
        have p3 : w10.cell? ⟨P, 3, none⟩ = some (.slice none 0 0) := G10.out.up.cell 3 (by simp)
        have p4 : w10.cell? ⟨P, 4, none⟩ = some (.int .u32 0) := G10.out.up.cell 4 (by simp)
        have p5 : w10.cell? ⟨P, 5, none⟩ = some (.int .i64 0) := G10.out.up.cell 5 (by simp)
        have p6 : w10.cell? ⟨P, 6, none⟩ = some (.int .i64 0) := G10.out.up.cell 6 (by simp)
        have p7 : w10.cell? ⟨P, 7, none⟩ = some (.slice none 0 0) := G10.out.up.cell 7 (by simp)
        have p8 : w10.cell? ⟨P, 8, none⟩ = some (.bool false) := G10.out.up.cell 8 (by simp)
        have f0 : w10.frozen? ⟨P, 0, none⟩ = false := G10.out.up.f 0
        have f1 : w10.frozen? ⟨P, 1, none⟩ = false := G10.out.up.f 1
        have f2 : w10.frozen? ⟨P, 2, none⟩ = false := G10.out.up.f 2
        have f3 : w10.frozen? ⟨P, 3, none⟩ = false := G10.out.up.f 3
        have f4 : w10.frozen? ⟨P, 4, none⟩ = false := G10.out.up.f 4
        have f5 : w10.frozen? ⟨P, 5, none⟩ = false := G10.out.up.f 5
        have f6 : w10.frozen? ⟨P, 6, none⟩ = false := G10.out.up.f 6
        have f7 : w10.frozen? ⟨P, 7, none⟩ = false := G10.out.up.f 7
        have f8 : w10.frozen? ⟨P, 8, none⟩ = false := G10.out.up.f 8
        have n0 : w10.cell? ⟨P + 1, 0, none⟩ = some (.int .i64 0) := G10.out.nt.cell 0 (by simp)
        have n1 : w10.cell? ⟨P + 1, 1, none⟩ = some (.int .i64 0) := G10.out.nt.cell 1 (by simp)
        have n2 : w10.cell? ⟨P + 1, 2, none⟩ = some (.slice none 0 0) := G10.out.nt.cell 2 (by simp)
        have g0 : w10.frozen? ⟨P + 1, 0, none⟩ = false := G10.out.nt.f 0
        have g1 : w10.frozen? ⟨P + 1, 1, none⟩ = false := G10.out.nt.f 1
        have g2 : w10.frozen? ⟨P + 1, 2, none⟩ = false := G10.out.nt.f 2
        go_wp2_with fail
        have t0 := at9_0 G10.out.up (.slice none 0 0)
        have t1 := at9_1 G10.out.up (.slice none 0 0) (.slice none 0 0)
        have t2 := at9_2 G10.out.up (.slice none 0 0) (.slice none 0 0) (.int .i64 0)
        have t3 := at9_3 G10.out.up (.slice none 0 0) (.slice none 0 0) (.int .i64 0) (.slice none 0 0)
        have t4 := at9_4 G10.out.up (.slice none 0 0) (.slice none 0 0) (.int .i64 0) (.slice none 0 0) (.int .u32 0)
        have t5 := at9_5 G10.out.up (.slice none 0 0) (.slice none 0 0) (.int .i64 0) (.slice none 0 0) (.int .u32 0) (.int .i64 0)
        have t6 := at9_6 G10.out.up (.slice none 0 0) (.slice none 0 0) (.int .i64 0) (.slice none 0 0) (.int .u32 0) (.int .i64 0) (.int .i64 0)
        have t7 := at9_7 G10.out.up (.slice none 0 0) (.slice none 0 0) (.int .i64 0) (.slice none 0 0) (.int .u32 0) (.int .i64 0) (.int .i64 0) (.slice none 0 0)
        have t8 := at9_8 G10.out.up (.slice none 0 0) (.slice none 0 0) (.int .i64 0) (.slice none 0 0) (.int .u32 0) (.int .i64 0) (.int .i64 0) (.slice none 0 0) (.bool false)
        have HN9 := Lib.hid (show Blk (((((((((w10.setCell ⟨P, 0, none⟩ (.slice none 0 0)).setCell ⟨P, 1, none⟩ (.slice none 0 0)).setCell ⟨P, 2, none⟩ (.int .i64 0)).setCell ⟨P, 3, none⟩ (.slice none 0 0)).setCell ⟨P, 4, none⟩ (.int .u32 0)).setCell ⟨P, 5, none⟩ (.int .i64 0)).setCell ⟨P, 6, none⟩ (.int .i64 0)).setCell ⟨P, 7, none⟩ (.slice none 0 0)).setCell ⟨P, 8, none⟩ (.bool false)) (P + 1) 41 [.int .i64 0, .int .i64 0, .slice none 0 0] from (((((((((G10.out.nt.setOther (a := ⟨P, 0, none⟩) (by show P + 1 ≠ P; omega) (.slice none 0 0)).setOther (a := ⟨P, 1, none⟩) (by show P + 1 ≠ P; omega) (.slice none 0 0)).setOther (a := ⟨P, 2, none⟩) (by show P + 1 ≠ P; omega) (.int .i64 0)).setOther (a := ⟨P, 3, none⟩) (by show P + 1 ≠ P; omega) (.slice none 0 0)).setOther (a := ⟨P, 4, none⟩) (by show P + 1 ≠ P; omega) (.int .u32 0)).setOther (a := ⟨P, 5, none⟩) (by show P + 1 ≠ P; omega) (.int .i64 0)).setOther (a := ⟨P, 6, none⟩) (by show P + 1 ≠ P; omega) (.int .i64 0)).setOther (a := ⟨P, 7, none⟩) (by show P + 1 ≠ P; omega) (.slice none 0 0)).setOther (a := ⟨P, 8, none⟩) (by show P + 1 ≠ P; omega) (.bool false)))
        have m0 : ((((((((((w10.setCell ⟨P, 0, none⟩ (.slice none 0 0)).setCell ⟨P, 1, none⟩ (.slice none 0 0)).setCell ⟨P, 2, none⟩ (.int .i64 0)).setCell ⟨P, 3, none⟩ (.slice none 0 0)).setCell ⟨P, 4, none⟩ (.int .u32 0)).setCell ⟨P, 5, none⟩ (.int .i64 0)).setCell ⟨P, 6, none⟩ (.int .i64 0)).setCell ⟨P, 7, none⟩ (.slice none 0 0)).setCell ⟨P, 8, none⟩ (.bool false)).setCell ⟨P + 1, 0, none⟩ (.int .i64 3)).cell? ⟨P + 1, 0, none⟩ = some (.int .i64 3) := (HN9.out.set 0 (.int .i64 3)).cell 0 (by simp)
        have m1 : (((((((((((w10.setCell ⟨P, 0, none⟩ (.slice none 0 0)).setCell ⟨P, 1, none⟩ (.slice none 0 0)).setCell ⟨P, 2, none⟩ (.int .i64 0)).setCell ⟨P, 3, none⟩ (.slice none 0 0)).setCell ⟨P, 4, none⟩ (.int .u32 0)).setCell ⟨P, 5, none⟩ (.int .i64 0)).setCell ⟨P, 6, none⟩ (.int .i64 0)).setCell ⟨P, 7, none⟩ (.slice none 0 0)).setCell ⟨P, 8, none⟩ (.bool false)).setCell ⟨P + 1, 0, none⟩ (.int .i64 3)).setCell ⟨P + 1, 1, none⟩ (.int .i64 10)).cell? ⟨P + 1, 1, none⟩ = some (.int .i64 10) := ((HN9.out.set 0 (.int .i64 3)).set 1 (.int .i64 10)).cell 1 (by simp)
        have m2 : ((((((((((((w10.setCell ⟨P, 0, none⟩ (.slice none 0 0)).setCell ⟨P, 1, none⟩ (.slice none 0 0)).setCell ⟨P, 2, none⟩ (.int .i64 0)).setCell ⟨P, 3, none⟩ (.slice none 0 0)).setCell ⟨P, 4, none⟩ (.int .u32 0)).setCell ⟨P, 5, none⟩ (.int .i64 0)).setCell ⟨P, 6, none⟩ (.int .i64 0)).setCell ⟨P, 7, none⟩ (.slice none 0 0)).setCell ⟨P, 8, none⟩ (.bool false)).setCell ⟨P + 1, 0, none⟩ (.int .i64 3)).setCell ⟨P + 1, 1, none⟩ (.int .i64 10)).setCell ⟨P + 1, 2, none⟩ (.slice none 0 0)).cell? ⟨P + 1, 2, none⟩ = some (.slice none 0 0) := (((HN9.out.set 0 (.int .i64 3)).set 1 (.int .i64 10)).set 2 (.slice none 0 0)).cell 2 (by simp)
        exact bodyPost_ret (v := .tuple #[.agg #[.slice none 0 0, .slice none 0 0, .int .i64 0, .slice none 0 0, .int .u32 0, .int .i64 0, .int .i64 0, .slice none 0 0, .bool false], .agg #[.int .i64 3, .int .i64 10, .slice none 0 0]]) (by simp [results, Tryd.results12, go_sem, t0, t1, t2, t3, t4, t5, t6, t7, t8, m0, m1, m2]) rfl ⟨⟨none, 0, 0, none, 0, 0, Loc.zero⟩, by rw [HRR.out]; rfl, (by rw [HRR.out]; exact UOwn.past (w := (((((((((w10.setCell ⟨P, 0, none⟩ (.slice none 0 0)).setCell ⟨P, 1, none⟩ (.slice none 0 0)).setCell ⟨P, 2, none⟩ (.int .i64 0)).setCell ⟨P, 3, none⟩ (.slice none 0 0)).setCell ⟨P, 4, none⟩ (.int .u32 0)).setCell ⟨P, 5, none⟩ (.int .i64 0)).setCell ⟨P, 6, none⟩ (.int .i64 0)).setCell ⟨P, 7, none⟩ (.slice none 0 0)).setCell ⟨P, 8, none⟩ (.bool false))) (UOwn.past (w := w10) ⟨⟨0, NlsOwn.nil _ _⟩, ⟨0, NlsOwn.nil _ _⟩, 0, zeroOwn _ _⟩ G10.out.up ne_upd (gb9 _ _ _ _ _ _ _ _ _ _ _)) HN9.out ne_note (gb3 _ _ _ _ _)), below3 (below9 G10.out.bel (Nat.le_of_eq HPE.out) _ _ _ _ _ _ _ _ _) (by rw [HPE.out]; exact Nat.le_succ P) _ _ _⟩
      · obtain ⟨rfl, rfl⟩ := hs9 comes hg2
        have hl6 : m6 ≤ 1024 := by
          have := getNl_len paths _ _ _ _ hg1 (by omega); rw [HO6.out.len] at this; omega
        have hl9 : m9 ≤ 1024 := by
          have := getNl_len paths _ _ _ _ hg2 (by omega); rw [HO9.out.len] at this; omega
        have HRR := Lib.hid (show R = (toldU l6 l9 (getA (saidB xs) four), 0, 0) by rw [← HR0.out]; unfold getU; rw [HS4.out]; simp only [hg1, hg2])
        have HTB := Lib.hid (HT.out.below G9.out.bel)
        have hm5l : m5 ≤ 1000000 := by rw [← HM5.out]; exact Nat.le_trans (saidB_le xs) (by rw [HNL.out]; omega)
        have HTD := Lib.hid (told_any p6 l6 m6 c6 _ p9 l9 m9 c9 _ (some ⟨q5, 0, none⟩) (saidB xs) m5 m5 four w9 HTB.out HO69.out HO9.out BS9.out.bytes HM5.out hm5l (by omega) (by omega))
        obtain ⟨U, hU⟩ : ∃ U, toldU l6 l9 (getA (saidB xs) four) = U := ⟨_, rfl⟩
        rw [hU] at HTD HRR
        clear hg1 hg2 hs9 hn9 hl6 hl9 hm5l hU
        go_wp2_with fail
        refine HTD.out.mono ?_
        rintro e w10 ⟨ul, rfl, huo, hb⟩
        have HUO := Lib.hid huo
        have G10 := Lib.hid (G9.out.below hb)
        clear huo hb HTD
        obtain ⟨gone, come, ⟨origin, path, next, med, pref, comms⟩, soft⟩ := U
        obtain ⟨gp, gn, gc, rp, rn, rc, ⟨pp, pn, pc, cp, cn, cc⟩⟩ := ul
        simp only [updL, atL, List.cons_append, List.nil_append]
        have p0 : w10.cell? ⟨P, 0, none⟩ = some (.slice none 0 0) := G10.out.up.cell 0 (by simp)
        have p1 : w10.cell? ⟨P, 1, none⟩ = some (.slice none 0 0) := G10.out.up.cell 1 (by simp)
        have p2 : w10.cell? ⟨P, 2, none⟩ = some (.int .i64 0) := G10.out.up.cell 2 (by simp)
        have p3 : w10.cell? ⟨P, 3, none⟩ = some (.slice none 0 0) := G10.out.up.cell 3 (by simp)
        have p4 : w10.cell? ⟨P, 4, none⟩ = some (.int .u32 0) := G10.out.up.cell 4 (by simp)
        have p5 : w10.cell? ⟨P, 5, none⟩ = some (.int .i64 0) := G10.out.up.cell 5 (by simp)
        have p6 : w10.cell? ⟨P, 6, none⟩ = some (.int .i64 0) := G10.out.up.cell 6 (by simp)
        have p7 : w10.cell? ⟨P, 7, none⟩ = some (.slice none 0 0) := G10.out.up.cell 7 (by simp)
        have p8 : w10.cell? ⟨P, 8, none⟩ = some (.bool false) := G10.out.up.cell 8 (by simp)
        have f0 : w10.frozen? ⟨P, 0, none⟩ = false := G10.out.up.f 0
        have f1 : w10.frozen? ⟨P, 1, none⟩ = false := G10.out.up.f 1
        have f2 : w10.frozen? ⟨P, 2, none⟩ = false := G10.out.up.f 2
        have f3 : w10.frozen? ⟨P, 3, none⟩ = false := G10.out.up.f 3
        have f4 : w10.frozen? ⟨P, 4, none⟩ = false := G10.out.up.f 4
        have f5 : w10.frozen? ⟨P, 5, none⟩ = false := G10.out.up.f 5
        have f6 : w10.frozen? ⟨P, 6, none⟩ = false := G10.out.up.f 6
        have f7 : w10.frozen? ⟨P, 7, none⟩ = false := G10.out.up.f 7
        have f8 : w10.frozen? ⟨P, 8, none⟩ = false := G10.out.up.f 8
        have n0 : w10.cell? ⟨P + 1, 0, none⟩ = some (.int .i64 0) := G10.out.nt.cell 0 (by simp)
        have n1 : w10.cell? ⟨P + 1, 1, none⟩ = some (.int .i64 0) := G10.out.nt.cell 1 (by simp)
        have n2 : w10.cell? ⟨P + 1, 2, none⟩ = some (.slice none 0 0) := G10.out.nt.cell 2 (by simp)
        have g0 : w10.frozen? ⟨P + 1, 0, none⟩ = false := G10.out.nt.f 0
        have g1 : w10.frozen? ⟨P + 1, 1, none⟩ = false := G10.out.nt.f 1
        have g2 : w10.frozen? ⟨P + 1, 2, none⟩ = false := G10.out.nt.f 2
        go_wp2_with fail
        have t0 := at9_0 G10.out.up (.slice gp gn gc)
        have t1 := at9_1 G10.out.up (.slice gp gn gc) (.slice rp rn rc)
        have t2 := at9_2 G10.out.up (.slice gp gn gc) (.slice rp rn rc) (.int .i64 origin)
        have t3 := at9_3 G10.out.up (.slice gp gn gc) (.slice rp rn rc) (.int .i64 origin) (.slice pp pn pc)
        have t4 := at9_4 G10.out.up (.slice gp gn gc) (.slice rp rn rc) (.int .i64 origin) (.slice pp pn pc) (.int .u32 next)
        have t5 := at9_5 G10.out.up (.slice gp gn gc) (.slice rp rn rc) (.int .i64 origin) (.slice pp pn pc) (.int .u32 next) (.int .i64 med)
        have t6 := at9_6 G10.out.up (.slice gp gn gc) (.slice rp rn rc) (.int .i64 origin) (.slice pp pn pc) (.int .u32 next) (.int .i64 med) (.int .i64 pref)
        have t7 := at9_7 G10.out.up (.slice gp gn gc) (.slice rp rn rc) (.int .i64 origin) (.slice pp pn pc) (.int .u32 next) (.int .i64 med) (.int .i64 pref) (.slice cp cn cc)
        have t8 := at9_8 G10.out.up (.slice gp gn gc) (.slice rp rn rc) (.int .i64 origin) (.slice pp pn pc) (.int .u32 next) (.int .i64 med) (.int .i64 pref) (.slice cp cn cc) (.bool soft)
        have HN9 := Lib.hid (show Blk (((((((((w10.setCell ⟨P, 0, none⟩ (.slice gp gn gc)).setCell ⟨P, 1, none⟩ (.slice rp rn rc)).setCell ⟨P, 2, none⟩ (.int .i64 origin)).setCell ⟨P, 3, none⟩ (.slice pp pn pc)).setCell ⟨P, 4, none⟩ (.int .u32 next)).setCell ⟨P, 5, none⟩ (.int .i64 med)).setCell ⟨P, 6, none⟩ (.int .i64 pref)).setCell ⟨P, 7, none⟩ (.slice cp cn cc)).setCell ⟨P, 8, none⟩ (.bool soft)) (P + 1) 41 [.int .i64 0, .int .i64 0, .slice none 0 0] from (((((((((G10.out.nt.setOther (a := ⟨P, 0, none⟩) (by show P + 1 ≠ P; omega) (.slice gp gn gc)).setOther (a := ⟨P, 1, none⟩) (by show P + 1 ≠ P; omega) (.slice rp rn rc)).setOther (a := ⟨P, 2, none⟩) (by show P + 1 ≠ P; omega) (.int .i64 origin)).setOther (a := ⟨P, 3, none⟩) (by show P + 1 ≠ P; omega) (.slice pp pn pc)).setOther (a := ⟨P, 4, none⟩) (by show P + 1 ≠ P; omega) (.int .u32 next)).setOther (a := ⟨P, 5, none⟩) (by show P + 1 ≠ P; omega) (.int .i64 med)).setOther (a := ⟨P, 6, none⟩) (by show P + 1 ≠ P; omega) (.int .i64 pref)).setOther (a := ⟨P, 7, none⟩) (by show P + 1 ≠ P; omega) (.slice cp cn cc)).setOther (a := ⟨P, 8, none⟩) (by show P + 1 ≠ P; omega) (.bool soft)))
        have m0 : ((((((((((w10.setCell ⟨P, 0, none⟩ (.slice gp gn gc)).setCell ⟨P, 1, none⟩ (.slice rp rn rc)).setCell ⟨P, 2, none⟩ (.int .i64 origin)).setCell ⟨P, 3, none⟩ (.slice pp pn pc)).setCell ⟨P, 4, none⟩ (.int .u32 next)).setCell ⟨P, 5, none⟩ (.int .i64 med)).setCell ⟨P, 6, none⟩ (.int .i64 pref)).setCell ⟨P, 7, none⟩ (.slice cp cn cc)).setCell ⟨P, 8, none⟩ (.bool soft)).setCell ⟨P + 1, 0, none⟩ (.int .i64 0)).cell? ⟨P + 1, 0, none⟩ = some (.int .i64 0) := (HN9.out.set 0 (.int .i64 0)).cell 0 (by simp)
        have m1 : (((((((((((w10.setCell ⟨P, 0, none⟩ (.slice gp gn gc)).setCell ⟨P, 1, none⟩ (.slice rp rn rc)).setCell ⟨P, 2, none⟩ (.int .i64 origin)).setCell ⟨P, 3, none⟩ (.slice pp pn pc)).setCell ⟨P, 4, none⟩ (.int .u32 next)).setCell ⟨P, 5, none⟩ (.int .i64 med)).setCell ⟨P, 6, none⟩ (.int .i64 pref)).setCell ⟨P, 7, none⟩ (.slice cp cn cc)).setCell ⟨P, 8, none⟩ (.bool soft)).setCell ⟨P + 1, 0, none⟩ (.int .i64 0)).setCell ⟨P + 1, 1, none⟩ (.int .i64 0)).cell? ⟨P + 1, 1, none⟩ = some (.int .i64 0) := ((HN9.out.set 0 (.int .i64 0)).set 1 (.int .i64 0)).cell 1 (by simp)
        have m2 : ((((((((((((w10.setCell ⟨P, 0, none⟩ (.slice gp gn gc)).setCell ⟨P, 1, none⟩ (.slice rp rn rc)).setCell ⟨P, 2, none⟩ (.int .i64 origin)).setCell ⟨P, 3, none⟩ (.slice pp pn pc)).setCell ⟨P, 4, none⟩ (.int .u32 next)).setCell ⟨P, 5, none⟩ (.int .i64 med)).setCell ⟨P, 6, none⟩ (.int .i64 pref)).setCell ⟨P, 7, none⟩ (.slice cp cn cc)).setCell ⟨P, 8, none⟩ (.bool soft)).setCell ⟨P + 1, 0, none⟩ (.int .i64 0)).setCell ⟨P + 1, 1, none⟩ (.int .i64 0)).setCell ⟨P + 1, 2, none⟩ (.slice none 0 0)).cell? ⟨P + 1, 2, none⟩ = some (.slice none 0 0) := (((HN9.out.set 0 (.int .i64 0)).set 1 (.int .i64 0)).set 2 (.slice none 0 0)).cell 2 (by simp)
        exact bodyPost_ret (v := .tuple #[.agg #[.slice gp gn gc, .slice rp rn rc, .int .i64 origin, .slice pp pn pc, .int .u32 next, .int .i64 med, .int .i64 pref, .slice cp cn cc, .bool soft], .agg #[.int .i64 0, .int .i64 0, .slice none 0 0]]) (by simp [results, Tryd.results12, go_sem, t0, t1, t2, t3, t4, t5, t6, t7, t8, m0, m1, m2]) rfl ⟨⟨gp, gn, gc, rp, rn, rc, ⟨pp, pn, pc, cp, cn, cc⟩⟩, by rw [HRR.out]; rfl, (by rw [HRR.out]; exact UOwn.past (w := (((((((((w10.setCell ⟨P, 0, none⟩ (.slice gp gn gc)).setCell ⟨P, 1, none⟩ (.slice rp rn rc)).setCell ⟨P, 2, none⟩ (.int .i64 origin)).setCell ⟨P, 3, none⟩ (.slice pp pn pc)).setCell ⟨P, 4, none⟩ (.int .u32 next)).setCell ⟨P, 5, none⟩ (.int .i64 med)).setCell ⟨P, 6, none⟩ (.int .i64 pref)).setCell ⟨P, 7, none⟩ (.slice cp cn cc)).setCell ⟨P, 8, none⟩ (.bool soft))) (UOwn.past (w := w10) HUO.out G10.out.up ne_upd (gb9 _ _ _ _ _ _ _ _ _ _ _)) HN9.out ne_note (gb3 _ _ _ _ _)), below3 (below9 G10.out.bel (Nat.le_of_eq HPE.out) _ _ _ _ _ _ _ _ _) (by rw [HPE.out]; exact Nat.le_succ P) _ _ _⟩
end Go.Proofs.YtpeagakpmjnelaaDoor.Ax
