/- update: the document's Same of attributes with none. / update: the document's Large, Body. / update: the document's Body. / update: the document's Check. / update: what is put is got. -/
import Derived.Test.YtpeagakpmjnelaaDoorUqE
import Derived.Test.YtpeagakpmjnelaaDoorAT
import Derived.Test.YtpeagakpmjnelaaDoorUqB
import Derived.Test.YtpeagakpmjnelaaDoorAQ
namespace Go.Proofs.YtpeagakpmjnelaaDoor.Ax
open Go.RowKit
set_option maxRecDepth 100000
set_option linter.unusedVariables false
set_option linter.unusedSimpArgs false

theorem rints_zero (p : Option Addr) (n c : Nat) (w : World) :
    Calls Tryd.prog 44 #[.slice p n c, .slice none 0 0] w fun e w' => e = .returned (.bool (decide (n = 0))) ∧ w' = w := by
  go_enter Tryd.func44, Tryd.ntmps44
  by_cases h : n = 0
  · subst h
    go_wp2
    go_loopw [5] (fun i wr => i = .int .i64 0 ∧ wr = w) (fun i _ => 0)
    case atStart => exact ⟨rfl, rfl⟩
    case round =>
      obtain ⟨rfl, rfl⟩ := hrel
      go_wp2
      go_ret
      exact ⟨rfl, rfl⟩
  · have t1 : ((n : Int) != 0) = true := by simp; omega
    have HT := Lib.hid (show decide (n = 0) = false by simp [h])
    go_wp2
    go_ret
    exact ⟨by rw [HT.out]; rfl, rfl⟩
set_option maxHeartbeats 4000000 in
theorem rsameA_zero (a : At) (l : Loc) (w : World) (h1 : AtAt w a l) :
    Calls Tryd.prog 19 #[.agg (atL a l).toArray, .agg #[.int .i64 0, .slice none 0 0, .int .u32 0, .int .i64 0, .int .i64 0, .slice none 0 0]] w fun e w' => e = .returned (.bool (zeroA a)) ∧ Below w.heap.size w w' := by
  obtain ⟨W, hW⟩ : ∃ W, (w.alloc (.cells (atL a l).toArray 27)).alloc (.cells #[.int .i64 0, .slice none 0 0, .int .u32 0, .int .i64 0, .int .i64 0, .slice none 0 0] 27) = W := ⟨_, rfl⟩
  have hb : Below w.heap.size w W := by rw [← hW]; exact two_below _ _ _
  have K1 := Lib.hid (show Blk W w.heap.size 27 (atL a l) by rw [← hW]; exact (Blk.new w 27 (atL a l)).alloc _)
  have K2 := Lib.hid (show Blk W (w.heap.size + 1) 27 [.int .i64 0, .slice none 0 0, .int .u32 0, .int .i64 0, .int .i64 0, .slice none 0 0] by rw [← hW, ← sz_alloc w (.cells (atL a l).toArray 27)]; exact Blk.new _ 27 [.int .i64 0, .slice none 0 0, .int .u32 0, .int .i64 0, .int .i64 0, .slice none 0 0])
  have HI := Lib.hid (rints_zero l.cp l.cn l.cc W)
  have HCN := Lib.hid h1.cn
  have HPN := Lib.hid h1.pn
  have HB := Lib.hid hb
  have HW := Lib.hid hW
  obtain ⟨origin, path, next, med, pref, comms⟩ := a
  obtain ⟨pp, pn, pc, cp, cn, cc⟩ := l
  simp only [atL] at *
  clear h1 hW hb
  have ka0 := K1.out.cell 0 (by simp)
  have ka1 := K1.out.cell 1 (by simp)
  have ka2 := K1.out.cell 2 (by simp)
  have ka3 := K1.out.cell 3 (by simp)
  have ka4 := K1.out.cell 4 (by simp)
  have ka5 := K1.out.cell 5 (by simp)
  have kb0 := K2.out.cell 0 (by simp)
  have kb1 := K2.out.cell 1 (by simp)
  have kb2 := K2.out.cell 2 (by simp)
  have kb3 := K2.out.cell 3 (by simp)
  have kb4 := K2.out.cell 4 (by simp)
  have kb5 := K2.out.cell 5 (by simp)
  have kd := And.intro ka1 (And.intro ka5 (And.intro kb1 kb5))
  rw [← HW.out] at ka0 ka1 ka2 ka3 ka4 ka5 kb0 kb1 kb2 kb3 kb4 kb5
  go_enter Tryd.func19, Tryd.ntmps19
  by_cases h0 : origin = 0
  · subst h0
    by_cases h2 : next = 0
    · subst h2
      by_cases h3 : med = 0
      · subst h3
        by_cases h4 : pref = 0
        · subst h4
          have HZ := Lib.hid (show zeroA ⟨0, path, 0, 0, 0, comms⟩ = (decide (pn = 0) && decide (cn = 0)) by
            unfold zeroA
            have h1 := HPN.out
            have h2 := HCN.out
            rw [show decide (path = []) = decide (pn = 0) from by rw [decide_eq_decide, ← h1, List.length_eq_zero_iff], show decide (comms = []) = decide (cn = 0) from by rw [decide_eq_decide, ← h2, List.length_eq_zero_iff]]
            simp)
          go_wp2_with fail
          rw [HW.out]
          refine HI.out.mono ?_; rintro e w1 ⟨rfl, rfl⟩
          obtain ⟨ka1, ka5, kb1, kb5⟩ := kd
          by_cases hc : cn = 0
          · subst hc
            by_cases hp : pn = 0
            · subst hp
              go_wp2_with fail
              go_loopw [5] (fun i wr => i = .int .i64 0 ∧ wr = w1) (fun i _ => 0)
              case atStart => exact ⟨rfl, rfl⟩
              case round =>
                obtain ⟨rfl, rfl⟩ := hrel
                go_wp2_with fail
                go_ret
                exact ⟨by rw [HZ.out]; rfl, HB.out⟩
            · have hp2 : decide (pn = 0) = false := decide_eq_false hp
              rw [hp2] at HZ
              have e1 : ((pn : Int) != 0) = true := by simp; omega
              go_wp2_with fail
              go_ret
              exact ⟨by rw [HZ.out]; rfl, HB.out⟩
          · have hp2 : decide (cn = 0) = false := decide_eq_false hc
            rw [hp2, Bool.and_false] at HZ
            rw [hp2]
            go_wp2_with fail
            go_ret
            exact ⟨by rw [HZ.out]; rfl, HB.out⟩
        · have HZ := Lib.hid (show zeroA ⟨0, path, 0, 0, pref, comms⟩ = false by unfold zeroA; simp [h4])
          have e1 : (pref != 0) = true := by simpa using h4
          clear kd
          go_wp2_with fail
          rw [HW.out]
          go_ret
          exact ⟨by rw [HZ.out]; rfl, HB.out⟩
      · have HZ := Lib.hid (show zeroA ⟨0, path, 0, med, pref, comms⟩ = false by unfold zeroA; simp [h3])
        have e1 : (med != 0) = true := by simpa using h3
        clear kd
        go_wp2_with fail
        rw [HW.out]
        go_ret
        exact ⟨by rw [HZ.out]; rfl, HB.out⟩
    · have HZ := Lib.hid (show zeroA ⟨0, path, next, med, pref, comms⟩ = false by unfold zeroA; simp [h2])
      have e1 : (next != 0) = true := by simpa using h2
      clear kd
      go_wp2_with fail
      rw [HW.out]
      go_ret
      exact ⟨by rw [HZ.out]; rfl, HB.out⟩
  · have HZ := Lib.hid (show zeroA ⟨origin, path, next, med, pref, comms⟩ = false by unfold zeroA; simp [h0])
    have e1 : (origin != 0) = true := by simpa using h0
    clear kd
    go_wp2_with fail
    rw [HW.out]
    go_ret
    exact ⟨by rw [HZ.out]; rfl, HB.out⟩
end Go.Proofs.YtpeagakpmjnelaaDoor.Ax
namespace Go.Proofs.YtpeagakpmjnelaaDoor.Ax
open Go.RowKit
set_option maxRecDepth 100000
set_option linter.unusedVariables false
set_option linter.unusedSimpArgs false

def largeU (u : Upd) : Bool := decide (1100 < u.gone.length) || (decide (1100 < u.come.length) || largeB u.a)
set_option maxHeartbeats 4000000 in
theorem rlargeU_any (u : Upd) (l : ULoc) (w : World) (hu : UpAt w u l) :
    Calls Tryd.prog 7 #[.agg (updL u l).toArray] w fun e w' => e = .returned (.bool (largeU u)) ∧ Below w.heap.size w w' := by
  have HA := Lib.hid (newB w (.cells (updL u l).toArray 29))
  obtain ⟨V, hV⟩ : ∃ V, w.alloc (.cells (updL u l).toArray 29) = V := ⟨_, rfl⟩
  have hX := Blk.new w 29 (updL u l)
  have HV := Lib.hid hV
  rw [hV] at HA
  have HL := Lib.hid (large_any u.a l.l V (hu.at_.below HA.out))
  have hg := Nat.le_trans hu.gc hu.gm
  have hr := Nat.le_trans hu.rc hu.rm
  unfold maxLen at hg hr
  have HU := Lib.hid (show largeU u = (decide (1100 < l.gn) || (decide (1100 < l.rn) || largeB u.a)) by unfold largeU; rw [hu.gn, hu.rn])
  obtain ⟨lb, hlb⟩ : ∃ b, largeB u.a = b := ⟨_, rfl⟩
  rw [hlb] at HL HU
  rw [HU.out]
  obtain ⟨gone, come, ⟨origin, path, next, med, pref, comms⟩, soft⟩ := u
  obtain ⟨gp, gn, gc, rp, rn, rc, ⟨pp, pn, pc, cp, cn, cc⟩⟩ := l
  simp only [updL, atL, List.cons_append, List.nil_append] at *
  have k0 := hX.cell 0 (by simp)
  have k1 := hX.cell 1 (by simp)
  have k2 := hX.cell 2 (by simp)
  have k3 := hX.cell 3 (by simp)
  have k4 := hX.cell 4 (by simp)
  have k5 := hX.cell 5 (by simp)
  have k6 := hX.cell 6 (by simp)
  have k7 := hX.cell 7 (by simp)
  clear hu hlb hX hV
  go_enter Tryd.func7, Tryd.ntmps7
  by_cases h1 : 1100 < gn
  · have g1 : decide ((1100 : Int) < (gn : Int)) = true := decide_eq_true (by omega)
    have HZ := Lib.hid (show (decide (1100 < gn) || (decide (1100 < rn) || lb)) = true by simp [h1])
    go_wp2_with fail
    rw [HV.out]
    go_ret
    exact ⟨by rw [HZ.out]; rfl, HA.out⟩
  have g1 : decide ((1100 : Int) < (gn : Int)) = false := decide_eq_false (by omega)
  by_cases h2 : 1100 < rn
  · have g2 : decide ((1100 : Int) < (rn : Int)) = true := decide_eq_true (by omega)
    have HZ := Lib.hid (show (decide (1100 < gn) || (decide (1100 < rn) || lb)) = true by simp [h2])
    go_wp2_with fail
    rw [HV.out]
    go_ret
    exact ⟨by rw [HZ.out]; rfl, HA.out⟩
  have g2 : decide ((1100 : Int) < (rn : Int)) = false := decide_eq_false (by omega)
  have HZ := Lib.hid (show (decide (1100 < gn) || (decide (1100 < rn) || lb)) = lb by simp [h1, h2])
  go_wp2_with fail
  rw [HV.out]
  refine HL.out.mono ?_
  rintro e w1 ⟨rfl, hb⟩
  have HB := Lib.hid (HA.out.trans (hb.mono HA.out.size))
  clear hb k0 k1 k2 k3 k4 k5 k6 k7
  go_wp2_with fail
  go_ret
  exact ⟨by rw [HZ.out]; rfl, HB.out⟩
end Go.Proofs.YtpeagakpmjnelaaDoor.Ax
namespace Go.Proofs.YtpeagakpmjnelaaDoor.Ax
open Go.RowKit
set_option maxRecDepth 100000
set_option linter.unusedVariables false
set_option linter.unusedSimpArgs false

theorem cnt2 (xs : List Int) (m : Nat) (hm : xs.length = m) (h : m ≤ 9900) : cntL xs = [((m / 256 : Nat) : Int), ((m % 256 : Nat) : Int)] ++ xs := by
  unfold cntL
  rw [hm]
  congr 1
  simp [putL, byteOf, List.range, List.range.loop]
  omega
theorem in2 {a b : Nat} (ha : a ≤ 255) (hb : b ≤ 255) : InByte [(a : Int), (b : Int)] := inByte_all fun y hy => by
  simp at hy
  omega
theorem far_own {w : World} {B : Nat} {p : Option Addr} {cap : Nat} {xs : List Int} (h : Own w B p cap xs) : p.map (·.block) = none ∨ p.map (·.block) ≠ (some (⟨w.heap.size, 0, none⟩ : Addr)).map (·.block) := by
  rcases p with _ | x
  · exact .inl rfl
  · right
    have := (h.block_lt (g := x.block) rfl).2
    simp
    omega
theorem far_own2 {w : World} {B : Nat} {p q : Option Addr} {cap : Nat} {xs : List Int} {o : Obj} (h : Own w B p cap xs) (hq : q = some ⟨w.heap.size, 0, none⟩ ∨ q = some ⟨(w.alloc o).heap.size, 0, none⟩) : p.map (·.block) = none ∨ p.map (·.block) ≠ q.map (·.block) := by
  rcases p with _ | x
  · exact .inl rfl
  · right
    have := (h.block_lt (g := x.block) rfl).2
    rcases hq with rfl | rfl <;> simp <;> omega
set_option maxHeartbeats 8000000 in
theorem rbody_any (u : Upd) (l : ULoc) (four paths : Bool) (w : World) (hu : UpAt w u l) (hg : okNls u.gone paths = true) (hr : okNls u.come paths = true) (ha : u.come ≠ [] → okA u.a four = true) (hln : u.gone.length ≤ 1100 ∧ u.come.length ≤ 1100) :
    Calls Tryd.prog 13 #[.agg (updL u l).toArray, .bool four, .bool paths] w fun e w' => ∃ q cap, e = .returned (.slice q (bodyL u four paths).length cap) ∧ Own w' w.heap.size q cap (bodyL u four paths) ∧ Below w.heap.size w w' := by
  have HA := Lib.hid (newB w (.cells (updL u l).toArray 29))
  obtain ⟨V, hV⟩ : ∃ V, w.alloc (.cells (updL u l).toArray 29) = V := ⟨_, rfl⟩
  have hX := Blk.new w 29 (updL u l)
  have HV := Lib.hid hV
  rw [hV] at HA
  have hgm : (nlsL paths u.gone).length ≤ 9900 := by have := nlsL_le paths u.gone; omega
  have hrm : (nlsL paths u.come).length ≤ 9900 := by have := nlsL_le paths u.come; omega
  obtain ⟨m, hm⟩ : ∃ m, (nlsL paths u.gone).length = m := ⟨_, rfl⟩
  obtain ⟨k, hk⟩ : ∃ k, (nlsL paths u.come).length = k := ⟨_, rfl⟩
  have HPG := Lib.hid (rputNl_any l.gp u.gone l.gn l.gc paths V (hu.gone.below HA.out) hu.gn hg)
  rw [hm] at HPG hgm
  rw [hk] at hrm
  have HX0 : Hid (Blk V w.heap.size 29 (updL u l)) := Lib.hid (hV ▸ hX)
  have k0 := hX.cell 0 (by simp [updL])
  clear hV hX
  have HM := Lib.hid hm
  obtain ⟨gone, come, ⟨origin, path, next, med, pref, comms⟩, soft⟩ := u
  obtain ⟨gp, gn, gc, rp, rn, rc, ⟨pp, pn, pc, cp, cn, cc⟩⟩ := l
  simp only [updL, atL, List.cons_append, List.nil_append] at *
  have HU := Lib.hid hu
  clear hu hm
  go_enter Tryd.func13, Tryd.ntmps13
  go_wp2_with fail
  rw [HV.out]
  refine HPG.out.mono ?_
  rintro e w1 ⟨q1, c1, rfl, ho1, hb1⟩
  have HX1 := Lib.hid (HX0.out.next hb1)
  have HPL := Lib.hid HX0.out.lt
  have HB1 := Lib.hid hb1
  have HG1 := Lib.hid ho1
  clear ho1 hb1 k0 HPG
  have k1 := HX1.out.cell 1 (by simp)
  have d1 : Int.tdiv (m : Int) 256 = ((m / 256 : Nat) : Int) := by rw [Int.tdiv_eq_ediv_of_nonneg (by omega)]; rfl
  have d2 : IntKind.i64.wrap ((m / 256 : Nat) : Int) = ((m / 256 : Nat) : Int) := by rw [IntKind.wrap_i64]; omega
  obtain ⟨mh, hmh⟩ : ∃ x, m / 256 = x := ⟨_, rfl⟩
  have hmh1 : mh ≤ 38 := by omega
  have HMH := Lib.hid hmh
  rw [hmh] at d1 d2
  have d3 : IntKind.u8.wrap (mh : Int) = (mh : Int) := by simp [IntKind.wrap, IntKind.bits, IntKind.signed]; omega
  obtain ⟨ml, hml⟩ : ∃ x, m % 256 = x := ⟨_, rfl⟩
  have HML := Lib.hid hml
  have d4 : IntKind.u8.wrap (m : Int) = (ml : Int) := by simp [IntKind.wrap, IntKind.bits, IntKind.signed]; omega
  clear hmh hml
  rcases come with _ | ⟨x0, xs0⟩
  · have hrn : rn = 0 := by have := HU.out.rn; simpa using this.symm
    subst hrn
    have HGW := HG1
    have HYN := Lib.hid (show ([] : List Int).length = 0 from rfl)
    have HO0 := Lib.hid (Own.lit w1 V.heap.size [(mh : Int), (ml : Int)] (in2 (by omega) (by have := HML.out; omega)) (by simp) HB1.out.size)
    have HGA := Lib.hid (HGW.out.bytes.alloc (.cells #[.int .u8 (mh : Int), .int .u8 (ml : Int)] 5))
    have HIN := Lib.hid (show InByte [0, 0] from in2 (a := 0) (b := 0) (by omega) (by omega))
    have HSW := Lib.hid HB1.out.size
    go_wp2_with (first
      | (refine wpList_appo (o := ⟨some 31, _, _, _, _, _⟩) (by rfl) (.tmp 29) (.tmp 30) (by rfl) V.heap.size _ 2 [(mh : Int), (ml : Int)] HO0.out 2 (by rfl) (by rfl) q1 m c1 _ HGA.out HM.out (by rfl) (2 + m) (by rfl) (by omega) (by have := HSW.out; simp; omega) ?_; intro q3 cap3 w3 hO3 hB3 hG3; have H3 := Lib.hid ((HB1.out.alloc HB1.out.size _).trans hB3.out); have HY3 := Lib.hid (BytesAt.nil w3 none))
      | (refine wpList_appo (o := ⟨some 41, _, _, _, _, _⟩) (by rfl) (.tmp 32) (.tmp 40) (by rfl) V.heap.size q3 cap3 _ (hO3.out.alloc _) (2 + m) (by have := HM.out; simp; omega) (by rfl) _ 2 2 [0, 0] ((brow_new w3 [0, 0]).bytes HIN.out) (by rfl) (by rfl) (2 + m + 2) (by rfl) (by omega) (by have := H3.out.size; simp; omega) ?_; intro q4 cap4 w4 hO4 hB4 hG4; have H4 := Lib.hid ((H3.out.alloc H3.out.size _).trans hB4.out); have HY4 := Lib.hid (BytesAt.nil w4 none))
      | (refine wpList_appo (o := ⟨some 43, _, _, _, _, _⟩) (by rfl) (.tmp 41) (.tmp 42) (by rfl) V.heap.size q4 cap4 _ hO4.out (2 + m + 2) (by have := HM.out; simp; omega) (by rfl) none 0 0 [] HY4.out (by rfl) (by rfl) (2 + m + 2 + 0) (by rfl) (by omega) H4.out.size ?_; intro q5 cap5 w5 hO5 hB5 hG5; have H5 := Lib.hid (H4.out.trans hB5.out); have k5 := (HX0.out.below H5.out HPL.out).cell 1 (by simp)))
    refine (rputNl_any rp _ 0 rc paths w5 (HU.out.come.below (HA.out.trans (H5.out.mono HA.out.size))) HU.out.rn hr).mono ?_
    rintro e w6 ⟨q6, c6, rfl, ho6, hb6⟩
    rw [hk]
    have HO5 := Lib.hid (hO5.out.below hb6)
    have HO6 := Lib.hid ho6.bytes
    have HK := Lib.hid hk
    have H6 := Lib.hid (H5.out.trans (hb6.mono H5.out.size))
    clear hO5 hb6 ho6 k5 hk
    go_wp2_with (refine wpList_appo (o := ⟨some 49, _, _, _, _, _⟩) (by rfl) (.tmp 44) (.tmp 48) (by rfl) V.heap.size q5 cap5 _ HO5.out (2 + m + 2 + 0) (by have := HM.out; have := HYN.out; simp; omega) (by rfl) q6 k c6 _ HO6.out HK.out (by rfl) (2 + m + 2 + 0 + k) (by rfl) (by omega) H6.out.size ?_; intro q7 cap7 w7 hO7 hB7 hG7)
    have HBD := Lib.hid (show bodyL ⟨gone, [], ⟨origin, path, next, med, pref, comms⟩, soft⟩ four paths = [(mh : Int), (ml : Int)] ++ nlsL paths gone ++ [0, 0] ++ [] ++ nlsL paths [] by
        have e1 := cnt2 (nlsL paths gone) m HM.out hgm
        rw [HMH.out, HML.out] at e1
        unfold bodyL saidL
        rw [e1]
        simp [cnt2 [] 0 rfl (by omega)])
    go_ret
    have HLEN := Lib.hid (show (bodyL ⟨gone, [], ⟨origin, path, next, med, pref, comms⟩, soft⟩ four paths).length = 2 + m + 2 + 0 + k by
      rw [HBD.out]
      have h1 := HM.out
      have h2 := HK.out
      simp only [List.length_append, List.length_cons, List.length_nil]
      omega)
    refine ⟨q7, cap7, ?_, ?_, ?_⟩
    · rw [HLEN.out]; rfl
    · rw [HBD.out]; exact hO7.out.mono HA.out.size
    · exact HA.out.trans ((H6.out.trans hB7.out).mono HA.out.size)
  · have hrn : 0 < rn := by have := HU.out.rn; simp at this; omega
    have g0 : decide ((0 : Int) < (rn : Int)) = true := decide_eq_true (by omega)
    have hka := ha (by simp)
    have hna := putA_le hka
    obtain ⟨n, hn⟩ : ∃ n, (putA ⟨origin, path, next, med, pref, comms⟩ four).length = n := ⟨_, rfl⟩
    have HPA := Lib.hid (rputA_any origin next med pref path comms pp cp pn pc cn cc four w1 (HU.out.at_.below (HA.out.trans (HB1.out.mono HA.out.size))) hka)
    rw [hn] at HPA hna
    have HYN := Lib.hid hn
    have HKA := Lib.hid hka
    obtain ⟨nh, hnh⟩ : ∃ x, n / 256 = x := ⟨_, rfl⟩
    have hnh1 : nh ≤ 38 := by omega
    have p1 : Int.tdiv (n : Int) 256 = (nh : Int) := by rw [Int.tdiv_eq_ediv_of_nonneg (by omega), ← hnh]; rfl
    have p2 : IntKind.i64.wrap (nh : Int) = (nh : Int) := by rw [IntKind.wrap_i64]; omega
    have HNH := Lib.hid hnh
    have p3 : IntKind.u8.wrap (nh : Int) = (nh : Int) := by simp [IntKind.wrap, IntKind.bits, IntKind.signed]; omega
    obtain ⟨nl, hnl⟩ : ∃ x, n % 256 = x := ⟨_, rfl⟩
    have HNL := Lib.hid hnl
    have p4 : IntKind.u8.wrap (n : Int) = (nl : Int) := by simp [IntKind.wrap, IntKind.bits, IntKind.signed]; omega
    have j2 := HX1.out.cell 2 (by simp)
    have j3 := HX1.out.cell 3 (by simp)
    have j4 := HX1.out.cell 4 (by simp)
    have j5 := HX1.out.cell 5 (by simp)
    have j6 := HX1.out.cell 6 (by simp)
    have j7 := HX1.out.cell 7 (by simp)
    clear hnh hnl hn hka ha
    go_wp2_with fail
    refine HPA.out.mono ?_
    rintro e w2 ⟨q2, c2, rfl, ho2, hb2⟩
    have HB2 := Lib.hid (HB1.out.trans (hb2.mono HB1.out.size))
    have HGW := Lib.hid (HG1.out.below hb2)
    have HY2 := Lib.hid ho2
    clear ho2 hb2 j2 j3 j4 j5 j6 j7 k1 HPA
    have HO0 := Lib.hid (Own.lit w2 V.heap.size [(mh : Int), (ml : Int)] (in2 (by omega) (by have := HML.out; omega)) (by simp) HB2.out.size)
    have HGA := Lib.hid (HGW.out.bytes.alloc (.cells #[.int .u8 (mh : Int), .int .u8 (ml : Int)] 5))
    have HIN := Lib.hid (show InByte [(nh : Int), (nl : Int)] from in2 (by omega) (by have := HNL.out; omega))
    have HSW := Lib.hid HB2.out.size
    go_wp2_with (first
      | (refine wpList_appo (o := ⟨some 31, _, _, _, _, _⟩) (by rfl) (.tmp 29) (.tmp 30) (by rfl) V.heap.size _ 2 [(mh : Int), (ml : Int)] HO0.out 2 (by rfl) (by rfl) q1 m c1 _ HGA.out HM.out (by rfl) (2 + m) (by rfl) (by omega) (by have := HSW.out; simp; omega) ?_; intro q3 cap3 w3 hO3 hB3 hG3; have H3 := Lib.hid ((HB2.out.alloc HB2.out.size _).trans hB3.out); have HY3 := Lib.hid ((HY2.out.alloc _).grown hG3.out.1 (far_own HY2.out)))
      | (refine wpList_appo (o := ⟨some 41, _, _, _, _, _⟩) (by rfl) (.tmp 32) (.tmp 40) (by rfl) V.heap.size q3 cap3 _ (hO3.out.alloc _) (2 + m) (by have := HM.out; simp; omega) (by rfl) _ 2 2 [(nh : Int), (nl : Int)] ((brow_new w3 [(nh : Int), (nl : Int)]).bytes HIN.out) (by rfl) (by rfl) (2 + m + 2) (by rfl) (by omega) (by have := H3.out.size; simp; omega) ?_; intro q4 cap4 w4 hO4 hB4 hG4; have H4 := Lib.hid ((H3.out.alloc H3.out.size _).trans hB4.out); have HY4 := Lib.hid (((HY3.out.alloc _).grown hG4.out.1 (far_own2 HY2.out hG3.out.2)).bytes))
      | (refine wpList_appo (o := ⟨some 43, _, _, _, _, _⟩) (by rfl) (.tmp 41) (.tmp 42) (by rfl) V.heap.size q4 cap4 _ hO4.out (2 + m + 2) (by have := HM.out; simp; omega) (by rfl) q2 n c2 _ HY4.out HYN.out (by rfl) (2 + m + 2 + n) (by rfl) (by omega) H4.out.size ?_; intro q5 cap5 w5 hO5 hB5 hG5; have H5 := Lib.hid (H4.out.trans hB5.out); have k5 := (HX0.out.below H5.out HPL.out).cell 1 (by simp)))
    refine (rputNl_any rp _ rn rc paths w5 (HU.out.come.below (HA.out.trans (H5.out.mono HA.out.size))) HU.out.rn hr).mono ?_
    rintro e w6 ⟨q6, c6, rfl, ho6, hb6⟩
    rw [hk]
    have HO5 := Lib.hid (hO5.out.below hb6)
    have HO6 := Lib.hid ho6.bytes
    have HK := Lib.hid hk
    have H6 := Lib.hid (H5.out.trans (hb6.mono H5.out.size))
    clear hO5 hb6 ho6 k5 hk
    go_wp2_with (refine wpList_appo (o := ⟨some 49, _, _, _, _, _⟩) (by rfl) (.tmp 44) (.tmp 48) (by rfl) V.heap.size q5 cap5 _ HO5.out (2 + m + 2 + n) (by have := HM.out; have := HYN.out; simp; omega) (by rfl) q6 k c6 _ HO6.out HK.out (by rfl) (2 + m + 2 + n + k) (by rfl) (by omega) H6.out.size ?_; intro q7 cap7 w7 hO7 hB7 hG7)
    have HBD := Lib.hid (show bodyL ⟨gone, x0 :: xs0, ⟨origin, path, next, med, pref, comms⟩, soft⟩ four paths = [(mh : Int), (ml : Int)] ++ nlsL paths gone ++ [(nh : Int), (nl : Int)] ++ putA ⟨origin, path, next, med, pref, comms⟩ four ++ nlsL paths (x0 :: xs0) by
        have e1 := cnt2 (nlsL paths gone) m HM.out hgm
        rw [HMH.out, HML.out] at e1
        unfold bodyL saidL
        rw [e1]
        have e2 := cnt2 (putA ⟨origin, path, next, med, pref, comms⟩ four) n HYN.out (by omega)
        rw [HNH.out, HNL.out] at e2
        rw [if_neg (by simp), if_pos HKA.out, e2]
        simp)
    go_ret
    have HLEN := Lib.hid (show (bodyL ⟨gone, x0 :: xs0, ⟨origin, path, next, med, pref, comms⟩, soft⟩ four paths).length = 2 + m + 2 + n + k by
      rw [HBD.out]
      have h1 := HM.out
      have h2 := HK.out
      have h3 := HYN.out
      simp only [List.length_append, List.length_cons, List.length_nil]
      omega)
    refine ⟨q7, cap7, ?_, ?_, ?_⟩
    · rw [HLEN.out]; rfl
    · rw [HBD.out]; exact hO7.out.mono HA.out.size
    · exact HA.out.trans ((H6.out.trans hB7.out).mono HA.out.size)
end Go.Proofs.YtpeagakpmjnelaaDoor.Ax
namespace Go.Proofs.YtpeagakpmjnelaaDoor.Ax
open Go.RowKit
set_option maxRecDepth 100000
set_option linter.unusedVariables false
set_option linter.unusedSimpArgs false

theorem upd_boxes {w : World} {P : Nat} {t : TypeId} {a b c d e f g h i : Value} (h1 : Blk w P t [a, b, c, d, e, f, g, h, i]) :
    w.cell? ⟨P, 0, none⟩ = some a ∧ w.cell? ⟨P, 1, none⟩ = some b ∧ w.cell? ⟨P, 2, none⟩ = some c ∧ w.cell? ⟨P, 3, none⟩ = some d ∧ w.cell? ⟨P, 4, none⟩ = some e ∧ w.cell? ⟨P, 5, none⟩ = some f ∧ w.cell? ⟨P, 6, none⟩ = some g ∧ w.cell? ⟨P, 7, none⟩ = some h ∧ w.cell? ⟨P, 8, none⟩ = some i :=
  ⟨h1.cell 0 (by simp), h1.cell 1 (by simp), h1.cell 2 (by simp), h1.cell 3 (by simp), h1.cell 4 (by simp), h1.cell 5 (by simp), h1.cell 6 (by simp), h1.cell 7 (by simp), h1.cell 8 (by simp)⟩
set_option maxHeartbeats 8000000 in
theorem rcheckU_any (u : Upd) (l : ULoc) (four paths : Bool) (w : World) (hu : UpAt w u l) (hln : u.gone.length ≤ 1100 ∧ u.come.length ≤ 1100) :
    Calls Tryd.prog 10 #[.agg (updL u l).toArray, .bool four, .bool paths] w fun e w' => e = .returned (.bool (okU u four paths)) ∧ Below w.heap.size w w' := by
  have HA := Lib.hid (newB w (.cells (updL u l).toArray 29))
  obtain ⟨V, hV⟩ : ∃ V, w.alloc (.cells (updL u l).toArray 29) = V := ⟨_, rfl⟩
  have hX := Blk.new w 29 (updL u l)
  have HV := Lib.hid hV
  rw [hV] at HA
  have HX0 : Hid (Blk V w.heap.size 29 (updL u l)) := Lib.hid (hV ▸ hX)
  have HBO := Lib.hid (fun (U : World) (hU : Below V.heap.size V U) hg hr ha => rbody_any u l four paths U (hu.below (HA.out.trans (hU.mono HA.out.size))) hg hr ha hln)
  have HCG := Lib.hid (fun (U : World) (hU : Below V.heap.size V U) => rcheckNl_any l.gp u.gone l.gn l.gc paths U (hu.gone.below (HA.out.trans (hU.mono HA.out.size))) hu.gn (Nat.le_trans hu.gc hu.gm))
  have HCR := Lib.hid (fun (U : World) (hU : Below V.heap.size V U) => rcheckNl_any l.rp u.come l.rn l.rc paths U (hu.come.below (HA.out.trans (hU.mono HA.out.size))) hu.rn (Nat.le_trans hu.rc hu.rm))
  have HCA := Lib.hid (fun (U : World) (hU : Below V.heap.size V U) => rcheck_any u.a l.l four U (hu.at_.below (HA.out.trans (hU.mono HA.out.size))))
  have HSZ := Lib.hid (fun (U : World) (hU : Below V.heap.size V U) => rsameA_zero u.a l.l U (hu.at_.below (HA.out.trans (hU.mono HA.out.size))))
  have HBL := Lib.hid (Nat.le_trans hu.rc hu.rm)
  have HRN := Lib.hid hu.rn
  obtain ⟨m, hm⟩ : ∃ m, (bodyL u four paths).length = m := ⟨_, rfl⟩
  obtain ⟨gb, hgb⟩ : ∃ b, okNls u.gone paths = b := ⟨_, rfl⟩
  obtain ⟨rb, hrb⟩ : ∃ b, okNls u.come paths = b := ⟨_, rfl⟩
  obtain ⟨ab, hab⟩ : ∃ b, okA u.a four = b := ⟨_, rfl⟩
  obtain ⟨zb, hzb⟩ : ∃ b, zeroA u.a = b := ⟨_, rfl⟩
  obtain ⟨R, hR⟩ : ∃ R, okU u four paths = R := ⟨_, rfl⟩
  have HR := Lib.hid (show R = ((!u.soft && (gb && (rb && (if l.rn = 0 then zb else ab)))) && decide ((m : Int) ≤ 4077)) by
    rw [← hR]
    unfold okU partsU saidOk
    rw [hm, hgb, hrb, hab, hzb, hu.rn]
    congr 1
    rw [decide_eq_decide]
    omega)
  rw [hm, hgb, hrb, hab] at HBO
  rw [hgb] at HCG
  rw [hrb] at HCR
  rw [hab] at HCA
  rw [hzb] at HSZ
  rw [hR]
  have hcm : l.rn = 0 → u.come = [] := fun h => List.eq_nil_of_length_eq_zero (by rw [hu.rn, h])
  have HCM := Lib.hid hcm
  have HZZ := Lib.hid (show bodyL u four paths = bodyL u four paths from rfl)
  have hm1 : m ≤ 100000 := by
    rw [← hm]
    unfold bodyL
    have h1 := nlsL_le paths u.gone
    have h2 := nlsL_le paths u.come
    have h3 := saidL_le u four
    rw [List.length_append, List.length_append, cntL_len, cntL_len]
    omega
  have hrl : l.rn ≤ 1100 := by have := hu.rn; omega
  clear hu hV hX hm hgb hrb hab hzb hcm hR HZZ hln
  obtain ⟨gone, come, ⟨origin, path, next, med, pref, comms⟩, soft⟩ := u
  obtain ⟨gp, gn, gc, rp, rn, rc, ⟨pp, pn, pc, cp, cn, cc⟩⟩ := l
  simp only [updL, atL, List.cons_append, List.nil_append] at *
  have HC := Lib.hid (fun (U : World) (hU : Below V.heap.size V U) => upd_boxes (HX0.out.below hU HX0.out.lt))
  go_enter Tryd.func10, Tryd.ntmps10
  obtain ⟨k0, k1, k2, k3, k4, k5, k6, k7, k8⟩ := HC.out V (Below.refl _ _)
  rw [← HV.out] at k0 k1 k2 k3 k4 k5 k6 k7 k8
  rcases soft with _ | _
  rotate_left
  · go_wp2_with fail
    rw [HV.out]
    go_ret
    exact ⟨by rw [HR.out]; rfl, HA.out⟩
  go_wp2_with fail
  rw [HV.out]
  refine (HCG.out V (Below.refl _ _)).mono ?_
  rintro e w1 ⟨rfl, hb⟩
  have HB1 := Lib.hid hb
  clear hb k0 k1 k2 k3 k4 k5 k6 k7 k8
  rcases gb with _ | _
  · go_wp2_with fail
    go_ret
    exact ⟨by rw [HR.out]; simp, HA.out.trans (HB1.out.mono HA.out.size)⟩
  obtain ⟨k0, k1, k2, k3, k4, k5, k6, k7, k8⟩ := HC.out w1 HB1.out
  go_wp2_with fail
  refine (HCR.out w1 HB1.out).mono ?_
  rintro e w2 ⟨rfl, hb⟩
  have HB2 := Lib.hid (HB1.out.trans (hb.mono HB1.out.size))
  clear hb k0 k1 k2 k3 k4 k5 k6 k7 k8
  rcases rb with _ | _
  · go_wp2_with fail
    go_ret
    exact ⟨by rw [HR.out]; simp, HA.out.trans (HB2.out.mono HA.out.size)⟩
  obtain ⟨k0, k1, k2, k3, k4, k5, k6, k7, k8⟩ := HC.out w2 HB2.out
  by_cases hr0 : rn = 0
  · subst hr0
    go_wp2_with fail
    refine (HSZ.out w2 HB2.out).mono ?_
    rintro e w3 ⟨rfl, hb⟩
    have HB3 := Lib.hid (HB2.out.trans (hb.mono HB2.out.size))
    clear hb k0 k1 k2 k3 k4 k5 k6 k7 k8
    rcases zb with _ | _
    · go_wp2_with fail
      go_ret
      exact ⟨by rw [HR.out]; simp, HA.out.trans (HB3.out.mono HA.out.size)⟩
    obtain ⟨k0, k1, k2, k3, k4, k5, k6, k7, k8⟩ := HC.out w3 HB3.out
    go_wp2_with fail
    refine (HBO.out w3 HB3.out (by trivial) (by trivial) (fun h => absurd (HCM.out (by trivial)) h)).mono ?_
    rintro e w4 ⟨q, c, rfl, _, hb⟩
    have HB4 := Lib.hid (HB3.out.trans (hb.mono HB3.out.size))
    clear hb k0 k1 k2 k3 k4 k5 k6 k7 k8
    go_wp2_with fail
    go_ret
    exact ⟨by rw [HR.out]; simp, HA.out.trans (HB4.out.mono HA.out.size)⟩
  · have g0 : decide ((0 : Int) < (rn : Int)) = true := decide_eq_true (by omega)
    have g1 : ((rn : Int) == 0) = false := by simp; omega
    go_wp2_with fail
    refine (HCA.out w2 HB2.out).mono ?_
    rintro e w3 ⟨rfl, hb⟩
    have HB3 := Lib.hid (HB2.out.trans (hb.mono HB2.out.size))
    clear hb k0 k1 k2 k3 k4 k5 k6 k7 k8
    rcases ab with _ | _
    · go_wp2_with fail
      go_ret
      exact ⟨by rw [HR.out]; simp [hr0], HA.out.trans (HB3.out.mono HA.out.size)⟩
    obtain ⟨k0, k1, k2, k3, k4, k5, k6, k7, k8⟩ := HC.out w3 HB3.out
    go_wp2_with fail
    refine (HBO.out w3 HB3.out (by trivial) (by trivial) (fun _ => by trivial)).mono ?_
    rintro e w4 ⟨q, c, rfl, _, hb⟩
    have HB4 := Lib.hid (HB3.out.trans (hb.mono HB3.out.size))
    clear hb k0 k1 k2 k3 k4 k5 k6 k7 k8
    go_wp2_with fail
    go_ret
    exact ⟨by rw [HR.out]; simp [hr0], HA.out.trans (HB4.out.mono HA.out.size)⟩
end Go.Proofs.YtpeagakpmjnelaaDoor.Ax
namespace Go.Proofs.YtpeagakpmjnelaaDoor.Ax
open Go.RowKit
set_option maxRecDepth 100000
set_option linter.unusedVariables false
set_option linter.unusedSimpArgs false

theorem getNls_put (paths : Bool) (l : List Nl) (hx : ∀ i, i < l.length → InAddr (l.getD i Nl.none)) (hk : okNls l paths = true) : getNls paths (nlsL paths l) = some l := by
  obtain ⟨h24, hodd⟩ := okNls_yes hk
  refine getNl_put paths l _ 0 (fun x hm => ?_) (by omega) (Nat.lt_succ_self _)
  obtain ⟨i, hi, rfl⟩ := List.getElem_of_mem hm
  have h1 := hx i hi
  have h2 := hodd i hi
  simp only [List.getD, List.getElem?_eq_getElem hi, Option.getD_some] at h1 h2
  exact ⟨h1, h2⟩
theorem cnt_num (a b : List Int) (h : a.length ≤ 9900) : numV (some (cntL a ++ b)) 2 = (a.length : Int) := by
  rw [cnt2 a _ rfl h]
  have hle : (2 : Int) ≤ (a.length : Int) + (b.length : Int) + 1 + 1 := by omega
  simp [numV, wideB, okTake, outV, getV, hle]
  omega
theorem cnt_next (a b : List Int) (h : a.length ≤ 9900) : numNext (some (cntL a ++ b)) 2 = some (a ++ b) := by
  rw [cnt2 a _ rfl h]
  simp [numNext, nextV, wideB, okTake]
  omega
theorem out_app (a b : List Int) : outV (some (a ++ b)) (a.length : Int) = a := by
  simp [outV, okTake]
  intro h
  omega
theorem next_app (a b : List Int) : nextV (some (a ++ b)) (a.length : Int) = some b := by
  simp [nextV, okTake]
  omega
theorem zeroA_eq {a : At} (h : zeroA a = true) : a = At.zero := by
  obtain ⟨o, p, n, m, f, c⟩ := a
  simp [zeroA] at h
  obtain ⟨rfl, rfl, rfl, rfl, rfl, rfl⟩ := h
  rfl
theorem getU_put (u : Upd) (four paths : Bool) (hk : okU u four paths = true) (hg : ∀ i, i < u.gone.length → InAddr (u.gone.getD i Nl.none)) (hc : ∀ i, i < u.come.length → InAddr (u.come.getD i Nl.none)) (n0 : 0 ≤ u.a.next) (n1 : u.a.next ≤ 4294967295) :
    getU (bodyL u four paths) four paths = (u, 0, 0) := by
  obtain ⟨gone, come, a, soft⟩ := u
  simp only [okU, partsU, Bool.and_eq_true, Bool.not_eq_true', decide_eq_true_eq] at hk
  obtain ⟨⟨rfl, k1, k2, k3⟩, k4⟩ := hk
  have hl := k4
  unfold bodyL at hl
  rw [List.length_append, List.length_append, cntL_len, cntL_len] at hl
  have e1 := cnt_num (nlsL paths gone) (cntL (saidL ⟨gone, come, a, false⟩ four) ++ nlsL paths come) (by simp only at hl; omega)
  have e2 := cnt_next (nlsL paths gone) (cntL (saidL ⟨gone, come, a, false⟩ four) ++ nlsL paths come) (by simp only at hl; omega)
  have e3 := cnt_num (saidL ⟨gone, come, a, false⟩ four) (nlsL paths come) (by omega)
  have e4 := cnt_next (saidL ⟨gone, come, a, false⟩ four) (nlsL paths come) (by omega)
  have r1 : s1U (bodyL ⟨gone, come, a, false⟩ four paths) = some (nlsL paths gone ++ (cntL (saidL ⟨gone, come, a, false⟩ four) ++ nlsL paths come)) := e2
  have r2 : goneB (bodyL ⟨gone, come, a, false⟩ four paths) = nlsL paths gone := by
    unfold goneB
    rw [r1]
    show outV _ (numV (some (cntL (nlsL paths gone) ++ (cntL (saidL ⟨gone, come, a, false⟩ four) ++ nlsL paths come))) 2) = _
    rw [e1, out_app]
  have r3 : s2U (bodyL ⟨gone, come, a, false⟩ four paths) = some (cntL (saidL ⟨gone, come, a, false⟩ four) ++ nlsL paths come) := by
    unfold s2U
    rw [r1]
    show nextV _ (numV (some (cntL (nlsL paths gone) ++ (cntL (saidL ⟨gone, come, a, false⟩ four) ++ nlsL paths come))) 2) = _
    rw [e1, next_app]
  have r4 : s3U (bodyL ⟨gone, come, a, false⟩ four paths) = some (saidL ⟨gone, come, a, false⟩ four ++ nlsL paths come) := by
    unfold s3U
    rw [r3, e4]
  have r5 : saidB (bodyL ⟨gone, come, a, false⟩ four paths) = saidL ⟨gone, come, a, false⟩ four := by
    unfold saidB
    rw [r4, r3, e3, out_app]
  have r6 : s4U (bodyL ⟨gone, come, a, false⟩ four paths) = some (nlsL paths come) := by
    unfold s4U
    rw [r4, r3, e3, next_app]
  unfold getU
  rw [r6]
  simp only
  rw [r2, r5, getNls_put paths gone hg k1, getNls_put paths come hc k2]
  simp only
  unfold toldU
  rcases come with _ | ⟨x, xs⟩
  · simp [saidOk] at k3
    rw [zeroA_eq k3]
    rfl
  · simp [saidOk] at k3
    rw [if_neg (by simp)]
    have hs : saidL ⟨gone, x :: xs, a, false⟩ four = putA a four := by
      unfold saidL
      rw [if_neg (by simp), if_pos k3]
    rw [hs, getA_put a four k3 n0 n1, if_pos rfl]
end Go.Proofs.YtpeagakpmjnelaaDoor.Ax
