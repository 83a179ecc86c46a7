/- update: attr.Same with attributes that are zero; attributes. / update: what comes in memory; attributes. / update: Put. -/
import Derived.Test.YtpeagakpmjnelaaDoorUqC
import Derived.Test.YtpeagakpmjnelaaDoorAD
import Derived.Test.YtpeagakpmjnelaaDoorA6
namespace Go.Proofs.YtpeagakpmjnelaaDoor.Ax
open Go.RowKit
set_option maxRecDepth 100000
set_option linter.unusedVariables false
set_option linter.unusedSimpArgs false

def zeroA (a : At) : Bool := decide (a.origin = 0) && (decide (a.next = 0) && (decide (a.med = 0) && (decide (a.pref = 0) && (decide (a.path = []) && decide (a.comms = [])))))
theorem segs_zero (p : Option Addr) (n c : Nat) (w : World) :
    Calls Tryd.prog 76 #[.slice p n c, .slice none 0 0, .func (.func 74) #[] #[]] w fun e w' => e = .returned (.bool (decide (n = 0))) ∧ w = w' := by
  go_enter Tryd.func76, Tryd.ntmps76
  by_cases h : n = 0
  · subst h
    go_wp2
    go_loopw [17] (fun i wr => i = .int .i64 0 ∧ wr = w) (fun i _ => 0)
    case atStart => exact ⟨rfl, rfl⟩
    case round =>
      obtain ⟨rfl, rfl⟩ := hrel
      go_wp2
      go_ret
      exact ⟨rfl, rfl⟩
  · have t1 : ((n : Int) != 0) = true := by simp; omega
    have HT := Lib.hid (show decide (n = 0) = false by simp [h])
    go_wp2
    go_ret
    exact ⟨by rw [HT.out]; rfl, rfl⟩
set_option maxHeartbeats 4000000 in
theorem sameA_zero (a : At) (l : Loc) (w : World) (h1 : AtAt w a l) :
    Calls Tryd.prog 54 #[.agg (atL a l).toArray, .agg #[.int .i64 0, .slice none 0 0, .int .u32 0, .int .i64 0, .int .i64 0, .slice none 0 0]] w fun e w' => e = .returned (.bool (zeroA a)) ∧ Below w.heap.size w w' := by
  obtain ⟨W, hW⟩ : ∃ W, (w.alloc (.cells (atL a l).toArray 27)).alloc (.cells #[.int .i64 0, .slice none 0 0, .int .u32 0, .int .i64 0, .int .i64 0, .slice none 0 0] 27) = W := ⟨_, rfl⟩
  have hb : Below w.heap.size w W := by rw [← hW]; exact two_below _ _ _
  have K1 := Lib.hid (show Blk W w.heap.size 27 (atL a l) by rw [← hW]; exact (Blk.new w 27 (atL a l)).alloc _)
  have K2 := Lib.hid (show Blk W (w.heap.size + 1) 27 [.int .i64 0, .slice none 0 0, .int .u32 0, .int .i64 0, .int .i64 0, .slice none 0 0] by rw [← hW, ← sz_alloc w (.cells (atL a l).toArray 27)]; exact Blk.new _ 27 [.int .i64 0, .slice none 0 0, .int .u32 0, .int .i64 0, .int .i64 0, .slice none 0 0])
  have HS := Lib.hid (segs_zero l.pp l.pn l.pc W)
  have HI := Lib.hid (ints_equal l.cp none a.comms [] l.cn 0 l.cc 0 W (h1.comms.below hb) (.inl rfl) h1.cn rfl (Nat.le_trans h1.cc h1.cm))
  have HPN := Lib.hid h1.pn
  have HB := Lib.hid hb
  have HW := Lib.hid hW
  obtain ⟨origin, path, next, med, pref, comms⟩ := a
  obtain ⟨pp, pn, pc, cp, cn, cc⟩ := l
  simp only [atL] at *
  clear h1 hW hb
  have ka0 := K1.out.cell 0 (by simp)
  have ka1 := K1.out.cell 1 (by simp)
  have ka2 := K1.out.cell 2 (by simp)
  have ka3 := K1.out.cell 3 (by simp)
  have ka4 := K1.out.cell 4 (by simp)
  have ka5 := K1.out.cell 5 (by simp)
  have kb0 := K2.out.cell 0 (by simp)
  have kb1 := K2.out.cell 1 (by simp)
  have kb2 := K2.out.cell 2 (by simp)
  have kb3 := K2.out.cell 3 (by simp)
  have kb4 := K2.out.cell 4 (by simp)
  have kb5 := K2.out.cell 5 (by simp)
  have kd := And.intro ka1 (And.intro ka5 (And.intro kb1 kb5))
  rw [← HW.out] at ka0 ka1 ka2 ka3 ka4 ka5 kb0 kb1 kb2 kb3 kb4 kb5
  go_enter Tryd.func54, Tryd.ntmps54
  by_cases h0 : origin = 0
  · subst h0
    by_cases h2 : next = 0
    · subst h2
      by_cases h3 : med = 0
      · subst h3
        by_cases h4 : pref = 0
        · subst h4
          have HZ := Lib.hid (show zeroA ⟨0, path, 0, 0, 0, comms⟩ = (decide (pn = 0) && (comms == [])) by
            unfold zeroA
            have := HPN.out
            rw [show decide (path = []) = decide (pn = 0) from by rw [decide_eq_decide, ← this, List.length_eq_zero_iff]]
            cases comms <;> simp)
          go_wp2_with fail
          rw [HW.out]
          refine HS.out.mono ?_; rintro e w1 ⟨rfl, rfl⟩
          obtain ⟨ka1, ka5, kb1, kb5⟩ := kd
          by_cases hp : pn = 0
          · subst hp
            obtain ⟨bc, hbc⟩ : ∃ bc, (comms == []) = bc := ⟨_, rfl⟩
            have HBC := Lib.hid hbc
            rw [hbc] at HI
            clear hbc
            go_wp2_with fail
            refine HI.out.mono ?_; rintro e w2 ⟨rfl, hb⟩
            have HB2 := Lib.hid (HB.out.trans (hb.mono HB.out.size))
            clear hb
            go_wp2_with fail
            go_ret
            exact ⟨by rw [HZ.out, HBC.out]; rfl, HB2.out⟩
          · have hp2 : decide (pn = 0) = false := decide_eq_false hp
            rw [hp2] at HZ
            have HB0 := Lib.hid HB.out
            go_wp2_with fail
            go_ret
            exact ⟨by rw [HZ.out]; rfl, HB0.out⟩
        · have HZ := Lib.hid (show zeroA ⟨0, path, 0, 0, pref, comms⟩ = false by unfold zeroA; simp [h4])
          have e1 : (pref == 0) = false := by simpa using h4
          clear kd
          go_wp2_with fail
          rw [HW.out]
          go_ret
          exact ⟨by rw [HZ.out]; rfl, HB.out⟩
      · have HZ := Lib.hid (show zeroA ⟨0, path, 0, med, pref, comms⟩ = false by unfold zeroA; simp [h3])
        have e1 : (med == 0) = false := by simpa using h3
        clear kd
        go_wp2_with fail
        rw [HW.out]
        go_ret
        exact ⟨by rw [HZ.out]; rfl, HB.out⟩
    · have HZ := Lib.hid (show zeroA ⟨0, path, next, med, pref, comms⟩ = false by unfold zeroA; simp [h2])
      have e1 : (next == 0) = false := by simpa using h2
      clear kd
      go_wp2_with fail
      rw [HW.out]
      go_ret
      exact ⟨by rw [HZ.out]; rfl, HB.out⟩
  · have HZ := Lib.hid (show zeroA ⟨origin, path, next, med, pref, comms⟩ = false by unfold zeroA; simp [h0])
    have e1 : (origin == 0) = false := by simpa using h0
    clear kd
    go_wp2_with fail
    rw [HW.out]
    go_ret
    exact ⟨by rw [HZ.out]; rfl, HB.out⟩
end Go.Proofs.YtpeagakpmjnelaaDoor.Ax
namespace Go.Proofs.YtpeagakpmjnelaaDoor.Ax
open Go.RowKit
set_option maxRecDepth 100000
set_option linter.unusedVariables false
set_option linter.unusedSimpArgs false

/-- An update, and where its lists lie. -/
structure Upd where
  intro ::
  gone : List Nl
  come : List Nl
  a : At
  soft : Bool
structure ULoc where
  intro ::
  gp : Option Addr
  gn : Nat
  gc : Nat
  rp : Option Addr
  rn : Nat
  rc : Nat
  l : Loc
def updL (u : Upd) (l : ULoc) : List Value := [.slice l.gp l.gn l.gc, .slice l.rp l.rn l.rc] ++ atL u.a l.l ++ [.bool u.soft]
structure UpAt (w : World) (u : Upd) (l : ULoc) : Prop where
  intro ::
  gone : NlsAt w l.gp u.gone
  gn : u.gone.length = l.gn
  gc : l.gn ≤ l.gc
  gm : l.gc ≤ maxLen
  come : NlsAt w l.rp u.come
  rn : u.come.length = l.rn
  rc : l.rn ≤ l.rc
  rm : l.rc ≤ maxLen
  at_ : AtAt w u.a l.l
theorem UpAt.below {w w' : World} {u : Upd} {l : ULoc} (h : UpAt w u l) (hb : Below w.heap.size w w') : UpAt w' u l := ⟨h.gone.below hb, h.gn, h.gc, h.gm, h.come.below hb, h.rn, h.rc, h.rm, h.at_.below hb⟩
def saidOk (u : Upd) (four : Bool) : Bool := if u.come.length = 0 then zeroA u.a else okA u.a four
def saidL (u : Upd) (four : Bool) : List Int := if u.come.length = 0 then [] else if okA u.a four then putA u.a four else []
set_option maxHeartbeats 4000000 in
theorem attributes_any (u : Upd) (l : ULoc) (four : Bool) (w : World) (ht : Tab w) (hu : UpAt w u l) :
    Calls Tryd.prog 28 #[.agg (updL u l).toArray, .bool four] w fun e w' => ∃ q cap, e = .returned (.tuple #[.slice q (saidL u four).length cap, .bool (saidOk u four)]) ∧ Own w' w.heap.size q cap (saidL u four) ∧ Below w.heap.size w w' := by
  have HA := Lib.hid (newB w (.cells (updL u l).toArray 29))
  have hX := Blk.new w 29 (updL u l)
  obtain ⟨V, hV⟩ : ∃ V, w.alloc (.cells (updL u l).toArray 29) = V := ⟨_, rfl⟩
  obtain ⟨P, hP⟩ : ∃ P, w.heap.size = P := ⟨_, rfl⟩
  have hX : Blk V P 29 (updL u l) := hP ▸ hV ▸ hX
  rw [hV] at HA
  have HT := Lib.hid (ht.below HA.out)
  have HU := Lib.hid (hu.below HA.out)
  have HX := Lib.hid hX
  have HV := Lib.hid hV
  have HP := Lib.hid hP
  have HRN := Lib.hid hu.rn
  have HSZ := Lib.hid (sameA_zero u.a l.l V HU.out.at_)
  have HPO := Lib.hid (fun hk => putA_ok u.a l.l four V HT.out HU.out.at_ hk)
  have HPN := Lib.hid (fun hk => putA_no u.a l.l four V HU.out.at_ hk)
  obtain ⟨gone, come, ⟨origin, path, next, med, pref, comms⟩, soft⟩ := u
  obtain ⟨gp, gn, gc, rp, rn, rc, ⟨pp, pn, pc, cp, cn, cc⟩⟩ := l
  simp only [updL, atL, List.cons_append, List.nil_append] at *
  have k0 := HX.out.cell 0 (by simp)
  have k1 := HX.out.cell 1 (by simp)
  have k2 := HX.out.cell 2 (by simp)
  have k3 := HX.out.cell 3 (by simp)
  have k4 := HX.out.cell 4 (by simp)
  have k5 := HX.out.cell 5 (by simp)
  have k6 := HX.out.cell 6 (by simp)
  have k7 := HX.out.cell 7 (by simp)
  have k8 := HX.out.cell 8 (by simp)
  clear hX hV hP ht hu
  have HSO := Lib.hid (show saidOk ⟨gone, come, ⟨origin, path, next, med, pref, comms⟩, soft⟩ four = if rn = 0 then zeroA ⟨origin, path, next, med, pref, comms⟩ else okA ⟨origin, path, next, med, pref, comms⟩ four by unfold saidOk; simp only [HRN.out])
  have HSL := Lib.hid (show saidL ⟨gone, come, ⟨origin, path, next, med, pref, comms⟩, soft⟩ four = if rn = 0 then [] else if okA ⟨origin, path, next, med, pref, comms⟩ four then putA ⟨origin, path, next, med, pref, comms⟩ four else [] by unfold saidL; simp only [HRN.out])
  go_enter Tryd.func28, Tryd.ntmps28
  by_cases hr : rn = 0
  · subst hr
    rw [if_pos rfl] at HSO HSL
    go_wp2_with fail
    rw [HV.out]
    refine HSZ.out.mono ?_
    rintro e w2 ⟨rfl, hb⟩
    have HB := Lib.hid (HA.out.trans (hb.mono HA.out.size))
    clear hb k0 k1 k2 k3 k4 k5 k6 k7 k8
    go_wp2_with fail
    refine bodyPost_ret (v := .tuple #[.slice none 0 0, .bool (zeroA ⟨origin, path, next, med, pref, comms⟩)]) (by simp [results, Tryd.results28, go_sem]) rfl ⟨none, 0, by rw [HSL.out, HSO.out]; rfl, by rw [HSL.out]; exact Own.nil _ _, HB.out⟩
  · have hr0 : ((rn : Int) == 0) = false := by simp; omega
    rw [if_neg hr] at HSO HSL
    obtain ⟨ok, hok⟩ : ∃ ok, okA ⟨origin, path, next, med, pref, comms⟩ four = ok := ⟨_, rfl⟩
    rw [hok] at HSO HSL HPO HPN
    rcases ok with _ | _
    · rw [if_neg (by decide)] at HSL
      go_wp2_with fail
      rw [HV.out]
      refine (HPN.out (by first | trivial | rfl)).mono ?_
      rintro e w2 ⟨rfl, hb⟩
      have HB := Lib.hid (HA.out.trans (hb.mono HA.out.size))
      clear hb k0 k1 k2 k3 k4 k5 k6 k7 k8
      go_wp2_with fail
      refine bodyPost_ret (v := .tuple #[.slice none 0 0, .bool false]) (by simp [results, Tryd.results28, go_sem]) rfl ⟨none, 0, by rw [HSL.out, HSO.out]; rfl, by rw [HSL.out]; exact Own.nil _ _, HB.out⟩
    · rw [if_pos rfl] at HSL
      go_wp2_with fail
      rw [HV.out]
      refine (HPO.out (by first | trivial | rfl)).mono ?_
      rintro e w2 ⟨q, cap, rfl, hO, hb⟩
      have HO := Lib.hid (hO.mono HA.out.size)
      have HB := Lib.hid (HA.out.trans (hb.mono HA.out.size))
      clear hb hO k0 k1 k2 k3 k4 k5 k6 k7 k8
      obtain ⟨m, hm⟩ : ∃ m, (putA ⟨origin, path, next, med, pref, comms⟩ four).length = m := ⟨_, rfl⟩
      have HM := Lib.hid hm
      rw [hm]
      clear hm
      go_wp2_with fail
      refine bodyPost_ret (v := .tuple #[.slice q m cap, .bool true]) (by simp [results, Tryd.results28, go_sem]) rfl ⟨q, cap, by rw [HSL.out, HSO.out, HM.out], by rw [HSL.out]; exact HO.out, HB.out⟩
end Go.Proofs.YtpeagakpmjnelaaDoor.Ax
namespace Go.Proofs.YtpeagakpmjnelaaDoor.Ax
open Go.RowKit
set_option maxRecDepth 100000
set_option linter.unusedVariables false
set_option linter.unusedSimpArgs false

theorem attrL_le (fl k : Int) (d : List Int) : (attrL fl k d).length ≤ d.length + 4 := by
  unfold attrL
  split
  · simp
  · simp [putL_len]; omega
theorem putA_le {a : At} {four : Bool} (h : okA a four = true) : (putA a four).length ≤ 3000 := by
  have hp := (okA_parts h).1
  have h1 := attrL_le 64 1 [a.origin]
  have h2 := attrL_le 64 2 (segsL four a.path)
  have h2' := segsL_le hp.path
  have h3 := attrL_le 64 3 (putL a.next 4)
  have h4 : (medL a.med).length ≤ 8 := by unfold medL; split <;> first | (have := attrL_le 128 4 (putL a.med 4); rw [putL_len] at this; exact this) | simp
  have h5 : (prefL a.pref).length ≤ 8 := by unfold prefL; split <;> first | (have := attrL_le 64 5 (putL a.pref 4); rw [putL_len] at this; exact this) | simp
  have h6 : (commsL a.comms).length ≤ 132 := by
    unfold commsL; split
    · have := attrL_le 192 8 (numsL 4 a.comms); rw [numsL_len] at this; have := hp.c0; omega
    · simp
  rw [putL_len] at h3
  simp only [List.length_cons, List.length_nil] at h1
  unfold putA
  simp only [List.length_append]
  omega
theorem nlL_le (paths : Bool) (x : Nl) : (nlL paths x).length ≤ 9 := by
  have := pfxL_le x.addr x.len
  unfold nlL
  rw [List.length_append]
  cases paths
  · simp; omega
  · simp [putL_len]; omega
theorem nlsL_le (paths : Bool) : ∀ l : List Nl, (nlsL paths l).length ≤ 9 * l.length
  | [] => by simp [nlsL]
  | x :: l => by
    have := nlsL_le paths l
    have := nlL_le paths x
    unfold nlsL at *
    rw [List.flatMap_cons, List.length_append, List.length_cons]
    omega
theorem saidL_le (u : Upd) (four : Bool) : (saidL u four).length ≤ 3000 := by
  unfold saidL
  split
  · simp
  · split
    · rename_i h; exact putA_le h
    · simp
def partsU (u : Upd) (four paths : Bool) : Bool := !u.soft && (okNls u.gone paths && (okNls u.come paths && saidOk u four))
def bodyL (u : Upd) (four paths : Bool) : List Int := cntL (nlsL paths u.gone) ++ (cntL (saidL u four) ++ nlsL paths u.come)
def okU (u : Upd) (four paths : Bool) : Bool := partsU u four paths && decide ((bodyL u four paths).length ≤ 4077)
/-- nlri.Put, whatever may be. -/
theorem putNl_to (p : Option Addr) (l : List Nl) (n c : Nat) (paths : Bool) (w : World) (hx : NlsAt w p l) (hn : l.length = n) (hm : n ≤ maxLen) :
    Calls Tryd.prog 27 #[.slice p n c, .bool paths] w fun e w' => ∃ q m cap en, e = .returned (.tuple #[.slice q m cap, .int .i64 en]) ∧ (en = if okNls l paths then 0 else 60) ∧ (okNls l paths = true → m = (nlsL paths l).length ∧ Own w' w.heap.size q cap (nlsL paths l)) ∧ Below w.heap.size w w' := by
  rcases hk : okNls l paths with _ | _
  · refine (putNl_no p l n c paths w hx hn hm hk).mono ?_
    rintro e w' ⟨rfl, hb⟩
    exact ⟨none, 0, 0, 60, rfl, rfl, fun h => by simp at h, hb⟩
  · refine (putNl_ok p l n c paths w hx hn hk).mono ?_
    rintro e w' ⟨q, cap, rfl, hO, hb⟩
    exact ⟨q, _, cap, 0, rfl, rfl, fun _ => ⟨rfl, hO⟩, hb⟩
set_option maxHeartbeats 8000000 in
theorem putU_any (u : Upd) (l : ULoc) (four paths : Bool) (w : World) (ht : Tab w) (hu : UpAt w u l) :
    Calls Tryd.prog 9 #[.agg (updL u l).toArray, .bool four, .bool paths] w fun e w' => (okU u four paths = true → ∃ q cap, e = .returned (.tuple #[.agg #[.int .i64 2, .slice q (bodyL u four paths).length cap], .int .i64 0]) ∧ Own w' w.heap.size q cap (bodyL u four paths)) ∧ (okU u four paths = false → e = .returned (.tuple #[.agg #[.int .i64 0, .slice none 0 0], .int .i64 70])) ∧ Below w.heap.size w w' := by
  have HA := Lib.hid (two_below w (.cells (updL u l).toArray 29) (.cells #[.int .i64 0, .slice none 0 0] 34))
  have hX := (Blk.new w 29 (updL u l)).alloc (.cells #[.int .i64 0, .slice none 0 0] 34)
  have hR := Blk.new (w.alloc (.cells (updL u l).toArray 29)) 34 [.int .i64 0, .slice none 0 0]
  rw [sz_alloc] at hR
  obtain ⟨V, hV⟩ : ∃ V, (w.alloc (.cells (updL u l).toArray 29)).alloc (.cells #[.int .i64 0, .slice none 0 0] 34) = V := ⟨_, rfl⟩
  obtain ⟨P, hP⟩ : ∃ P, w.heap.size = P := ⟨_, rfl⟩
  have hX : Blk V P 29 (updL u l) := hP ▸ hV ▸ hX
  have hR : Blk V (P + 1) 34 [.int .i64 0, .slice none 0 0] := hP ▸ hV ▸ hR
  rw [hV] at HA
  have HRS := Lib.hid hR
  clear hR
  have HT := Lib.hid (ht.below HA.out)
  have HU := Lib.hid (hu.below HA.out)
  have HX := Lib.hid hX
  have HV := Lib.hid hV
  have HP := Lib.hid hP
  have HG := Lib.hid (fun (U : World) (hU : Below V.heap.size V U) => putNl_to l.gp u.gone l.gn l.gc paths U (HU.out.gone.below hU) HU.out.gn (Nat.le_trans HU.out.gc HU.out.gm))
  have HR := Lib.hid (fun (U : World) (hU : Below V.heap.size V U) => putNl_to l.rp u.come l.rn l.rc paths U (HU.out.come.below hU) HU.out.rn (Nat.le_trans HU.out.rc HU.out.rm))
  have HAT := Lib.hid (fun (U : World) (hU : Below V.heap.size V U) => attributes_any u l four U (HT.out.below hU) (HU.out.below hU))
  have HCK := Lib.hid (show ∀ U : World, Below V.heap.size V U → Blk U P 29 (updL u l) from fun U hU => HX.out.next hU)
  obtain ⟨og, hog⟩ : ∃ og, okNls u.gone paths = og := ⟨_, rfl⟩
  obtain ⟨oc, hoc⟩ : ∃ oc, okNls u.come paths = oc := ⟨_, rfl⟩
  obtain ⟨os, hos⟩ : ∃ os, saidOk u four = os := ⟨_, rfl⟩
  obtain ⟨sn, hsn⟩ : ∃ sn, (saidL u four).length = sn := ⟨_, rfl⟩
  have HSN := Lib.hid (show sn ≤ 3000 from hsn ▸ saidL_le u four)
  have HOG := Lib.hid hog
  have HOC := Lib.hid hoc
  have HSL := Lib.hid hsn
  have HPU := Lib.hid (show partsU u four paths = (!u.soft && (og && (oc && os))) by unfold partsU; rw [hog, hoc, hos])
  rw [hog] at HG
  rw [hoc] at HR
  rw [hos, hsn] at HAT
  clear hX hV hP ht hu hog hoc hos hsn
  obtain ⟨gone, come, ⟨origin, path, next, med, pref, comms⟩, soft⟩ := u
  obtain ⟨gp, gn, gc, rp, rn, rc, ⟨pp, pn, pc, cp, cn, cc⟩⟩ := l
  simp only [updL, atL, List.cons_append, List.nil_append] at *
  have k0 := HX.out.cell 0 (by simp)
  rw [← HV.out, ← HP.out] at k0
  go_enter Tryd.func9, Tryd.ntmps9
  go_wp2_with fail
  rw [HV.out, HP.out]
  refine (HG.out V (Below.refl _ _)).mono ?_
  rintro e w1 ⟨q1, m1, c1, e1, rfl, he1, h1, hb⟩
  have HE1 := Lib.hid he1
  clear he1
  have H1 := Lib.hid h1
  have HB1 := Lib.hid hb
  clear h1 hb k0
  have k1 := (HCK.out w1 HB1.out).cell 1 (by simp)
  go_wp2_with fail
  refine (HR.out w1 HB1.out).mono ?_
  rintro e w2 ⟨q2, m2, c2, e2, rfl, he2, h2, hb⟩
  have HE2 := Lib.hid he2
  clear he2
  have H2 := Lib.hid h2
  have HB2 := Lib.hid (HB1.out.trans (hb.mono HB1.out.size))
  have HB12 := Lib.hid hb
  clear h2 hb k1
  have k0 := (HCK.out w2 HB2.out).cell 0 (by simp)
  have k1 := (HCK.out w2 HB2.out).cell 1 (by simp)
  have k2 := (HCK.out w2 HB2.out).cell 2 (by simp)
  have k3 := (HCK.out w2 HB2.out).cell 3 (by simp)
  have k4 := (HCK.out w2 HB2.out).cell 4 (by simp)
  have k5 := (HCK.out w2 HB2.out).cell 5 (by simp)
  have k6 := (HCK.out w2 HB2.out).cell 6 (by simp)
  have k7 := (HCK.out w2 HB2.out).cell 7 (by simp)
  have k8 := (HCK.out w2 HB2.out).cell 8 (by simp)
  go_wp2_with fail
  refine (HAT.out w2 HB2.out).mono ?_
  rintro e w3 ⟨q3, c3, rfl, h3, hb⟩
  have H3 := Lib.hid h3
  have HB3 := Lib.hid (HB2.out.trans (hb.mono HB2.out.size))
  have HB23 := Lib.hid hb
  clear h3 hb k0 k1 k2 k3 k4 k5 k6 k7 k8
  have k8 := (HCK.out w3 HB3.out).cell 8 (by simp)
  have HBW := Lib.hid (HA.out.trans (HB3.out.mono HA.out.size))
  have hr3 := HRS.out.next HB3.out
  have r0 : w3.cell? ⟨P + 1, 0, none⟩ = some (.int .i64 0) := hr3.cell 0 (by simp)
  have r1 : w3.cell? ⟨P + 1, 1, none⟩ = some (.slice none 0 0) := hr3.cell 1 (by simp)
  have f0 := hr3.f 0
  have f1 := hr3.f 1
  have T0 := Lib.hid (show (w3.setCell ⟨P + 1, 0, none⟩ (.int .i64 0)).cell? ⟨P + 1, 0, none⟩ = some (.int .i64 0) from (hr3.set 0 (.int .i64 0)).cell 0 (by simp))
  have T1 := Lib.hid (show ((w3.setCell ⟨P + 1, 0, none⟩ (.int .i64 0)).setCell ⟨P + 1, 1, none⟩ (.slice none 0 0)).cell? ⟨P + 1, 1, none⟩ = some (.slice none 0 0) from ((hr3.set 0 (.int .i64 0)).set 1 (.slice none 0 0)).cell 1 (by simp))
  have HR3 := Lib.hid hr3
  clear hr3
  have HBF := Lib.hid (show Below w.heap.size w ((w3.setCell ⟨P + 1, 0, none⟩ (.int .i64 0)).setCell ⟨P + 1, 1, none⟩ (.slice none 0 0)) from (HBW.out.setCell (by rw [HP.out]; exact Nat.le_succ P) _).setCell (by rw [HP.out]; exact Nat.le_succ P) _)
  rcases soft with _ | _
  · rcases og with _ | _
    · obtain rfl : e1 = 60 := HE1.out
      have HF := Lib.hid (show okU ⟨gone, come, ⟨origin, path, next, med, pref, comms⟩, false⟩ four paths = false by unfold okU; rw [HPU.out]; simp)
      go_wp2_with fail
      have t0 := T0.out
      have t1 := T1.out
      exact bodyPost_ret (v := .tuple #[.agg #[.int .i64 0, .slice none 0 0], .int .i64 70]) (by simp [results, Tryd.results9, go_sem, t0, t1]) rfl ⟨fun h => (by rw [HF.out] at h; cases h), fun _ => rfl, HBF.out⟩
    · obtain rfl : e1 = 0 := HE1.out
      rcases oc with _ | _
      · obtain rfl : e2 = 60 := HE2.out
        have HF := Lib.hid (show okU ⟨gone, come, ⟨origin, path, next, med, pref, comms⟩, false⟩ four paths = false by unfold okU; rw [HPU.out]; simp)
        go_wp2_with fail
        have t0 := T0.out
        have t1 := T1.out
        exact bodyPost_ret (v := .tuple #[.agg #[.int .i64 0, .slice none 0 0], .int .i64 70]) (by simp [results, Tryd.results9, go_sem, t0, t1]) rfl ⟨fun h => (by rw [HF.out] at h; cases h), fun _ => rfl, HBF.out⟩
      · obtain rfl : e2 = 0 := HE2.out
        rcases os with _ | _
        · have HF := Lib.hid (show okU ⟨gone, come, ⟨origin, path, next, med, pref, comms⟩, false⟩ four paths = false by unfold okU; rw [HPU.out]; simp)
          go_wp2_with fail
          have t0 := T0.out
          have t1 := T1.out
          exact bodyPost_ret (v := .tuple #[.agg #[.int .i64 0, .slice none 0 0], .int .i64 70]) (by simp [results, Tryd.results9, go_sem, t0, t1]) rfl ⟨fun h => (by rw [HF.out] at h; cases h), fun _ => rfl, HBF.out⟩
        · obtain ⟨rfl, ho1⟩ := H1.out (by first | trivial | rfl)
          obtain ⟨rfl, ho2⟩ := H2.out (by first | trivial | rfl)
          have HL1 := Lib.hid (okNls_yes HOG.out).1
          have HL2 := Lib.hid (okNls_yes HOC.out).1
          obtain ⟨m1, hm1⟩ : ∃ m, (nlsL paths gone).length = m := ⟨_, rfl⟩
          obtain ⟨m2, hm2⟩ : ∃ m, (nlsL paths come).length = m := ⟨_, rfl⟩
          have HM1 := Lib.hid hm1
          have HM2 := Lib.hid hm2
          have hm1l : m1 ≤ 9216 := by have := nlsL_le paths gone; have := HL1.out; omega
          have hm2l : m2 ≤ 9216 := by have := nlsL_le paths come; have := HL2.out; omega
          have HO1 := Lib.hid (ho1.below HB12.out)
          have HO1 := Lib.hid (HO1.out.below HB23.out)
          have HO2 := Lib.hid (ho2.below HB23.out)
          rw [hm1, hm2]
          clear ho1 ho2 hm1 hm2
          have HC1 := Lib.hid (counted_any q1 (nlsL paths gone) m1 c1 w3 HO1.out.bytes HM1.out (by omega))
          go_wp2_with fail
          refine HC1.out.mono ?_
          rintro e w4 ⟨q4, c4, rfl, hO, hb⟩
          have HO4 := Lib.hid hO
          have HB4 := Lib.hid hb
          clear hO hb HC1
          have HC2 := Lib.hid (counted_any q3 (saidL ⟨gone, come, ⟨origin, path, next, med, pref, comms⟩, false⟩ four) sn c3 w4 (H3.out.below HB4.out).bytes HSL.out (by have := HSN.out; omega))
          go_wp2_with fail
          refine HC2.out.mono ?_
          rintro e w5 ⟨q5, c5, rfl, hO, hb⟩
          have HO5 := Lib.hid hO
          have HB5 := Lib.hid hb
          clear hO hb HC2
          have HD3 := Lib.hid (show (cntL (nlsL paths gone)).length = 2 + m1 ∧ (cntL (saidL ⟨gone, come, ⟨origin, path, next, med, pref, comms⟩, false⟩ four)).length = 2 + sn from ⟨by rw [cntL_len, HM1.out], by rw [cntL_len, HSL.out]⟩)
          have HBD := Lib.hid (show catL [(q4, cntL (nlsL paths gone), c4), (q5, cntL (saidL ⟨gone, come, ⟨origin, path, next, med, pref, comms⟩, false⟩ four), c5), (q2, nlsL paths come, c2)] = bodyL ⟨gone, come, ⟨origin, path, next, med, pref, comms⟩, false⟩ four paths by unfold catL bodyL; simp)
          have HK := Blk.new w5 32 [.slice q4 (2 + m1) c4, .slice q5 (2 + sn) c5, .slice q2 m2 c2]
          have hb6 : Below w5.heap.size w5 (w5.alloc (.cells #[.slice q4 (2 + m1) c4, .slice q5 (2 + sn) c5, .slice q2 m2 c2] 32)) := newB _ _
          obtain ⟨W6, hW6⟩ : ∃ W, w5.alloc (.cells #[.slice q4 (2 + m1) c4, .slice q5 (2 + sn) c5, .slice q2 m2 c2] 32) = W := ⟨_, rfl⟩
          obtain ⟨G, hG⟩ : ∃ G, w5.heap.size = G := ⟨_, rfl⟩
          have HK : Blk W6 G 32 [.slice q4 (2 + m1) c4, .slice q5 (2 + sn) c5, .slice q2 m2 c2] := hG ▸ hW6 ▸ HK
          rw [hW6] at hb6
          have HCA := Lib.hid (show CatAt W6 G [(q4, cntL (nlsL paths gone), c4), (q5, cntL (saidL ⟨gone, come, ⟨origin, path, next, med, pref, comms⟩, false⟩ four), c5), (q2, nlsL paths come, c2)] from ⟨fun i s hs => by
            match i, hs with
            | 0, hs => cases hs; exact ⟨by rw [HD3.out.1]; exact HK.cell 0 (by simp), ((HO4.out.below HB5.out).below hb6).bytes⟩
            | 1, hs => cases hs; exact ⟨by rw [HD3.out.2]; exact HK.cell 1 (by simp), (HO5.out.below hb6).bytes⟩
            | 2, hs => cases hs; exact ⟨by rw [HM2.out]; exact HK.cell 2 (by simp), (((HO2.out.below HB4.out).below HB5.out).below hb6).bytes⟩⟩)
          have HB6 := Lib.hid (HB4.out.trans ((HB5.out.trans (hb6.mono HB5.out.size)).mono HB4.out.size))
          have HW6 := Lib.hid hW6
          have HGG := Lib.hid hG
          have hbl : (bodyL ⟨gone, come, ⟨origin, path, next, med, pref, comms⟩, false⟩ four paths).length = 2 + m1 + (2 + sn + m2) := by
            unfold bodyL
            rw [List.length_append, List.length_append, HD3.out.1, HD3.out.2, HM2.out]
          have HCC := concat_any _ 3 3 G W6 HCA.out rfl (by omega) (by rw [HBD.out, hbl]; have := HSN.out; omega)
          rw [HBD.out, hbl] at HCC
          have HCC := Lib.hid HCC
          have HBL := Lib.hid hbl
          clear hb6 hW6 hG HK hbl
          go_wp2_with fail
          rw [HW6.out, HGG.out]
          refine HCC.out.mono ?_
          rintro e w7 ⟨q7, c7, rfl, hO, hb⟩
          have HO7 := Lib.hid hO
          have HB7 := Lib.hid (HB6.out.trans (hb.mono HB6.out.size))
          have HSW := Lib.hid (show w.heap.size ≤ W6.heap.size from Nat.le_trans HBW.out.size HB6.out.size)
          clear hO hb r0 r1 f0 f1
          obtain ⟨M, hM⟩ : ∃ M, 2 + m1 + (2 + sn + m2) = M := ⟨_, rfl⟩
          have HMM := Lib.hid hM
          rw [hM]
          clear hM
          have hr7 := HR3.out.next HB7.out
          have r0 : w7.cell? ⟨P + 1, 0, none⟩ = some (.int .i64 0) := hr7.cell 0 (by simp)
          have r1 : w7.cell? ⟨P + 1, 1, none⟩ = some (.slice none 0 0) := hr7.cell 1 (by simp)
          have f0 := hr7.f 0
          have f1 := hr7.f 1
          have HR7 := Lib.hid hr7
          have HBW7 := Lib.hid (HBW.out.trans (HB7.out.mono HBW.out.size))
          clear hr7
          by_cases hbig : 4077 < M
          · have hb1 : (4077 : Int) < (M : Int) := by omega
            have hb2 : decide ((4077 : Int) < (M : Int)) = true := decide_eq_true hb1
            have HF := Lib.hid (show okU ⟨gone, come, ⟨origin, path, next, med, pref, comms⟩, false⟩ four paths = false by unfold okU; rw [HBL.out, HMM.out, decide_eq_false (by omega)]; simp)
            have T0 := Lib.hid (show (w7.setCell ⟨P + 1, 0, none⟩ (.int .i64 0)).cell? ⟨P + 1, 0, none⟩ = some (.int .i64 0) from (HR7.out.set 0 (.int .i64 0)).cell 0 (by simp))
            have T1 := Lib.hid (show ((w7.setCell ⟨P + 1, 0, none⟩ (.int .i64 0)).setCell ⟨P + 1, 1, none⟩ (.slice none 0 0)).cell? ⟨P + 1, 1, none⟩ = some (.slice none 0 0) from ((HR7.out.set 0 (.int .i64 0)).set 1 (.slice none 0 0)).cell 1 (by simp))
            have HBF := Lib.hid (show Below w.heap.size w ((w7.setCell ⟨P + 1, 0, none⟩ (.int .i64 0)).setCell ⟨P + 1, 1, none⟩ (.slice none 0 0)) from (HBW7.out.setCell (by rw [HP.out]; exact Nat.le_succ P) _).setCell (by rw [HP.out]; exact Nat.le_succ P) _)
            go_wp2_with fail
            have t0 := T0.out
            have t1 := T1.out
            exact bodyPost_ret (v := .tuple #[.agg #[.int .i64 0, .slice none 0 0], .int .i64 70]) (by simp [results, Tryd.results9, go_sem, t0, t1]) rfl ⟨fun h => (by rw [HF.out] at h; cases h), fun _ => rfl, HBF.out⟩
          · have hb1 : ¬ (4077 : Int) < (M : Int) := by omega
            have hb2 : decide ((4077 : Int) < (M : Int)) = false := decide_eq_false hb1
            have HF := Lib.hid (show okU ⟨gone, come, ⟨origin, path, next, med, pref, comms⟩, false⟩ four paths = true by unfold okU; rw [HBL.out, HMM.out, decide_eq_true (by omega), HPU.out]; simp)
            have T0 := Lib.hid (show (w7.setCell ⟨P + 1, 0, none⟩ (.int .i64 2)).cell? ⟨P + 1, 0, none⟩ = some (.int .i64 2) from (HR7.out.set 0 (.int .i64 2)).cell 0 (by simp))
            have T1 := Lib.hid (show ((w7.setCell ⟨P + 1, 0, none⟩ (.int .i64 2)).setCell ⟨P + 1, 1, none⟩ (.slice q7 M c7)).cell? ⟨P + 1, 1, none⟩ = some (.slice q7 M c7) from ((HR7.out.set 0 (.int .i64 2)).set 1 (.slice q7 M c7)).cell 1 (by simp))
            have HBF := Lib.hid (show Below w.heap.size w ((w7.setCell ⟨P + 1, 0, none⟩ (.int .i64 2)).setCell ⟨P + 1, 1, none⟩ (.slice q7 M c7)) from (HBW7.out.setCell (by rw [HP.out]; exact Nat.le_succ P) _).setCell (by rw [HP.out]; exact Nat.le_succ P) _)
            go_wp2_with fail
            have t0 := T0.out
            have t1 := T1.out
            have hlt : P + 1 < W6.heap.size := Nat.lt_of_lt_of_le HR3.out.lt HB6.out.size
            exact bodyPost_ret (v := .tuple #[.agg #[.int .i64 2, .slice q7 M c7], .int .i64 0]) (by simp [results, Tryd.results9, go_sem, t0, t1]) rfl ⟨fun _ => ⟨q7, c7, by rw [HBL.out, HMM.out], ((HO7.out.setBelow (a := ⟨P + 1, 0, none⟩) hlt _).setBelow (a := ⟨P + 1, 1, none⟩) hlt _).mono HSW.out⟩, fun h => (by rw [HF.out] at h; cases h), HBF.out⟩
  · have HF := Lib.hid (show okU ⟨gone, come, ⟨origin, path, next, med, pref, comms⟩, true⟩ four paths = false by unfold okU; rw [HPU.out]; simp)
    go_wp2_with fail
    have t0 := T0.out
    have t1 := T1.out
    exact bodyPost_ret (v := .tuple #[.agg #[.int .i64 0, .slice none 0 0], .int .i64 70]) (by simp [results, Tryd.results9, go_sem, t0, t1]) rfl ⟨fun h => (by rw [HF.out] at h; cases h), fun _ => rfl, HBF.out⟩
end Go.Proofs.YtpeagakpmjnelaaDoor.Ax
