/- 'OpenPuts': which routers may say what, and its bytes; it is got. -/
import Derived.Test.YthpadbeilecpeaaDoorO9
import Derived.Test.YthpadbeilecpeaaDoorOC
import Derived.Test.YthpadbeilecpeaaDoorOE
namespace Go.Proofs.YthpadbeilecpeaaDoor
open Go.RowKit

def leastL : List Int := [0, 10, 4, 2, 0]
/-- The table as its initialiser lays it. -/
def Tab (w : World) : Prop := ∀ i, i < 5 → w.cell? ⟨0, i, none⟩ = some (.int .i64 (leastL.getD i 0))
theorem Tab.below {w w' : World} (h : Tab w) (hb : Below w.heap.size w w') : Tab w' := fun i hi =>
  (hb.cell (p := ⟨0, i, none⟩) (World.block_lt_of_cell? w _ (h i hi))).trans (h i hi)

def knownB (k : Int) : Bool := decide (1 ≤ k) && decide (k ≤ 4)
theorem knownB_yes {k : Int} (h : knownB k = true) : 1 ≤ k ∧ k ≤ 4 := by simpa [knownB] using h
theorem known_any (k : Int) (w : World) :
    Calls Tryd.prog 28 #[.int .i64 k] w fun e w' => e = .returned (.bool (knownB k)) ∧ w = w' := by
  by_cases h1 : 1 ≤ k
  · go_enter Tryd.func28, Tryd.ntmps28
    go_wp2
    go_ret
    exact ⟨ret_bool (by simp [knownB, h1]), rfl⟩
  · go_enter Tryd.func28, Tryd.ntmps28
    go_wp2
    go_ret
    exact ⟨ret_bool (by unfold knownB; rw [decide_eq_false (by omega)]; rfl), rfl⟩

def fitsM (k size : Int) : Bool := if k = 4 then size == 0 else decide (leastL.getD k.toNat 0 ≤ size) && decide (size ≤ 4077)
theorem fitsM_any (k size : Int) (w : World) (ht : Tab w) (hk : knownB k = true) :
    Calls Tryd.prog 29 #[.int .i64 k, .int .i64 size] w fun e w' => e = .returned (.bool (fitsM k size)) ∧ w = w' := by
  obtain ⟨k1, k4⟩ := knownB_yes hk
  have hc : k = 1 ∨ k = 2 ∨ k = 3 ∨ k = 4 := by omega
  clear hk k1 k4
  rcases hc with rfl | rfl | rfl | rfl
  · have c1 := ht 1 (by omega)
    clear ht
    by_cases h1 : 10 ≤ size
    · go_enter Tryd.func29, Tryd.ntmps29
      go_wp2
      go_ret
      exact ⟨ret_bool (by simp [fitsM, leastL, h1]), rfl⟩
    · go_enter Tryd.func29, Tryd.ntmps29
      go_wp2
      go_ret
      exact ⟨ret_bool (by simp [fitsM, leastL]; omega), rfl⟩
  · have c1 := ht 2 (by omega)
    clear ht
    by_cases h1 : 4 ≤ size
    · go_enter Tryd.func29, Tryd.ntmps29
      go_wp2
      go_ret
      exact ⟨ret_bool (by simp [fitsM, leastL, h1]), rfl⟩
    · go_enter Tryd.func29, Tryd.ntmps29
      go_wp2
      go_ret
      exact ⟨ret_bool (by simp [fitsM, leastL]; omega), rfl⟩
  · have c1 := ht 3 (by omega)
    clear ht
    by_cases h1 : 2 ≤ size
    · go_enter Tryd.func29, Tryd.ntmps29
      go_wp2
      go_ret
      exact ⟨ret_bool (by simp [fitsM, leastL, h1]), rfl⟩
    · go_enter Tryd.func29, Tryd.ntmps29
      go_wp2
      go_ret
      exact ⟨ret_bool (by simp [fitsM, leastL]; omega), rfl⟩
  · clear ht
    go_enter Tryd.func29, Tryd.ntmps29
    go_wp2
    go_ret
    exact ⟨rfl, rfl⟩

def okM (k size : Int) : Bool := knownB k && fitsM k size
def errM (k size : Int) : Int := if okM k size then 0 else 30
theorem checkM_any (k : Int) (q : Option Addr) (n c : Nat) (w : World) (ht : Tab w) (_ : n ≤ 1099511627776) :
    Calls Tryd.prog 11 #[.agg #[.int .i64 k, .slice q n c]] w fun e w' => e = .returned (.int .i64 (errM k n)) ∧ Below w.heap.size w w' := by
  have hb := (Below.refl w.heap.size w).alloc (Nat.le_refl _) (.cells #[.int .i64 k, .slice q n c] 30)
  have ht' := ht.below hb
  have HB := Lib.hid hb
  rcases hk : knownB k with _ | _
  · have hE := Lib.hid (show errM k n = 30 by simp [errM, okM, hk])
    clear hb ht ht'
    go_enter Tryd.func11, Tryd.ntmps11
    go_wp2_with (go_at_call 28; refine (known_any _ _).mono ?_; rintro e w' ⟨rfl, rfl⟩)
    go_ret
    exact ⟨by rw [hE.out]; rfl, HB.out⟩
  · have HT := Lib.hid ht'
    have HK := Lib.hid hk
    rcases hf : fitsM k n with _ | _
    · have hE := Lib.hid (show errM k n = 30 by simp [errM, okM, hk, hf])
      clear hb ht ht'
      go_enter Tryd.func11, Tryd.ntmps11
      go_wp2_with (first | (go_at_call 28; refine (known_any _ _).mono ?_; rintro e w' ⟨rfl, rfl⟩) | (go_at_call 29; refine (fitsM_any _ _ _ HT.out HK.out).mono ?_; rintro e w' ⟨rfl, rfl⟩))
      go_ret
      exact ⟨by rw [hE.out]; rfl, HB.out⟩
    · have hE := Lib.hid (show errM k n = 0 by simp [errM, okM, hk, hf])
      clear hb ht ht'
      go_enter Tryd.func11, Tryd.ntmps11
      go_wp2_with (first | (go_at_call 28; refine (known_any _ _).mono ?_; rintro e w' ⟨rfl, rfl⟩) | (go_at_call 29; refine (fitsM_any _ _ _ HT.out HK.out).mono ?_; rintro e w' ⟨rfl, rfl⟩))
      go_ret
      exact ⟨by rw [hE.out]; rfl, HB.out⟩


theorem puts_no (asn hold id paths : Int) (four : Bool) (w : World) (hk : okO ⟨asn, hold, id, four, paths⟩ = false) :
    Calls Tryd.prog 3 #[.agg #[.int .i64 asn, .int .i64 hold, .int .u32 id, .bool four, .int .i64 paths]] w fun e w' => e = .returned (.bool true) ∧ Below w.heap.size w w' := by
  have HP := fun v : World => Lib.hid (show Calls Tryd.prog 4 #[.agg #[.int .i64 asn, .int .i64 hold, .int .u32 id, .bool four, .int .i64 paths]] v fun e w' => e = .returned (.tuple #[.slice none 0 0, .int .i64 40]) ∧ Below v.heap.size v w' from put_no ⟨asn, hold, id, four, paths⟩ v hk)
  have HM := fun v : World => Lib.hid (message_no asn hold id paths four v hk)
  have HR := fun v : World => Lib.hid (rcheck_no asn hold id paths four v hk)
  have HC := fun v : World => Lib.hid (show Calls Tryd.prog 8 #[.agg #[.int .i64 asn, .int .i64 hold, .int .u32 id, .bool four, .int .i64 paths]] v fun e w' => e = .returned (.int .i64 40) ∧ Below v.heap.size v w' from check_no ⟨asn, hold, id, four, paths⟩ v hk)
  have H0 := Lib.hid (new_below w (.cells #[.int .i64 asn, .int .i64 hold, .int .u32 id, .bool four, .int .i64 paths] 24))
  have K0 := Lib.hid (Blk.new w 24 [.int .i64 asn, .int .i64 hold, .int .u32 id, .bool four, .int .i64 paths])
  clear hk
  go_enter Tryd.func3, Tryd.ntmps3
  go_wp2_with fail
  (with_reducible refine (HP _).out.mono ?_); rintro e w1 ⟨rfl, hb⟩
  have HB1 := Lib.hid (H0.out.trans (hb.mono H0.out.size))
  have K1 := Lib.hid (K0.out.next hb)
  have k0 := K1.out.cell 0 (by simp)
  have k1 := K1.out.cell 1 (by simp)
  have k2 := K1.out.cell 2 (by simp)
  have k3 := K1.out.cell 3 (by simp)
  have k4 := K1.out.cell 4 (by simp)
  clear hb HP H0 K0
  go_wp2_with fail
  (with_reducible refine (HM _).out.mono ?_); rintro e w2 ⟨rfl, hb⟩
  have hal := new_below w2 (.cells #[.int .i64 0, .slice none 0 0] 30)
  have HB2 := Lib.hid (HB1.out.trans ((hb.trans (hal.mono hb.size)).mono HB1.out.size))
  have K2 := Lib.hid ((K1.out.next hb).next hal)
  have M2 := Lib.hid (Blk.new w2 30 [.int .i64 0, .slice none 0 0])
  have HL := Lib.hid (lives_any (w2.alloc (.cells #[.int .i64 0, .slice none 0 0] 30)))
  clear hb hal HM HB1 K1 k0 k1 k2 k3 k4
  go_wp2_with fail
  refine HL.out.mono ?_; rintro e w3 ⟨rfl, hb⟩
  have HB3 := Lib.hid (HB2.out.trans (hb.mono HB2.out.size))
  have K3 := Lib.hid (K2.out.next hb)
  have M3 := Lib.hid (M2.out.next hb)
  have k0 := K3.out.cell 0 (by simp)
  have k1 := K3.out.cell 1 (by simp)
  have k2 := K3.out.cell 2 (by simp)
  have k3 := K3.out.cell 3 (by simp)
  have k4 := K3.out.cell 4 (by simp)
  clear hb HL HB2 K2 M2
  go_wp2_with fail
  (with_reducible refine (HR _).out.mono ?_); rintro e w4 ⟨rfl, hb⟩
  have HB4 := Lib.hid (HB3.out.trans (hb.mono HB3.out.size))
  have K4 := K3.out.next hb
  have M4 := M3.out.next hb
  clear k0 k1 k2 k3 k4
  have k0 := K4.cell 0 (by simp)
  have k1 := K4.cell 1 (by simp)
  have k2 := K4.cell 2 (by simp)
  have k3 := K4.cell 3 (by simp)
  have k4 := K4.cell 4 (by simp)
  have m0 := M4.cell 0 (by simp)
  have m1 := M4.cell 1 (by simp)
  clear hb HR HB3 K3 M3 K4 M4
  go_wp2_with fail
  (with_reducible refine (HC _).out.mono ?_); rintro e w5 ⟨rfl, hb⟩
  have HB5 := Lib.hid (HB4.out.trans (hb.mono HB4.out.size))
  clear hb HC k0 k1 k2 k3 k4 m0 m1
  go_wp2_with fail
  go_ret
  exact ⟨rfl, HB5.out⟩

/-- What lies in memory when the answers are held against each other. -/
structure PutsSt (gO gM gP : Nat) (V : List Value) (pm p q : Option Addr) (n capm capq : Nat) (po : List Int) (w : World) : Prop where
  kO : Blk w gO 24 V
  kM : Blk w gM 30 [.int .i64 1, .slice pm n capm]
  kP : Blk w gP 24 V
  kN : Blk w (gP + 1) 37 [.int .i64 0, .int .i64 0, .slice q 0 capq]
  bB : BytesAt w p po
  bM : BytesAt w pm po
theorem PutsSt.next {gO gM gP : Nat} {V : List Value} {pm p q : Option Addr} {n capm capq : Nat} {po : List Int} {w w' : World} (h : PutsSt gO gM gP V pm p q n capm capq po w) (hb : Below w.heap.size w w') : PutsSt gO gM gP V pm p q n capm capq po w' :=
  ⟨h.kO.next hb, h.kM.next hb, h.kP.next hb, h.kN.next hb, h.bB.below hb, h.bM.below hb⟩
theorem PutsSt.shown {gO gM gP : Nat} {asn hold id paths : Int} {four : Bool} {pm p q : Option Addr} {n capm capq : Nat} {po : List Int} {w : World} (h : PutsSt gO gM gP [.int .i64 asn, .int .i64 hold, .int .u32 id, .bool four, .int .i64 paths] pm p q n capm capq po w) (hn : po.length = n) (cap : Nat) :
    w.cell? ⟨gO, 0, none⟩ = some (.int .i64 asn) ∧ w.cell? ⟨gO, 1, none⟩ = some (.int .i64 hold) ∧ w.cell? ⟨gO, 2, none⟩ = some (.int .u32 id) ∧ w.cell? ⟨gO, 3, none⟩ = some (.bool four) ∧ w.cell? ⟨gO, 4, none⟩ = some (.int .i64 paths) ∧ w.cell? ⟨gM, 0, none⟩ = some (.int .i64 1) ∧ w.cell? ⟨gM, 1, none⟩ = some (.slice pm n capm) ∧ w.cell? ⟨gP, 0, none⟩ = some (.int .i64 asn) ∧ w.cell? ⟨gP, 1, none⟩ = some (.int .i64 hold) ∧ w.cell? ⟨gP, 2, none⟩ = some (.int .u32 id) ∧ w.cell? ⟨gP, 3, none⟩ = some (.bool four) ∧ w.cell? ⟨gP, 4, none⟩ = some (.int .i64 paths) ∧ w.cell? ⟨gP + 1, 0, none⟩ = some (.int .i64 0) ∧ (convert 25 9 (.slice p n cap)).run Tryd.prog w = .ok (.string (strOfNums po)) w ∧ (convert 25 9 (.slice pm n capm)).run Tryd.prog w = .ok (.string (strOfNums po)) w := by
  have c1 := run_text h.bB cap
  have c2 := run_text h.bM capm
  rw [hn] at c1 c2
  exact ⟨h.kO.cell 0 (by simp), h.kO.cell 1 (by simp), h.kO.cell 2 (by simp), h.kO.cell 3 (by simp), h.kO.cell 4 (by simp), h.kM.cell 0 (by simp), h.kM.cell 1 (by simp), h.kP.cell 0 (by simp), h.kP.cell 1 (by simp), h.kP.cell 2 (by simp), h.kP.cell 3 (by simp), h.kP.cell 4 (by simp), h.kN.cell 0 (by simp), c1, c2⟩

set_option maxRecDepth 100000 in
set_option maxHeartbeats 4000000 in
theorem puts_yes (asn hold id paths : Int) (four : Bool) (w : World) (ht : Tab w) (i0 : 0 ≤ id) (i1 : id ≤ 4294967295) (hk : okO ⟨asn, hold, id, four, paths⟩ = true) :
    Calls Tryd.prog 3 #[.agg #[.int .i64 asn, .int .i64 hold, .int .u32 id, .bool four, .int .i64 paths]] w fun e w' => e = .returned (.bool true) ∧ Below w.heap.size w w' := by
  have hfit : FitO ⟨asn, hold, id, four, paths⟩ := okO_fit hk i0 i1
  have hcl := caps_len (o := ⟨asn, hold, id, four, paths⟩)
  obtain ⟨n, hn⟩ : ∃ n, (putO ⟨asn, hold, id, four, paths⟩).length = n := ⟨_, rfl⟩
  have hnb : 10 ≤ n ∧ n ≤ 30 := by
    rw [← hn]; unfold putO saidO; simp [front_len]; omega
  have HP := fun v : World => Lib.hid (put_as rfl hn v hfit hk)
  have HM := fun v : World => Lib.hid (message_ok rfl hn v hfit hk)
  have HR := fun v : World => Lib.hid (rcheck_yes asn hold id paths four v hk)
  have HC := fun v : World => Lib.hid (show Calls Tryd.prog 8 #[.agg #[.int .i64 asn, .int .i64 hold, .int .u32 id, .bool four, .int .i64 paths]] v fun e w' => e = .returned (.int .i64 0) ∧ Below v.heap.size v w' from check_yes ⟨asn, hold, id, four, paths⟩ v hk)
  have HQ := fun v : World => Lib.hid (rput_any asn hold id paths four v hk i0 i1)
  have HGP := Lib.hid (getO_put hk i0 i1)
  obtain ⟨po, hpo⟩ : ∃ po, putO ⟨asn, hold, id, four, paths⟩ = po := ⟨_, rfl⟩
  rw [hpo] at HP HM HQ HGP hn
  have HN := Lib.hid hn
  have HT := Lib.hid ht
  have HF := fun (v : World) (pm : Option Addr) (c : Nat) (h : Tab v) => Lib.hid (show Calls Tryd.prog 11 #[.agg #[.int .i64 1, .slice pm n c]] v fun e w' => e = .returned (.int .i64 0) ∧ Below v.heap.size v w' from by
    have := checkM_any 1 pm n c v h (by omega)
    rw [show errM 1 n = 0 by simp [errM, okM, knownB, fitsM, leastL]; omega] at this
    exact this)
  have H0 := Lib.hid (new_below w (.cells #[.int .i64 asn, .int .i64 hold, .int .u32 id, .bool four, .int .i64 paths] 24))
  have K0 := Lib.hid (Blk.new w 24 [.int .i64 asn, .int .i64 hold, .int .u32 id, .bool four, .int .i64 paths])
  have HQ1 := open_eql asn hold id paths four
  have hg := open_eqGuard
  clear hk hn hfit hcl hpo ht
  go_enter Tryd.func3, Tryd.ntmps3
  go_wp2_with fail
  (with_reducible refine (HP _).out.mono ?_); rintro e w1 ⟨p, cap, rfl, hO, hb⟩
  have HB1 := Lib.hid (H0.out.trans (hb.mono H0.out.size))
  have K1 := Lib.hid (K0.out.next hb)
  have O1 := Lib.hid hO.bytes
  have k0 := K1.out.cell 0 (by simp)
  have k1 := K1.out.cell 1 (by simp)
  have k2 := K1.out.cell 2 (by simp)
  have k3 := K1.out.cell 3 (by simp)
  have k4 := K1.out.cell 4 (by simp)
  clear hO hb HP H0 K0
  go_wp2_with fail
  (with_reducible refine (HM _).out.mono ?_); rintro e w2 ⟨pm, capm, rfl, hO, hb⟩
  have hal := new_below w2 (.cells #[.int .i64 1, .slice pm n capm] 30)
  have HB2 := Lib.hid (HB1.out.trans ((hb.trans (hal.mono hb.size)).mono HB1.out.size))
  have K2 := Lib.hid ((K1.out.next hb).next hal)
  have O2 := Lib.hid ((O1.out.below hb).below hal)
  have P2 := Lib.hid (hO.bytes.below hal)
  have M2 := Lib.hid (Blk.new w2 30 [.int .i64 1, .slice pm n capm])
  have HL := Lib.hid (lives_any (w2.alloc (.cells #[.int .i64 1, .slice pm n capm] 30)))
  clear hO hb hal HM HB1 K1 O1 k0 k1 k2 k3 k4
  go_wp2_with fail
  refine HL.out.mono ?_; rintro e w3 ⟨rfl, hb⟩
  have HB3 := Lib.hid (HB2.out.trans (hb.mono HB2.out.size))
  have K3 := Lib.hid (K2.out.next hb)
  have M3 := Lib.hid (M2.out.next hb)
  have O3 := Lib.hid (O2.out.below hb)
  have P3 := Lib.hid (P2.out.below hb)
  have k0 := K3.out.cell 0 (by simp)
  have k1 := K3.out.cell 1 (by simp)
  have k2 := K3.out.cell 2 (by simp)
  have k3 := K3.out.cell 3 (by simp)
  have k4 := K3.out.cell 4 (by simp)
  clear hb HL HB2 K2 M2 O2 P2
  go_wp2_with fail
  (with_reducible refine (HR _).out.mono ?_); rintro e w4 ⟨rfl, hb⟩
  have HB4 := Lib.hid (HB3.out.trans (hb.mono HB3.out.size))
  have K4 := Lib.hid (K3.out.next hb)
  have M4 := Lib.hid (M3.out.next hb)
  have O4 := Lib.hid (O3.out.below hb)
  have P4 := Lib.hid (P3.out.below hb)
  have HG := Lib.hid (get_as HGP.out p n cap 0 w4 O4.out HN.out (by omega) rfl)
  clear hb HR HB3 K3 M3 O3 P3 k0 k1 k2 k3 k4
  go_wp2_with fail
  refine HG.out.mono ?_; rintro e w6 ⟨q, capq, rfl, hO, hb⟩
  obtain ⟨W7, hW7⟩ : ∃ W7, (w6.alloc (.cells #[.int .i64 asn, .int .i64 hold, .int .u32 id, .bool four, .int .i64 paths] 24)).alloc (.cells #[.int .i64 0, .int .i64 0, .slice q 0 capq] 37) = W7 := ⟨_, rfl⟩
  have h7 : Below w6.heap.size w6 W7 := by rw [← hW7]; exact two_below _ _ _
  have h7' := hb.trans (h7.mono hb.size)
  have HB7 := Lib.hid (HB4.out.trans (h7'.mono HB4.out.size))
  have ST := Lib.hid (show PutsSt w.heap.size w2.heap.size w6.heap.size [.int .i64 asn, .int .i64 hold, .int .u32 id, .bool four, .int .i64 paths] pm p q n capm capq po W7 from ⟨K4.out.next h7', M4.out.next h7', by rw [← hW7]; exact (Blk.new w6 24 [.int .i64 asn, .int .i64 hold, .int .u32 id, .bool four, .int .i64 paths]).alloc _, by rw [← hW7, ← sz_alloc w6 (.cells #[.int .i64 asn, .int .i64 hold, .int .u32 id, .bool four, .int .i64 paths] 24)]; exact Blk.new _ 37 _, O4.out.below h7', P4.out.below h7'⟩)
  have SD := Lib.hid (ST.out.next (Below.refl _ _).drew)
  have HBD := Lib.hid HB7.out.drew
  have hS := SD.out.shown HN.out cap
  have HW7 := Lib.hid hW7
  clear hO hb h7 h7' hW7 HG HB4 K4 M4 O4 P4
  go_wp2_with fail
  rw [HW7.out]
  go_region_held (fun w' => w'.cell? ⟨w.heap.size, 0, none⟩ = some (.int .i64 asn) ∧ w'.cell? ⟨w.heap.size, 1, none⟩ = some (.int .i64 hold) ∧ w'.cell? ⟨w.heap.size, 2, none⟩ = some (.int .u32 id) ∧ w'.cell? ⟨w.heap.size, 3, none⟩ = some (.bool four) ∧ w'.cell? ⟨w.heap.size, 4, none⟩ = some (.int .i64 paths) ∧ w'.cell? ⟨w2.heap.size, 0, none⟩ = some (.int .i64 1) ∧ w'.cell? ⟨w2.heap.size, 1, none⟩ = some (.slice pm n capm) ∧ w'.cell? ⟨w6.heap.size, 0, none⟩ = some (.int .i64 asn) ∧ w'.cell? ⟨w6.heap.size, 1, none⟩ = some (.int .i64 hold) ∧ w'.cell? ⟨w6.heap.size, 2, none⟩ = some (.int .u32 id) ∧ w'.cell? ⟨w6.heap.size, 3, none⟩ = some (.bool four) ∧ w'.cell? ⟨w6.heap.size, 4, none⟩ = some (.int .i64 paths) ∧ w'.cell? ⟨w6.heap.size + 1, 0, none⟩ = some (.int .i64 0) ∧ (convert 25 9 (.slice p n cap)).run Tryd.prog w' = .ok (.string (strOfNums po)) w' ∧ (convert 25 9 (.slice pm n capm)).run Tryd.prog w' = .ok (.string (strOfNums po)) w') (with_reducible assumption) (first
    | (go_at_call 8; (with_reducible refine (HC W7.drew).out.mono ?_); rintro e w8 ⟨rfl, hb⟩; have S8 := Lib.hid (SD.out.next hb); have HB8 := Lib.hid (HBD.out.trans (hb.mono HBD.out.size)); have hS8 := S8.out.shown HN.out cap; clear hb)
    | (go_at_call 10; (with_reducible refine (HQ w8).out.mono ?_); rintro e w9 ⟨p9, cap9, rfl, hO, hb⟩; rw [HN.out]; have S9 := Lib.hid (S8.out.next hb); have HB9 := Lib.hid (HB8.out.trans (hb.mono HB8.out.size)); have hS9 := S9.out.shown HN.out cap; have d9 := run_text hO.bytes cap9; rw [HN.out] at d9; clear hO hb)
    | (go_at_call 11; (with_reducible refine (HF w9 pm capm (HT.out.below HB9.out)).out.mono ?_); rintro e w10 ⟨rfl, hb⟩; have S10 := Lib.hid (S9.out.next hb); have HB10 := Lib.hid (HB9.out.trans (hb.mono HB9.out.size)); have hS10 := S10.out.shown HN.out cap; clear hb))
  go_wp2_with fail
  go_ret
  exact ⟨rfl, HB10.out⟩

theorem puts_walk (w : World) (ht : Tab w) (o : Op) (ho : 0 ≤ o.id ∧ o.id ≤ 4294967295) :
    Calls Tryd.prog 3 #[.agg #[.int .i64 o.asn, .int .i64 o.hold, .int .u32 o.id, .bool o.four, .int .i64 o.paths]] w fun e w' => e = .returned (.bool true) ∧ Below w.heap.size w w' := by
  obtain ⟨asn, hold, id, four, paths⟩ := o
  rcases hk : okO ⟨asn, hold, id, four, paths⟩ with _ | _
  · exact puts_no asn hold id paths four w hk
  · exact puts_yes asn hold id paths four w ht ho.1 ho.2 hk
end Go.Proofs.YthpadbeilecpeaaDoor
