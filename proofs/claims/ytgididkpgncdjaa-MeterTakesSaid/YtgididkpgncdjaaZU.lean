/- MeterOld's walk. -/
import Derived.Test.YtgididkpgncdjaaZS
import Derived.Deep.RegionHeldLaw
namespace Go.Proofs.Ytgididkpgncdjaa
open Go.ChangeShapes Go.WideShapes Go.ChangeAt Go.RowKit Go.Joins Go.Deep Go.Maps
set_option linter.unusedVariables false
set_option linter.unusedSimpArgs false
set_option maxRecDepth 100000

/-- What a source says at a moment, as it stands in memory. -/
structure Qt where
  intro ::
  src : Int
  seq : Int
  p : Option Addr
  L : List Ct
  cap : Nat
  now : Int
def qtC (o : Qt) : List Value := [.int .i64 o.src, .int .i64 o.seq, .slice o.p o.L.length o.cap, .int .i64 o.now]
abbrev qtV (o : Qt) : Value := .agg #[.int .i64 o.src, .int .i64 o.seq, .slice o.p o.L.length o.cap, .int .i64 o.now]
def Qt.zero : Qt := ⟨0, 0, none, [], 0, 0⟩
/-- .. in a world. -/
structure QtAt (w : World) (o : Qt) : Prop where
  at_ : CtsAt w o.p o.L
  le : o.L.length ≤ o.cap
  max : o.cap ≤ maxLen
theorem QtAt.below {w w' : World} {o : Qt} (h : QtAt w o) (hb : Below w.heap.size w w') : QtAt w' o := ⟨h.at_.below hb, h.le, h.max⟩
theorem rowQt : RowC 22 39 qtC (fun _ => True) Qt.zero (.agg #[.int .i64 0, .int .i64 0, .slice none 0 0, .int .i64 0]) 4 48 where
  len x := rfl
  pos := by omega
  zs := rfl
  byl := by omega
  info := by kernel_rfl
  under := Try.underlying22
  elem := by kernel_rfl
  size w := by kernel_rfl
  one x u hu := by
    simp [qtC] at hu
    rcases hu with rfl | rfl | rfl | rfl <;> rfl
theorem qta_cells : Try.prog.cellsOf 39 = 4 := by kernel_rfl
theorem qta_flds : (Try.prog.fieldsOf 39).toList.map (fun f => (f.type, f.offset, f.name != "_")) = [(31, 0, true), (3, 3, true)] := by kernel_rfl
theorem qta_und : Try.prog.underlying 39 = some (.struct (Try.prog.fieldsOf 39)) := by kernel_rfl
theorem qta_trod {H : Type} {enc : TypeId × Value → H} {w : World} {base : Nat} {spare : Nat → Bool} {held : Bool} {fuel : Nat} {cs : List Value} {x : DataW H × List MemPlace} (hl : cs.length = 4)
    (h : DataW.trod enc Try.prog w base spare held fuel 39 cs = some x) : ∃ m : Qt, QtAt w m ∧ cs = qtC m := by
  obtain ⟨c0, c1, c2, c3, rfl⟩ : ∃ c0 c1 c2 c3, cs = [c0, c1, c2, c3] := by
    match cs, hl with
    | [c0, c1, c2, c3], _ => exact ⟨c0, c1, c2, c3, rfl⟩
  have hu := qta_und
  have hf := qta_flds
  obtain ⟨f0, f1, hff⟩ := array2 (cs := Try.prog.fieldsOf 39) (by simpa using congrArg List.length hf)
  rw [hff] at hf hu
  simp only [List.map_cons, List.map_nil, List.cons.injEq, Prod.mk.injEq, and_true] at hf
  obtain ⟨⟨t0, o0, _⟩, t1, o1, _⟩ := hf
  obtain ⟨y0, y1, n, _, _, g0, g1⟩ := trod_struct2 hu h
  rw [t0, o0, rta_cells] at g0
  rw [t1, o1, inta_cells] at g1
  simp only [List.drop_zero, List.drop_succ_cons, List.take_succ_cons, List.take_zero] at g0 g1
  have hu2 := rta_und
  have hf2 := rta_flds
  obtain ⟨k0, k1, k2, hkk⟩ := array3Y (cs := Try.prog.fieldsOf 31) (by simpa using congrArg List.length hf2)
  rw [hkk] at hf2 hu2
  simp only [List.map_cons, List.map_nil, List.cons.injEq, Prod.mk.injEq, and_true] at hf2
  obtain ⟨⟨t2, o2, _⟩, ⟨t3, o3, _⟩, t4, o4, _⟩ := hf2
  obtain ⟨z0, z1, z2, n2, _, _, r0, r1, r2⟩ := trod_struct3 hu2 g0
  rw [t2, o2, inta_cells] at r0
  rw [t3, o3, inta_cells] at r1
  rw [t4, o4, sla_cells] at r2
  simp only [List.drop_zero, List.drop_succ_cons, List.take_succ_cons, List.take_zero] at r0 r1 r2
  obtain ⟨s, e0, _, _⟩ := DataW.trod_int Try.underlying3 r0
  obtain ⟨q, e1, _, _⟩ := DataW.trod_int Try.underlying3 r1
  obtain ⟨x3, e2, hat, _, hle, hmx⟩ := open_listL rowCt cta_cells (okA := InCt) (fun _ h => h) (fun fuel cs y hl h => cta_trod hl h) r2
  obtain ⟨nw, e3, _, _⟩ := DataW.trod_int Try.underlying3 g1
  simp only [List.cons.injEq, and_true] at e0 e1 e3
  exact ⟨⟨s, q, x3.1, x3.2.1, x3.2.2, nw⟩, ⟨hat, hle, hmx⟩, by rw [e0, e1, e2, e3]; rfl⟩
/-- A list of them, as it comes. -/
structure QtsArg (w : World) (x : Option Addr × List Qt × Nat) : Prop where
  at_ : LAt qtC (fun _ => True) Qt.zero 4 w x.1 x.2.1
  ok : ∀ o ∈ x.2.1, QtAt w o
  le : x.2.1.length ≤ x.2.2
  max : x.2.2 ≤ maxLen
theorem open_qts {H : Type} {enc : TypeId × Value → H} {w : World} {base b0 : Nat} {spare : Nat → Bool} {held : Bool} {r : Reach} {v : Value} {d : DataW H} {p : List MemPlace} (hv : Value.okWide Try.prog w r b0 22 v) (h : DataW.Trod enc Try.prog w base spare held 22 v d p) :
    ∃ x : Option Addr × List Qt × Nat, v = .slice x.1 x.2.1.length x.2.2 ∧ QtsArg w x := by
  obtain ⟨a0, len0, cap0, rfl⟩ := okWide_slice Try.underlying22 hv
  obtain ⟨fuel, hf⟩ := h
  obtain ⟨x, e, h1, h2, h3, h4⟩ := open_listL rowQt qta_cells (okA := QtAt w) (fun _ _ => trivial) (fun fuel cs y hl h => qta_trod hl h) (show DataW.trod enc Try.prog w base spare held fuel 22 [.slice a0 len0 cap0] = some (d, p) from hf)
  exact ⟨x, e, h1, h2, h3, h4⟩
theorem open_qt {H : Type} {enc : TypeId × Value → H} {w : World} {base b0 : Nat} {spare : Nat → Bool} {held : Bool} {r : Reach} {v : Value} {d : DataW H} {p : List MemPlace} (hv : Value.okWide Try.prog w r b0 39 v) (h : DataW.Trod enc Try.prog w base spare held 39 v d p) :
    ∃ x : Qt, v = .agg #[.int .i64 x.src, .int .i64 x.seq, .slice x.p x.L.length x.cap, .int .i64 x.now] ∧ QtAt w x := by
  obtain ⟨cs, rfl, hsz⟩ := okWide_struct qta_und hv
  rw [qta_cells] at hsz
  obtain ⟨fuel, hf⟩ := h
  obtain ⟨x, hx, hc⟩ := qta_trod (cs := cs.toList) (by simpa using hsz) (show DataW.trod enc Try.prog w base spare held fuel 39 cs.toList = some (d, p) from hf)
  refine ⟨x, ?_, hx⟩
  obtain ⟨l⟩ := cs
  simp only at hc
  rw [hc]; rfl

theorem qt_boxes {w : World} {g : Nat} {src seq now : Int} {z : Option Addr} {n c : Nat} (H : Blk w g 39 [.int .i64 src, .int .i64 seq, .slice z n c, .int .i64 now]) : w.cell? ⟨g, 0, none⟩ = some (.int .i64 src) ∧ w.cell? ⟨g, 1, none⟩ = some (.int .i64 seq) ∧ w.cell? ⟨g, 2, none⟩ = some (.slice z n c) ∧ w.cell? ⟨g, 3, none⟩ = some (.int .i64 now) :=
  ⟨H.cell 0 (by simp), H.cell 1 (by simp), H.cell 2 (by simp), H.cell 3 (by simp)⟩
set_option maxHeartbeats 16000000 in
theorem old_walk (w : World) (q : Option Addr) (os : List Qt) (m9 d : Nat) (ho : LAt qtC (fun _ => True) Qt.zero 4 w q os) (hoo : ∀ o ∈ os, QtAt w o) (hmo : os.length = m9) (hmm : m9 ≤ maxLen) (o : Qt) (hO : QtAt w o) :
    Calls Try.prog 4 #[.slice q m9 d, .agg #[.int .i64 o.src, .int .i64 o.seq, .slice o.p o.L.length o.cap, .int .i64 o.now]] w fun e w' => e = .returned (.bool true) ∧ Below w.heap.size w w' := by
  obtain ⟨src, seq, p, L, cap, now⟩ := o
  have hat := hO.at_
  have hmx : L.length ≤ maxLen := Nat.le_trans hO.le hO.max
  dsimp only at hat hmx ⊢
  obtain ⟨n, hn⟩ : ∃ n, L.length = n := ⟨_, rfl⟩
  rw [hn] at hmx ⊢
  have HN := Lib.hid hn
  have HMX := Lib.hid hmx
  have HO := Lib.hid ho
  have HOO := Lib.hid hoo
  have HMO := Lib.hid hmo
  have hb := newB w (.cells #[.int .i64 src, .int .i64 seq, .slice p n cap, .int .i64 now] 39)
  have hx := Blk.new w 39 [.int .i64 src, .int .i64 seq, .slice p n cap, .int .i64 now]
  obtain ⟨S, hS⟩ : ∃ S, w.heap.size = S := ⟨_, rfl⟩
  obtain ⟨U, hU⟩ : ∃ U, w.alloc (.cells #[.int .i64 src, .int .i64 seq, .slice p n cap, .int .i64 now] 39) = U := ⟨_, rfl⟩
  rw [hU] at hb hx
  rw [hS] at hx
  have HU := Lib.hid hU
  have HSE := Lib.hid hS
  have HX := Lib.hid hx
  have HSU := Lib.hid hx.lt
  have HB := Lib.hid hb
  have HAT := Lib.hid hat
  have HLV := Lib.hid (fun u => lives17_any u)
  have HNEW := Lib.hid (lm_new w U hb)
  unfold maxLen at hmm
  clear hO hat hn hb hx hU hS ho hoo hmo
  go_enter Try.func4, Try.ntmps4
  go_wp2_with fail
  rw [HU.out, HSE.out]
  refine HNEW.out.mono ?_
  rintro e U1 ⟨m, b, rfl, hl, hb, hbb⟩
  have HX := Lib.hid (HX.out.next hb)
  have HL := Lib.hid hl
  have HSB := Lib.hid (show S ≠ b from fun e => by have := HSU.out; omega)
  clear hl hb hbb HNEW
  go_wp2_with fail
  refine (HLV.out _).mono ?_
  rintro e U2 ⟨rfl, hb⟩
  have HX := Lib.hid (HX.out.next hb)
  have HL := Lib.hid (HL.out.next hb)
  clear hb
  obtain ⟨x0, x1, x2, x3⟩ := qt_boxes HX.out
  by_cases h30 : m9 ≤ 30
  rotate_left
  · have t0 : decide ((30 : Int) < (m9 : Int)) = true := decide_eq_true (by omega)
    go_wp2_with fail
    refine (HLV.out _).mono ?_
    rintro e U3 ⟨rfl, hb⟩
    have HL := Lib.hid (HL.out.next hb)
    clear hb
    go_wp2_with fail
    go_ret
    exact ⟨rfl, HL.out.2⟩
  have t0 : decide ((30 : Int) < (m9 : Int)) = false := decide_eq_false (by omega)
  by_cases h100 : n ≤ 100
  rotate_left
  · have t1 : decide ((100 : Int) < (n : Int)) = true := decide_eq_true (by omega)
    go_wp2_with fail
    refine (HLV.out _).mono ?_
    rintro e U3 ⟨rfl, hb⟩
    have HL := Lib.hid (HL.out.next hb)
    clear hb
    go_wp2_with fail
    go_ret
    exact ⟨rfl, HL.out.2⟩
  have t1 : decide ((100 : Int) < (n : Int)) = false := decide_eq_false (by omega)
  go_wp2_with fail
  clear x0 x1 x2 x3 t0 t1
  go_loopw [6] (fun iv wr => ∃ (i : Nat) (V : Nat → Mv), i ≤ m9 ∧ iv = .int .i64 i ∧ Lm w wr m b V ∧ Blk wr S 39 [.int .i64 src, .int .i64 seq, .slice p n cap, .int .i64 now]) (fun iv _ => m9 - (intOf iv).toNat)
  case atStart => exact ⟨0, V0, Nat.zero_le _, rfl, HL.out, HX.out⟩
  case round =>
    obtain ⟨i, V, hi, rfl, hlm, hblk⟩ := hrel
    have HL := Lib.hid hlm
    have HX := Lib.hid hblk
    clear hlm hblk
    by_cases hlt : i < m9
    · have hlt' : (i : Int) < (m9 : Int) := by omega
      have i0 : (0 : Int) ≤ (i : Int) := by omega
      obtain ⟨b', off, rfl, hc⟩ := HO.out.cell HMO.out hlt
      have hoi := HOO.out (os.getD i Qt.zero) (by simp [List.getD, show i < os.length by rw [HMO.out]; exact hlt])
      obtain ⟨o, ho⟩ : ∃ o, os.getD i Qt.zero = o := ⟨_, rfl⟩
      rw [ho] at hc hoi
      obtain ⟨os_, oq, op, oL, oc, onow⟩ := o
      have hof := hoi.at_
      have hom : oL.length ≤ maxLen := Nat.le_trans hoi.le hoi.max
      dsimp only at hof hom
      obtain ⟨oN, hoN⟩ : ∃ N, oL.length = N := ⟨_, rfl⟩
      have e0 : w.cell? ⟨b', off + i * 4, none⟩ = some (.int .i64 os_) := hc 0 _ rfl
      have e1 : w.cell? ⟨b', off + i * 4 + 1, none⟩ = some (.int .i64 oq) := hc 1 _ rfl
      have e2 : w.cell? ⟨b', off + i * 4 + 2, none⟩ = some (.slice op oL.length oc) := hc 2 _ rfl
      have e3 : w.cell? ⟨b', off + i * 4 + 3, none⟩ = some (.int .i64 onow) := hc 3 _ rfl
      rw [hoN] at e2 hom
      have HCC := Lib.hid (fun (u : World) (hu : Below w.heap.size w u) => show u.cell? ⟨b', off + i * 4, none⟩ = some (.int .i64 os_) ∧ u.cell? ⟨b', off + i * 4 + 1, none⟩ = some (.int .i64 oq) ∧ u.cell? ⟨b', off + i * 4 + 2, none⟩ = some (.slice op oN oc) ∧ u.cell? ⟨b', off + i * 4 + 3, none⟩ = some (.int .i64 onow) from ⟨kept hu e0, kept hu e1, kept hu e2, kept hu e3⟩)
      have HOF := Lib.hid hof
      have HON := Lib.hid hoN
      have HOM := Lib.hid hom
      obtain ⟨y0, y1, y2, y3⟩ := HCC.out wr HL.out.2
      clear hc ho hoi hof hom hoN e0 e1 e2 e3
      by_cases h1 : oN ≤ 100
      rotate_left
      · have t0 : decide ((100 : Int) < (oN : Int)) = true := decide_eq_true (by omega)
        go_wp2_with fail
        go_ret
        exact ⟨rfl, HL.out.2⟩
      have t0 : decide ((100 : Int) < (oN : Int)) = false := decide_eq_false (by omega)
      have hdr : Below wr.heap.size wr wr.drew := (Below.refl _ _).drew
      have HLD := Lib.hid (HL.out.next hdr)
      have HXD := Lib.hid (HX.out.next hdr)
      have hS := HCC.out wr.drew HLD.out.2
      have HTK := Lib.hid (HLD.out.take os_ oq op oL oN oc (HOF.out.below HLD.out.2) HON.out HOM.out onow)
      clear hdr
      go_wp2_with fail
      go_region_held_law (fun W => W.cell? ⟨b', off + i * 4, none⟩ = some (.int .i64 os_) ∧ W.cell? ⟨b', off + i * 4 + 1, none⟩ = some (.int .i64 oq) ∧ W.cell? ⟨b', off + i * 4 + 2, none⟩ = some (.slice op oN oc) ∧ W.cell? ⟨b', off + i * 4 + 3, none⟩ = some (.int .i64 onow)) (with_reducible assumption) (first
        | (go_at_call 12; (with_reducible refine HTK.out.mono ?_); rintro e v ⟨rfl, hT, hl⟩; have HL9 := Lib.hid hl; have HX9 := Lib.hid (HXD.out.of_same (hT.block S HXD.out.lt HSB.out)); have hS := HCC.out _ HL9.out.2; clear hT hl))
      all_goals
        clear hS y0 y1 y2 y3
        go_wp2_with fail
        go_roundw
        case rel => exact ⟨i + 1, _, by omega, by go_num, HL9.out, HX9.out⟩
        case measure => simp [intOf]; omega
    · obtain rfl : i = m9 := by omega
      have HD := Lib.hid HL.out.demands
      go_wp2_with fail
      refine HD.out.mono ?_
      rintro e W1 ⟨q1, k1, cp1, l1, rfl, hk1, hk16, _, hat1, hd1, hb, hlo⟩
      have HLT := Lib.hid HL.out.lt
      have HL := Lib.hid (HL.out.next hb)
      have HX := Lib.hid (HX.out.next hb)
      have HA1 := Lib.hid hat1
      have HD1 := Lib.hid hd1
      have HLO := Lib.hid hlo
      have HK1 := Lib.hid hk1
      obtain ⟨x0, x1, x2, x3⟩ := qt_boxes HX.out
      have HST := Lib.hid (HL.out.stamp src)
      obtain ⟨⟨sa, sh⟩, hst⟩ : ∃ s, stampV V src = s := ⟨_, rfl⟩
      rw [hst] at HST
      have HST := Lib.hid HST.out
      have HSTV := Lib.hid hst
      clear hat1 hd1 hb hlo hst HD hk1
      go_wp2_with fail
      refine HST.out.mono ?_
      rintro e W2 ⟨rfl, hb⟩
      have HL := Lib.hid (HL.out.next hb)
      have HX := Lib.hid (HX.out.next hb)
      have HA1 := Lib.hid (HA1.out.below hb)
      clear hb x0 x1 x2 x3 HST
      obtain ⟨x0, x1, x2, x3⟩ := qt_boxes HX.out
      have HTK := Lib.hid (HL.out.take src seq p L n cap (HAT.out.below HL.out.2) HN.out HMX.out now)
      obtain ⟨E, hE⟩ : ∃ E, takeE V src seq L now = E := ⟨_, rfl⟩
      rw [hE] at HTK
      have HE := Lib.hid hE
      clear hE
      go_wp2_with fail
      refine HTK.out.mono ?_
      rintro e W3 ⟨rfl, hT, hl⟩
      have HX := Lib.hid (HX.out.of_same (hT.block S HX.out.lt HSB.out))
      have HA1 := Lib.hid (HA1.out.turns hT (fun b9 off9 e9 => by have h1 := HLO.out b9 off9 e9; have h2 := HLT.out; omega))
      by_cases hE0 : E = 0
      · have hb := hl.2
        have HBB := Lib.hid hb
        have t2 : decide (E = 0) = true := decide_eq_true hE0
        have t3 : (E == 0) = true := t2
        clear hb hl hT x0 x1 x2 x3 hE0
        go_wp2_with fail
        go_ret
        exact ⟨rfl, HBB.out⟩
      have t2 : decide (E = 0) = false := decide_eq_false hE0
      have t3 : (E == 0) = false := t2
      rw [take_no (by rw [HE.out]; exact hE0)] at hl
      have HL := Lib.hid hl
      clear hl hT x0 x1 x2 x3 hE0 HTK
      obtain ⟨x0, x1, x2, x3⟩ := qt_boxes HX.out
      have HST := Lib.hid (HL.out.stamp src)
      rw [HSTV.out] at HST
      have HST := Lib.hid HST.out
      go_wp2_with fail
      refine HST.out.mono ?_
      rintro e W4 ⟨rfl, hb⟩
      have HL := Lib.hid (HL.out.next hb)
      have HA1 := Lib.hid (HA1.out.below hb)
      have HD := Lib.hid HL.out.demands
      clear hb x0 x1 x2 x3 HST
      go_wp2_with fail
      refine HD.out.mono ?_
      rintro e W5 ⟨q2, k2, cp2, l2, rfl, hk2, _, _, hat2, hd2, hb, _⟩
      obtain rfl : l1 = l2 := HD1.out.unique hd2
      obtain rfl : k1 = k2 := HK1.out.symm.trans hk2
      have HL := Lib.hid (HL.out.next hb)
      have HSM := Lib.hid (rsameT_yes q1 q2 l1 k1 cp1 cp2 W5 (HA1.out.below hb) hat2 hk2 (by unfold maxLen; omega))
      clear hat2 hd2 hb hk2 HD
      have hsa : (sa == sa) = true := by simp
      have hsh : (sh == sh) = true := by simp
      go_wp2_with fail
      refine HSM.out.mono ?_
      rintro e W6 ⟨rfl, hb⟩
      have HL := Lib.hid (HL.out.next hb)
      clear hb
      go_wp2_with fail
      go_ret
      exact ⟨rfl, HL.out.2⟩
theorem old_arg (w : World) (y : Option Addr × List Qt × Nat) (hy : QtsArg w y) (o : Qt) (ho : QtAt w o) :
    Calls Try.prog 4 #[.slice y.1 y.2.1.length y.2.2, .agg #[.int .i64 o.src, .int .i64 o.seq, .slice o.p o.L.length o.cap, .int .i64 o.now]] w fun e w' => e = .returned (.bool true) ∧ Below w.heap.size w w' :=
  old_walk w y.1 y.2.1 _ _ hy.at_ hy.ok rfl (Nat.le_trans hy.le hy.max) o ho
end Go.Proofs.Ytgididkpgncdjaa
