/- open: onlyCapabilities, told. -/
import Derived.Test.YthpadbeilecpeaaDoorO5
namespace Go.Proofs.YthpadbeilecpeaaDoor
open Go.RowKit

/-- A reader of the call's own. -/
structure One (w0 w : World) (gr : Nat) (s : Option (List Int)) : Prop where
  rd : RdAt w gr s
  new : w0.heap.size ≤ gr
  bel : Below w0.heap.size w0 w
theorem One.read {w0 w w' : World} {gr : Nat} {s s' : Option (List Int)} (h : One w0 w gr s) (hr : RdAt w' gr s') (hg : w.grownBy w' (some gr)) : One w0 w' gr s' :=
  ⟨hr, h.new, below_new h.bel hg h.new h.bel.size⟩
def OnlyRel (w0 : World) (gr : Nat) (R : Bool) (k : Nat) (wr : World) : Prop :=
  (∃ ys f, One w0 wr gr (some ys) ∧ ys.length < f ∧ onlyV f ys = R ∧ k = ys.length) ∨ (One w0 wr gr none ∧ R = true ∧ k = 0)

set_option maxHeartbeats 1000000 in
theorem only_any (p : Option Addr) (xs : List Int) (n c : Nat) (w : World) (hb : BytesAt w p xs) (hn : xs.length = n) (hl : n ≤ 140737488355328) (F : Nat) (hF : xs.length < F) :
    Calls Tryd.prog 22 #[.slice p n c] w fun e w' => e = .returned (.bool (onlyV F xs)) ∧ Below w.heap.size w w' := by
  have HF := Lib.hid (show Calls Tryd.prog 17 #[.slice p n c] w fun e w' => NewAt w w' e (fun g => RdAt w' g (some xs)) by subst hn; exact from_any p xs c w hl hb)
  obtain ⟨R, hR⟩ : ∃ R, onlyV F xs = R := ⟨_, rfl⟩
  rw [hR]
  have HR := Lib.hid hR
  clear hb hn hR
  go_enter Tryd.func22, Tryd.ntmps22
  go_wp2_with fail
  refine HF.out.mono ?_; rintro e w1 ⟨gr, rfl, hnew, hrd, hbel⟩
  have T1 := Lib.hid (One.mk hrd hnew hbel)
  clear hrd hbel HF
  go_wp2_with fail
  go_loopg [6] xs.length (fun k _ wr => OnlyRel w gr R k wr)
  case atStart => exact .inl ⟨xs, F, T1.out, hF, HR.out, rfl⟩
  case round =>
    obtain ⟨ys, f, T, hf, hp, hk⟩ | ⟨T, hp, hk⟩ := hrel
    · have HP := Lib.hid hp
      have HT := Lib.hid T
      have HL := Lib.hid (left_any wr gr _ T.rd)
      clear hp T HR T1 hF
      obtain ⟨f, rfl⟩ : ∃ f', f = f' + 1 := ⟨f - 1, by omega⟩
      match ys, hf, hk, HP, HT, HL with
      | [], hf, hk, HP, HT, HL =>
        clear hk
        go_wp2_with fail
        refine HL.out.mono ?_; rintro e w2 ⟨rfl, rfl⟩
        rw [show leftV (some ([] : List Int)) = 0 from rfl]
        go_wp2_with fail
        go_ret
        rw [← HP.out]
        exact ⟨rfl, HT.out.bel⟩
      | a :: t, hf, hk, HP, HT, HL =>
        have HN := Lib.hid (num1_cons (k := a) (t := t) HT.out.rd)
        have HLV := Lib.hid (show leftV (some (a :: t)) = t.length + 1 from rfl)
        have hkl : gk = t.length + 1 := hk
        have hfl : t.length < f := by simp at hf; omega
        clear hk hf
        by_cases h2 : a = 2
        · subst h2
          go_wp2_with fail
          refine HL.out.mono ?_; rintro e w2 ⟨rfl, rfl⟩
          rw [HLV.out]
          go_wp2_with fail
          refine HN.out.mono ?_; rintro e w2 ⟨rfl, hr, hg⟩
          have T2 := Lib.hid (HT.out.read hr hg)
          clear hr hg HL HN HLV
          match t, hkl, hfl, HP, T2 with
          | [], hkl, hfl, HP, T2 =>
            have HN2 := Lib.hid (num1_nil T2.out.rd)
            go_wp2_with fail
            refine HN2.out.mono ?_; rintro e w3 ⟨rfl, hr, hg⟩
            have T3 := Lib.hid (T2.out.read hr hg)
            clear hr hg
            have HY := Lib.hid (bytes_bad 0 rfl T3.out.rd)
            go_wp2_with fail
            refine HY.out.mono ?_; rintro e w4 ⟨q, rfl, _, _, _, _, _, hr, hg⟩
            have T4 := Lib.hid (T3.out.read hr hg)
            clear hr hg
            go_wp2_with fail
            go_roundg 0
            case rel => exact .inr ⟨T4.out, HP.out.symm, rfl⟩
            case measure => omega
          | m :: t, hkl, hfl, HP, T2 =>
            have HN2 := Lib.hid (num1_cons (k := m) (t := t) T2.out.rd)
            have hm := inByte_cons T2.out.rd.inb
            obtain ⟨j, rfl⟩ := Int.eq_ofNat_of_zero_le hm.1
            have HEV := Lib.hid (show onlyV (f + 1) (2 :: (j : Int) :: t) = if j ≤ t.length then onlyV f (t.drop j) else true from rfl)
            have hkl2 : gk = t.length + 2 := by simp at hkl; omega
            have hfl2 : t.length + 1 < f := by simp at hfl; omega
            clear hm hkl hfl
            go_wp2_with fail
            refine HN2.out.mono ?_; rintro e w3 ⟨rfl, hr, hg⟩
            have T3 := Lib.hid (T2.out.read hr hg)
            clear hr hg HN2
            by_cases hj : j ≤ t.length
            · have HY := Lib.hid (bytes_ok (j : Int) j rfl hj T3.out.rd)
              have HE := Lib.hid (HEV.out.trans (if_pos hj))
              go_wp2_with fail
              refine HY.out.mono ?_; rintro e w4 ⟨q, rfl, _, _, _, _, _, hr, hg⟩
              have T4 := Lib.hid (T3.out.read hr hg)
              clear hr hg HEV HY
              go_wp2_with fail
              go_roundg (t.drop j).length
              case rel => exact .inl ⟨t.drop j, f, T4.out, by rw [List.length_drop]; omega, by rw [← HP.out, HE.out], rfl⟩
              case measure => rw [List.length_drop]; omega
            · have HY := Lib.hid (bytes_bad (j : Int) (by simp [okTake]; omega) T3.out.rd)
              have HE := Lib.hid (HEV.out.trans (if_neg hj))
              go_wp2_with fail
              refine HY.out.mono ?_; rintro e w4 ⟨q, rfl, _, _, _, _, _, hr, hg⟩
              have T4 := Lib.hid (T3.out.read hr hg)
              clear hr hg HEV HY
              go_wp2_with fail
              go_roundg 0
              case rel => exact .inr ⟨T4.out, by rw [← HP.out, HE.out], rfl⟩
              case measure => omega
        · have h2' : (a != 2) = true := by simpa using h2
          have HE := Lib.hid (show onlyV (f + 1) (a :: t) = false by cases t <;> simp [onlyV, h2])
          clear h2
          go_wp2_with fail
          refine HL.out.mono ?_; rintro e w2 ⟨rfl, rfl⟩
          rw [HLV.out]
          go_wp2_with fail
          refine HN.out.mono ?_; rintro e w2 ⟨rfl, hr, hg⟩
          have T2 := Lib.hid (HT.out.read hr hg)
          clear hr hg HL HN HLV
          go_wp2_with fail
          go_ret
          rw [← HP.out, HE.out]
          exact ⟨rfl, T2.out.bel⟩
    · have HP := Lib.hid hp
      have HT := Lib.hid T
      have HL := Lib.hid (left_any wr gr _ T.rd)
      clear hp T
      go_wp2_with fail
      refine HL.out.mono ?_; rintro e w2 ⟨rfl, rfl⟩
      rw [show leftV none = 0 from rfl]
      go_wp2_with fail
      go_ret
      rw [HP.out]
      exact ⟨rfl, HT.out.bel⟩

/-- What a body says, or what is wrong with it, as a call hands it back. -/
def AnsTo (w w' : World) (e : Ending) (a : Ans) : Prop := ∃ p cap, e = .returned (.tuple #[a.o.v, .agg #[.int .i64 a.code, .int .i64 a.sub, .slice p a.data.length cap]]) ∧ Own w' w.heap.size p cap a.data ∧ Below w.heap.size w w'

theorem below_set5 {B g : Nat} {W w : World} (h : Below B W w) (hg : B ≤ g) (a b c d e : Value) : Below B W (((((w.setCell ⟨g, 0, none⟩ a).setCell ⟨g, 1, none⟩ b).setCell ⟨g, 2, none⟩ c).setCell ⟨g, 3, none⟩ d).setCell ⟨g, 4, none⟩ e) :=
  ((((h.setCell hg _).setCell hg _).setCell hg _).setCell hg _).setCell hg _
theorem below_set3 {B g : Nat} {W w : World} (h : Below B W w) (hg : B ≤ g) (a b c : Value) : Below B W (((w.setCell ⟨g, 0, none⟩ a).setCell ⟨g, 1, none⟩ b).setCell ⟨g, 2, none⟩ c) :=
  ((h.setCell hg _).setCell hg _).setCell hg _
theorem Own.set5 {B g : Nat} {w : World} {p : Option Addr} {cap : Nat} {xs : List Int} (h : Own w B p cap xs) (hg : g < B) (a b c d e : Value) : Own (((((w.setCell ⟨g, 0, none⟩ a).setCell ⟨g, 1, none⟩ b).setCell ⟨g, 2, none⟩ c).setCell ⟨g, 3, none⟩ d).setCell ⟨g, 4, none⟩ e) B p cap xs :=
  ((((h.setBelow hg _).setBelow hg _).setBelow hg _).setBelow hg _).setBelow hg _
theorem Own.set3 {B g : Nat} {w : World} {p : Option Addr} {cap : Nat} {xs : List Int} (h : Own w B p cap xs) (hg : g < B) (a b c : Value) : Own (((w.setCell ⟨g, 0, none⟩ a).setCell ⟨g, 1, none⟩ b).setCell ⟨g, 2, none⟩ c) B p cap xs :=
  ((h.setBelow hg _).setBelow hg _).setBelow hg _

/-- The results' variables of a call that hands back what is said and a note. -/
structure Outs (w W : World) : Prop where
  o : Blk W w.heap.size 24 [.int .i64 0, .int .i64 0, .int .u32 0, .bool false, .int .i64 0]
  n : Blk W (w.heap.size + 1) 37 [.int .i64 0, .int .i64 0, .slice none 0 0]
  bel : Below w.heap.size w W
  sz : w.heap.size + 2 ≤ W.heap.size
theorem Outs.new (w : World) : Outs w ((w.alloc (.cells #[.int .i64 0, .int .i64 0, .int .u32 0, .bool false, .int .i64 0] 24)).alloc (.cells #[.int .i64 0, .int .i64 0, .slice none 0 0] 37)) :=
  ⟨(Blk.new w 24 [.int .i64 0, .int .i64 0, .int .u32 0, .bool false, .int .i64 0]).alloc _, by rw [← sz_alloc w (.cells #[.int .i64 0, .int .i64 0, .int .u32 0, .bool false, .int .i64 0] 24)]; exact Blk.new _ _ [.int .i64 0, .int .i64 0, .slice none 0 0], two_below _ _ _, by simp⟩
theorem Outs.next {w W W' : World} (h : Outs w W) (hb : Below W.heap.size W W') : Outs w W' :=
  ⟨h.o.next hb, h.n.next hb, h.bel.trans (hb.mono h.bel.size), Nat.le_trans h.sz hb.size⟩

set_option maxHeartbeats 1000000 in
theorem told_as (g : Nat) (st : Op) (w : World) (hh : HeardAt w g st) (ha : st.asn = 0) :
    Calls Tryd.prog 26 #[.pointer (some ⟨g, 0, none⟩)] w fun e w' => AnsTo w w' e (wrongO 2 []) := by
  have hO := Outs.new w
  obtain ⟨W, hW⟩ : ∃ W, (w.alloc (.cells #[.int .i64 0, .int .i64 0, .int .u32 0, .bool false, .int .i64 0] 24)).alloc (.cells #[.int .i64 0, .int .i64 0, .slice none 0 0] 37) = W := ⟨_, rfl⟩
  rw [hW] at hO
  have HO := Lib.hid hO
  have HW := Lib.hid hW
  have hH := hh.next hO.bel
  obtain ⟨asn, hold, id, four, paths⟩ := st
  simp only at *
  have h0 := Blk.cell hH 0 (by simp [heardL])
  have h1 := Blk.cell hH 1 (by simp [heardL])
  have h2 := Blk.cell hH 2 (by simp [heardL])
  simp only [heardL, List.getD_cons_zero, List.getD_cons_succ] at h0 h1 h2
  have HWR := Lib.hid (wrong_any 2 none [] 0 0 W (BytesAt.nil _ _) rfl (by omega))
  subst ha
  rw [← HW.out] at h0 h1 h2
  clear hO hW hH hh
  go_enter Tryd.func26, Tryd.ntmps26
  go_wp2_with fail
  rw [HW.out]
  refine HWR.out.mono ?_; rintro e w1 ⟨p', cap', rfl, hOw, hb⟩
  have HOW := Lib.hid hOw
  have O1 := Lib.hid (HO.out.next hb)
  clear hOw hb h0 h1 h2
  dsimp only [List.length_nil]
  have o0 := O1.out.o.cell 0 (by simp)
  have fo0 := O1.out.o.f 0
  have o1 := O1.out.o.cell 1 (by simp)
  have fo1 := O1.out.o.f 1
  have o2 := O1.out.o.cell 2 (by simp)
  have fo2 := O1.out.o.f 2
  have o3 := O1.out.o.cell 3 (by simp)
  have fo3 := O1.out.o.f 3
  have o4 := O1.out.o.cell 4 (by simp)
  have fo4 := O1.out.o.f 4
  have n0 := O1.out.n.cell 0 (by simp)
  have fn0 := O1.out.n.f 0
  have n1 := O1.out.n.cell 1 (by simp)
  have fn1 := O1.out.n.f 1
  have n2 := O1.out.n.cell 2 (by simp)
  have fn2 := O1.out.n.f 2
  go_wp2_with fail
  exact bodyPost_ret (v := .tuple #[.agg #[.int .i64 0, .int .i64 0, .int .u32 0, .bool false, .int .i64 0], .agg #[.int .i64 2, .int .i64 2, .slice p' 0 cap']]) (by simp [results, Tryd.results26, go_sem, o0, o1, o2, o3, o4, n0, n1, n2]) rfl ⟨p', cap', rfl, ((HOW.out.set5 (by have := HO.out.sz; omega) _ _ _ _ _).set3 (by have := HO.out.sz; omega) _ _ _).mono HO.out.bel.size, below_set3 (below_set5 O1.out.bel (Nat.le_refl _) _ _ _ _ _) (by omega) _ _ _⟩

set_option maxHeartbeats 1000000 in
theorem told_hold (g : Nat) (st : Op) (w : World) (hh : HeardAt w g st) (ha : st.asn ≠ 0) (hd : holdB st.hold = false) :
    Calls Tryd.prog 26 #[.pointer (some ⟨g, 0, none⟩)] w fun e w' => AnsTo w w' e (wrongO 6 []) := by
  have hO := Outs.new w
  obtain ⟨W, hW⟩ : ∃ W, (w.alloc (.cells #[.int .i64 0, .int .i64 0, .int .u32 0, .bool false, .int .i64 0] 24)).alloc (.cells #[.int .i64 0, .int .i64 0, .slice none 0 0] 37) = W := ⟨_, rfl⟩
  rw [hW] at hO
  have HO := Lib.hid hO
  have HW := Lib.hid hW
  have hH := hh.next hO.bel
  obtain ⟨asn, hold, id, four, paths⟩ := st
  simp only at *
  have h0 := Blk.cell hH 0 (by simp [heardL])
  have h1 := Blk.cell hH 1 (by simp [heardL])
  have h2 := Blk.cell hH 2 (by simp [heardL])
  simp only [heardL, List.getD_cons_zero, List.getD_cons_succ] at h0 h1 h2
  have HWR := Lib.hid (wrong_any 6 none [] 0 0 W (BytesAt.nil _ _) rfl (by omega))
  have ha' : (asn == 0) = false := by simpa using ha
  clear ha
  rw [← HW.out] at h0 h1 h2
  clear hO hW hH hh
  go_enter Tryd.func26, Tryd.ntmps26
  go_wp2_with (go_at_call 15; refine (hold_any _ _).mono ?_; rintro e w' ⟨rfl, rfl⟩)
  rw [HW.out]
  refine HWR.out.mono ?_; rintro e w1 ⟨p', cap', rfl, hOw, hb⟩
  have HOW := Lib.hid hOw
  have O1 := Lib.hid (HO.out.next hb)
  clear hOw hb h0 h1 h2
  dsimp only [List.length_nil]
  have o0 := O1.out.o.cell 0 (by simp)
  have fo0 := O1.out.o.f 0
  have o1 := O1.out.o.cell 1 (by simp)
  have fo1 := O1.out.o.f 1
  have o2 := O1.out.o.cell 2 (by simp)
  have fo2 := O1.out.o.f 2
  have o3 := O1.out.o.cell 3 (by simp)
  have fo3 := O1.out.o.f 3
  have o4 := O1.out.o.cell 4 (by simp)
  have fo4 := O1.out.o.f 4
  have n0 := O1.out.n.cell 0 (by simp)
  have fn0 := O1.out.n.f 0
  have n1 := O1.out.n.cell 1 (by simp)
  have fn1 := O1.out.n.f 1
  have n2 := O1.out.n.cell 2 (by simp)
  have fn2 := O1.out.n.f 2
  go_wp2_with fail
  exact bodyPost_ret (v := .tuple #[.agg #[.int .i64 0, .int .i64 0, .int .u32 0, .bool false, .int .i64 0], .agg #[.int .i64 2, .int .i64 6, .slice p' 0 cap']]) (by simp [results, Tryd.results26, go_sem, o0, o1, o2, o3, o4, n0, n1, n2]) rfl ⟨p', cap', rfl, ((HOW.out.set5 (by have := HO.out.sz; omega) _ _ _ _ _).set3 (by have := HO.out.sz; omega) _ _ _).mono HO.out.bel.size, below_set3 (below_set5 O1.out.bel (Nat.le_refl _) _ _ _ _ _) (by omega) _ _ _⟩

set_option maxHeartbeats 1000000 in
theorem told_id (g : Nat) (st : Op) (w : World) (hh : HeardAt w g st) (ha : st.asn ≠ 0) (hd : holdB st.hold = true) (hi : st.id = 0) :
    Calls Tryd.prog 26 #[.pointer (some ⟨g, 0, none⟩)] w fun e w' => AnsTo w w' e (wrongO 3 []) := by
  have hO := Outs.new w
  obtain ⟨W, hW⟩ : ∃ W, (w.alloc (.cells #[.int .i64 0, .int .i64 0, .int .u32 0, .bool false, .int .i64 0] 24)).alloc (.cells #[.int .i64 0, .int .i64 0, .slice none 0 0] 37) = W := ⟨_, rfl⟩
  rw [hW] at hO
  have HO := Lib.hid hO
  have HW := Lib.hid hW
  have hH := hh.next hO.bel
  obtain ⟨asn, hold, id, four, paths⟩ := st
  simp only at *
  have h0 := Blk.cell hH 0 (by simp [heardL])
  have h1 := Blk.cell hH 1 (by simp [heardL])
  have h2 := Blk.cell hH 2 (by simp [heardL])
  simp only [heardL, List.getD_cons_zero, List.getD_cons_succ] at h0 h1 h2
  have HWR := Lib.hid (wrong_any 3 none [] 0 0 W (BytesAt.nil _ _) rfl (by omega))
  have ha' : (asn == 0) = false := by simpa using ha
  clear ha
  subst hi
  rw [← HW.out] at h0 h1 h2
  clear hO hW hH hh
  go_enter Tryd.func26, Tryd.ntmps26
  go_wp2_with (go_at_call 15; refine (hold_any _ _).mono ?_; rintro e w' ⟨rfl, rfl⟩)
  rw [HW.out]
  refine HWR.out.mono ?_; rintro e w1 ⟨p', cap', rfl, hOw, hb⟩
  have HOW := Lib.hid hOw
  have O1 := Lib.hid (HO.out.next hb)
  clear hOw hb h0 h1 h2
  dsimp only [List.length_nil]
  have o0 := O1.out.o.cell 0 (by simp)
  have fo0 := O1.out.o.f 0
  have o1 := O1.out.o.cell 1 (by simp)
  have fo1 := O1.out.o.f 1
  have o2 := O1.out.o.cell 2 (by simp)
  have fo2 := O1.out.o.f 2
  have o3 := O1.out.o.cell 3 (by simp)
  have fo3 := O1.out.o.f 3
  have o4 := O1.out.o.cell 4 (by simp)
  have fo4 := O1.out.o.f 4
  have n0 := O1.out.n.cell 0 (by simp)
  have fn0 := O1.out.n.f 0
  have n1 := O1.out.n.cell 1 (by simp)
  have fn1 := O1.out.n.f 1
  have n2 := O1.out.n.cell 2 (by simp)
  have fn2 := O1.out.n.f 2
  go_wp2_with fail
  exact bodyPost_ret (v := .tuple #[.agg #[.int .i64 0, .int .i64 0, .int .u32 0, .bool false, .int .i64 0], .agg #[.int .i64 2, .int .i64 3, .slice p' 0 cap']]) (by simp [results, Tryd.results26, go_sem, o0, o1, o2, o3, o4, n0, n1, n2]) rfl ⟨p', cap', rfl, ((HOW.out.set5 (by have := HO.out.sz; omega) _ _ _ _ _).set3 (by have := HO.out.sz; omega) _ _ _).mono HO.out.bel.size, below_set3 (below_set5 O1.out.bel (Nat.le_refl _) _ _ _ _ _) (by omega) _ _ _⟩

set_option maxHeartbeats 1000000 in
theorem told_fine (g : Nat) (st : Op) (w : World) (hh : HeardAt w g st) (ha : st.asn ≠ 0) (hd : holdB st.hold = true) (hi : st.id ≠ 0) :
    Calls Tryd.prog 26 #[.pointer (some ⟨g, 0, none⟩)] w fun e w' => AnsTo w w' e ⟨st, 0, 0, []⟩ := by
  have hO := Outs.new w
  obtain ⟨W, hW⟩ : ∃ W, (w.alloc (.cells #[.int .i64 0, .int .i64 0, .int .u32 0, .bool false, .int .i64 0] 24)).alloc (.cells #[.int .i64 0, .int .i64 0, .slice none 0 0] 37) = W := ⟨_, rfl⟩
  rw [hW] at hO
  have HO := Lib.hid hO
  have HW := Lib.hid hW
  have hH := hh.next hO.bel
  obtain ⟨asn, hold, id, four, paths⟩ := st
  simp only at *
  have h0 := Blk.cell hH 0 (by simp [heardL])
  have h1 := Blk.cell hH 1 (by simp [heardL])
  have h2 := Blk.cell hH 2 (by simp [heardL])
  have h3 := Blk.cell hH 3 (by simp [heardL])
  have h4 := Blk.cell hH 4 (by simp [heardL])
  simp only [heardL, List.getD_cons_zero, List.getD_cons_succ] at h0 h1 h2 h3 h4
  have ha' : (asn == 0) = false := by simpa using ha
  have hi' : (id == 0) = false := by simpa using hi
  have HN := Lib.hid (show Ans.o ⟨⟨asn, hold, id, four, paths⟩, 0, 0, []⟩ = ⟨asn, hold, id, four, paths⟩ from rfl)
  have O1 := Lib.hid hO
  rw [← HW.out] at h0 h1 h2 h3 h4
  clear hO hW hH hh ha hi
  go_enter Tryd.func26, Tryd.ntmps26
  go_wp2_with (go_at_call 15; refine (hold_any _ _).mono ?_; rintro e w' ⟨rfl, rfl⟩)
  exact bodyPost_ret (v := .tuple #[.agg #[.int .i64 asn, .int .i64 hold, .int .u32 id, .bool four, .int .i64 paths], .agg #[.int .i64 0, .int .i64 0, .slice none 0 0]]) (by simp [results, Tryd.results26, go_sem]) rfl ⟨none, 0, rfl, Own.nil _ _, by first | exact two_below _ _ _ | exact (two_below _ _ _).drew | exact below_set3 (below_set5 O1.out.bel (Nat.le_refl _) _ _ _ _ _) (by omega) _ _ _⟩

theorem told_any (g : Nat) (st : Op) (w : World) (hh : HeardAt w g st) :
    Calls Tryd.prog 26 #[.pointer (some ⟨g, 0, none⟩)] w fun e w' => AnsTo w w' e (toldV st) := by
  unfold toldV
  by_cases ha : st.asn = 0
  · rw [if_pos ha]; exact told_as g st w hh ha
  · rw [if_neg ha]
    rcases hd : holdB st.hold with _ | _
    · rw [if_pos rfl]; exact told_hold g st w hh ha hd
    · rw [if_neg (by decide)]
      by_cases hi : st.id = 0
      · rw [if_pos hi]; exact told_id g st w hh ha hd hi
      · rw [if_neg hi]; exact told_fine g st w hh ha hd hi
end Go.Proofs.YthpadbeilecpeaaDoor
