/- open: what is heard: four, paths, capability. -/
import Derived.Test.YthpadbeilecpeaaDoorO1
import Derived.Test.YthpadbeilecpeaaDoorRd4
import Derived.Deep.LoopGhost
namespace Go.Proofs.YthpadbeilecpeaaDoor
open Go.RowKit

def heardL (st : Op) : List Value := [.int .i64 st.asn, .int .i64 st.hold, .int .u32 st.id, .bool st.four, .int .i64 st.paths]
/-- What is heard so far lies in block g. -/
def HeardAt (w : World) (g : Nat) (st : Op) : Prop := Blk w g 50 (heardL st)
theorem heard_noByte (st : Op) : (heardL st).all notByte = true := rfl
/-- A look's end. -/
def LookPost (w w' : World) (e : Ending) (g : Nat) (r : Op × Bool) : Prop := e = .returned (.bool r.2) ∧ HeardAt w' g r.1 ∧ w.grownBy w' (some g)

theorem get_new (p : Option Addr) (xs : List Int) (n cap : Nat) (w : World) (hn : xs.length = n) (h1 : 1 ≤ n) (h4 : n ≤ 4) (hb : BytesAt w p xs) :
    Calls Tryd.prog 35 #[.slice p n cap] w fun e w' => e = .returned (.tuple #[.int .i64 (getV xs), .int .i64 0]) ∧ w = w' := by
  subst hn; exact get_some p xs cap w h1 h4 hb

theorem four_any (g : Nat) (st : Op) (p : Option Addr) (xs : List Int) (n c : Nat) (w : World) (hh : HeardAt w g st) (hb : BytesAt w p xs) (hn : xs.length = n) :
    Calls Tryd.prog 37 #[.pointer (some ⟨g, 0, none⟩), .slice p n c] w fun e w' => LookPost w w' e g (fourV st xs) := by
  have HH := Lib.hid hh
  by_cases h4 : n = 4
  · subst h4
    have HE := Lib.hid (show fourV st xs = ({ st with asn := getV xs, four := true }, true) by unfold fourV; rw [if_pos hn])
    have HG := Lib.hid (get_new p xs 4 c w hn (by omega) (by omega) hb)
    have f0 := Blk.f hh 0
    have f3 := Blk.f hh 3
    have c0 := Blk.cell hh 0 (by simp [heardL])
    have c3 := Blk.cell hh 3 (by simp [heardL])
    simp only [heardL, List.getD_cons_zero, List.getD_cons_succ] at c0 c3
    clear hh hb hn
    go_enter Tryd.func37, Tryd.ntmps37
    go_wp2_with fail
    refine HG.out.mono ?_; rintro e w1 ⟨rfl, rfl⟩
    go_wp2_with fail
    go_ret
    rw [HE.out]
    exact ⟨rfl, ((HH.out.set 0 _).set 3 _), gb_trans (gb_set _ ⟨g, 0, none⟩ _) (gb_set _ ⟨g, 3, none⟩ _)⟩
  · have HE := Lib.hid (show fourV st xs = (st, false) by unfold fourV; rw [if_neg (by omega)])
    have hd : (n != 4) = true := by simpa using h4
    have hd' : ((n : Int) != 4) = true := by simp; omega
    clear hh hb hn
    go_enter Tryd.func37, Tryd.ntmps37
    go_wp2
    go_ret
    rw [HE.out]
    exact ⟨rfl, HH.out, gb_refl _ _⟩

/-- A reader of the call's own beside what is heard. -/
structure Two (w0 w : World) (g gr : Nat) (st : Op) (s : Option (List Int)) : Prop where
  hd : HeardAt w g st
  rd : RdAt w gr s
  ne : gr ≠ g
  new : w0.heap.size ≤ gr
  gb : w0.grownBy w (some g)
theorem Two.read {w0 w w' : World} {g gr : Nat} {st : Op} {s s' : Option (List Int)} (h : Two w0 w g gr st s) (hr : RdAt w' gr s') (hg : w.grownBy w' (some gr)) : Two w0 w' g gr st s' :=
  ⟨h.hd.grown (fun e => h.ne e.symm) hg, hr, h.ne, h.new, gb_new h.gb hg h.new⟩
theorem Two.look {w0 w w' : World} {g gr : Nat} {st st' : Op} {s : Option (List Int)} (h : Two w0 w g gr st s) (hh : HeardAt w' g st') (hg : w.grownBy w' (some g)) : Two w0 w' g gr st' s :=
  ⟨hh, h.rd.past h.ne h.hd (heard_noByte st) hg, h.ne, h.new, gb_trans h.gb hg⟩
theorem Two.start {w w' : World} {g gr : Nat} {st : Op} {s : Option (List Int)} (hh : HeardAt w g st) (hr : RdAt w' gr s) (hn : w.heap.size ≤ gr) (hb : Below w.heap.size w w') : Two w w' g gr st s :=
  ⟨hh.next hb, hr, fun e => by have := Blk.lt hh; omega, hn, gb_below hb⟩

theorem wayB_cases (v d : Int) : ((v == 257 && (decide (1 ≤ d) && decide (d ≤ 3))) = true ∧ v = 257 ∧ 1 ≤ d ∧ d ≤ 3) ∨ ((v == 257 && (decide (1 ≤ d) && decide (d ≤ 3))) = false ∧ ((v == 257) = false ∨ (v = 257 ∧ (d < 1 ∨ (1 ≤ d ∧ 3 < d))))) := by
  by_cases h1 : v = 257
  · by_cases h2 : 1 ≤ d
    · by_cases h3 : d ≤ 3
      · exact .inl ⟨by simp [h1, h2, h3], h1, h2, h3⟩
      · exact .inr ⟨by simp [h3], .inr ⟨h1, .inr ⟨h2, by omega⟩⟩⟩
    · exact .inr ⟨by simp [h2], .inr ⟨h1, .inl (by omega)⟩⟩
  · exact .inr ⟨by simp [h1], .inl (by simpa using h1)⟩

def PathRel (w0 : World) (g gr : Nat) (R : Op × Bool) (k : Nat) (wr : World) : Prop :=
  ∃ st, (∃ ys f, Two w0 wr g gr st (some ys) ∧ ys.length < f ∧ pathsV f st ys = R ∧ k = ys.length) ∨ (Two w0 wr g gr st none ∧ R = (st, false) ∧ k = 0)

theorem four_take (ys : List Int) (h : 4 ≤ ys.length) : ∃ a b c d t, ys = a :: b :: c :: d :: t := by
  match ys, h with
  | a :: b :: c :: d :: t, _ => exact ⟨a, b, c, d, t, rfl⟩
theorem paths_short {f : Nat} {st : Op} {ys : List Int} (h : ys.length < f) (h1 : 1 ≤ ys.length) (h3 : ys.length ≤ 3) : pathsV f st ys = (st, false) := by
  match f, ys, h1, h3 with
  | _ + 1, [_], _, _ => rfl
  | _ + 1, [_, _], _, _ => rfl
  | _ + 1, [_, _, _], _, _ => rfl
  | 0, _, _, _ => omega

def ShortTo (w w' : World) (e : Ending) (g : Nat) : Prop := ∃ v s, e = .returned (.int .i64 v) ∧ RdAt w' g s ∧ w.grownBy w' (some g) ∧ (s = none ∨ s = some [])
theorem short3 {w : World} {g : Nat} {ys : List Int} (_ : 1 ≤ ys.length) (h3 : ys.length ≤ 3) (h : RdAt w g (some ys)) :
    Calls Tryd.prog 18 #[.pointer (some ⟨g, 0, none⟩), .int .i64 3] w fun e w' => ShortTo w w' e g := by
  by_cases e : ys.length = 3
  · refine (num_ok 3 3 rfl (by omega) (by omega) (by omega) h).mono ?_
    rintro e w' ⟨he, hr, hg⟩
    exact ⟨_, _, he, hr, hg, .inr (by rw [List.drop_eq_nil_of_le (by omega)])⟩
  · refine (num_short 3 3 rfl (by omega) h).mono ?_
    rintro e w' ⟨he, hr, hg⟩
    exact ⟨_, _, he, hr, hg, .inl rfl⟩
theorem num1_end {w : World} {g : Nat} {s : Option (List Int)} (hs : s = none ∨ s = some []) (h : RdAt w g s) :
    Calls Tryd.prog 18 #[.pointer (some ⟨g, 0, none⟩), .int .i64 1] w fun e w' => NumTo w w' e g 0 none := by
  rcases hs with rfl | rfl
  · exact num_none 1 h
  · exact num1_nil h
set_option maxHeartbeats 1000000 in
theorem paths_any (g : Nat) (st0 : Op) (p : Option Addr) (xs : List Int) (n c : Nat) (w : World) (hh : HeardAt w g st0) (hb : BytesAt w p xs) (hn : xs.length = n) (hl : n ≤ 140737488355328) :
    Calls Tryd.prog 38 #[.pointer (some ⟨g, 0, none⟩), .slice p n c] w fun e w' => LookPost w w' e g (pathsV (xs.length + 1) st0 xs) := by
  have HF := Lib.hid (show Calls Tryd.prog 17 #[.slice p n c] w fun e w' => NewAt w w' e (fun g => RdAt w' g (some xs)) by subst hn; exact from_any p xs c w hl hb)
  have HH := Lib.hid hh
  have HN := Lib.hid hn
  obtain ⟨R, hR⟩ : ∃ R, pathsV (xs.length + 1) st0 xs = R := ⟨_, rfl⟩
  rw [hR]
  have HR := Lib.hid hR
  clear hh hb hn hR
  go_enter Tryd.func38, Tryd.ntmps38
  go_wp2_with fail
  refine HF.out.mono ?_; rintro e w1 ⟨gr, rfl, hnew, hrd, hbel⟩
  have T1 := Lib.hid (Two.start HH.out hrd hnew hbel)
  clear hrd hbel
  go_wp2_with fail
  go_loopg [6] xs.length (fun k _ wr => PathRel w g gr R k wr)
  case atStart => exact ⟨st0, .inl ⟨xs, _, T1.out, Nat.lt_succ_self _, HR.out, rfl⟩⟩
  case round =>
    obtain ⟨st, ⟨ys, f, T, hf, hp, hk⟩ | ⟨T, hp, hk⟩⟩ := hrel
    · have HP := Lib.hid hp
      have HT := Lib.hid T
      have HL := Lib.hid (left_any wr gr _ T.rd)
      clear hp T
      rcases Nat.eq_zero_or_pos ys.length with h0 | h0
      · obtain rfl : ys = [] := List.eq_nil_of_length_eq_zero h0
        have HB := Lib.hid (bad_any wr gr _ HT.out.rd)
        have HE := Lib.hid (show pathsV f st [] = (st, true) by cases f <;> rfl)
        clear h0
        go_wp2_with fail
        refine HL.out.mono ?_; rintro e w2 ⟨rfl, rfl⟩
        rw [show leftV (some ([] : List Int)) = 0 from rfl]
        go_wp2_with fail
        refine HB.out.mono ?_; rintro e w2 ⟨rfl, rfl⟩
        go_wp2_with fail
        go_ret
        rw [← HP.out, HE.out]
        exact ⟨rfl, HT.out.hd, HT.out.gb⟩
      · by_cases h4 : 4 ≤ ys.length
        · obtain ⟨a, b, cc, d, t, rfl⟩ := four_take ys h4
          have HN3 := Lib.hid (num_ok 3 3 rfl (by omega) (by omega) (by simp) HT.out.rd)
          have hlv : leftV (some (a :: b :: cc :: d :: t)) = t.length + 4 := rfl
          have HLV := Lib.hid hlv
          obtain ⟨f', rfl⟩ : ∃ f', f = f' + 1 := ⟨f - 1, by simp at hf; omega⟩
          have hfl : t.length < f' := by simp at hf; omega
          have hkl : gk = t.length + 4 := by simp at hk; omega
          clear h4 h0 hlv hf hk
          go_wp2_with fail
          refine HL.out.mono ?_; rintro e w2 ⟨rfl, rfl⟩
          rw [HLV.out]
          go_wp2_with fail
          refine HN3.out.mono ?_; rintro e w2 ⟨rfl, hr2, hg2⟩
          have T2 := Lib.hid (HT.out.read hr2 hg2)
          clear hr2 hg2
          have HN1 := Lib.hid (num1_cons (k := d) (t := t) T2.out.rd)
          go_wp2_with fail
          refine HN1.out.mono ?_; rintro e w3 ⟨rfl, hr3, hg3⟩
          have T3 := Lib.hid (T2.out.read hr3 hg3)
          have H3 := Lib.hid T3.out.hd
          have HW := Lib.hid (show pathsV (f' + 1) st (a :: b :: cc :: d :: t) = pathsV f' (if (getV [a, b, cc] == 257 && (decide (1 ≤ d) && decide (d ≤ 3))) = true then { st with paths := d } else st) t from rfl)
          obtain ⟨v, hv⟩ : ∃ v, getV [a, b, cc] = v := ⟨_, rfl⟩
          rw [hv] at HW ⊢
          clear hr3 hg3 hv HL HN3 HN1 HLV HF HH T1 HR
          rcases wayB_cases v d with ⟨hw, rfl, h1, h3⟩ | ⟨hw, hc⟩
          · have f4 := Blk.f H3.out 4
            have c4 := Blk.cell H3.out 4 (by simp [heardL])
            simp only [heardL, List.getD_cons_zero, List.getD_cons_succ] at c4
            rw [hw] at HW
            clear hw
            go_wp2_with fail
            go_roundg t.length
            case rel =>
              refine ⟨{ st with paths := d }, .inl ⟨t, f', T3.out.look (st' := { st with paths := d }) (H3.out.set 4 _) (gb_set _ ⟨g, 4, none⟩ _), hfl, ?_, rfl⟩⟩
              rw [← HP.out, HW.out, if_pos (by decide)]
            case measure => omega
          · rw [hw] at HW
            clear hw
            rcases hc with hv | ⟨rfl, hd | ⟨hd, hd2⟩⟩
            all_goals
              go_wp2_with fail
              go_roundg t.length
              case rel =>
                refine ⟨st, .inl ⟨t, f', T3.out, hfl, ?_, rfl⟩⟩
                rw [← HP.out, HW.out, if_neg (by decide)]
              case measure => omega
        · have h3 : ys.length ≤ 3 := by omega
          have HPS := Lib.hid (paths_short (st := st) hf h0 h3)
          have HLV := Lib.hid (show leftV (some ys) = ys.length from rfl)
          have HN3 := Lib.hid (short3 h0 h3 HT.out.rd)
          obtain ⟨m, hm⟩ : ∃ m, ys.length = m := ⟨_, rfl⟩
          rw [hm] at HLV h0 hk
          clear h3 h4 hf hm
          go_wp2_with fail
          refine HL.out.mono ?_; rintro e w2 ⟨rfl, rfl⟩
          rw [HLV.out]
          go_wp2_with fail
          refine HN3.out.mono ?_; rintro e w2 ⟨v, s, rfl, hr2, hg2, hs⟩
          have T2 := Lib.hid (HT.out.read hr2 hg2)
          clear hr2 hg2
          have HN1 := Lib.hid (num1_end hs T2.out.rd)
          clear hs
          go_wp2_with fail
          refine HN1.out.mono ?_; rintro e w3 ⟨rfl, hr3, hg3⟩
          have T3 := Lib.hid (T2.out.read hr3 hg3)
          clear hr3 hg3
          rcases hv : (v == 257) with _ | _
          · go_wp2_with fail
            go_roundg 0
            case rel => exact ⟨st, .inr ⟨T3.out, by rw [← HP.out, HPS.out], rfl⟩⟩
            case measure => omega
          · obtain rfl : v = 257 := by simpa using hv
            clear hv
            go_wp2_with fail
            go_roundg 0
            case rel => exact ⟨st, .inr ⟨T3.out, by rw [← HP.out, HPS.out], rfl⟩⟩
            case measure => omega
    · have HP := Lib.hid hp
      have HT := Lib.hid T
      have HL := Lib.hid (left_any wr gr _ T.rd)
      have HB := Lib.hid (bad_any wr gr _ T.rd)
      clear hp T
      go_wp2_with fail
      refine HL.out.mono ?_; rintro e w2 ⟨rfl, rfl⟩
      rw [show leftV none = 0 from rfl]
      go_wp2_with fail
      refine HB.out.mono ?_; rintro e w2 ⟨rfl, rfl⟩
      go_wp2_with fail
      go_ret
      rw [HP.out]
      exact ⟨rfl, HT.out.hd, HT.out.gb⟩

theorem cap_any (g : Nat) (st : Op) (k : Int) (p : Option Addr) (xs : List Int) (n c : Nat) (w : World) (hh : HeardAt w g st) (hb : BytesAt w p xs) (hn : xs.length = n) (hl : n ≤ 140737488355328) :
    Calls Tryd.prog 25 #[.pointer (some ⟨g, 0, none⟩), .int .i64 k, .slice p n c] w fun e w' => LookPost w w' e g (capV st k xs) := by
  by_cases h65 : k = 65
  · subst h65
    have HF := Lib.hid (four_any g st p xs n c w hh hb hn)
    rw [show capV st 65 xs = fourV st xs from rfl]
    clear hh hb hn
    go_enter Tryd.func25, Tryd.ntmps25
    go_wp2_with fail
    refine HF.out.mono ?_; rintro e w1 ⟨rfl, h1, h2⟩
    have H1 := Lib.hid h1
    have H2 := Lib.hid h2
    clear h1 h2
    go_wp2_with fail
    go_ret
    exact ⟨rfl, H1.out, H2.out⟩
  · by_cases h69 : k = 69
    · subst h69
      have HF := Lib.hid (paths_any g st p xs n c w hh hb hn hl)
      rw [show capV st 69 xs = pathsV (xs.length + 1) st xs from rfl]
      clear hh hb hn h65
      go_enter Tryd.func25, Tryd.ntmps25
      go_wp2_with fail
      refine HF.out.mono ?_; rintro e w1 ⟨rfl, h1, h2⟩
      have H1 := Lib.hid h1
      have H2 := Lib.hid h2
      clear h1 h2
      go_wp2_with fail
      go_ret
      exact ⟨rfl, H1.out, H2.out⟩
    · have HH := Lib.hid hh
      have HE := Lib.hid (show capV st k xs = (st, true) by unfold capV; rw [if_neg h65, if_neg h69])
      have e1 : (k == 65) = false := by simpa using h65
      have e2 : (k == 69) = false := by simpa using h69
      clear hh hb hn h65 h69
      go_enter Tryd.func25, Tryd.ntmps25
      go_wp2_with fail
      go_ret
      rw [HE.out]
      exact ⟨rfl, HH.out, gb_refl _ _⟩
end Go.Proofs.YthpadbeilecpeaaDoor
