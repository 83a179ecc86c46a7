/- fsm: message, session, event. -/
import Derived.Test.YtbacnjijfffobaaH7
namespace Go.Proofs.Ytbacnjijfffobaa
open Go.RowKit

def evA (kind : Int) (x : Op) (code sub : Int) (p : Option Addr) (n c : Nat) : Value := .agg #[.int .i64 kind, .int .i64 x.asn, .int .i64 x.hold, .int .u32 x.id, .bool x.four, .int .i64 x.paths, .int .i64 code, .int .i64 sub, .slice p n c]
theorem Did.toD {w' w : World} {g B : Nat} {o : Op} {r : Int} {R : Ph × List Ac} {l : List Ac} {e : Ending} (h : Did w' w g B o r R l e) : DidD w' w g B o r (fun _ => R) l e := ⟨⟨none, 0, 0⟩, h⟩
theorem DidD.eq {w' w : World} {g B : Nat} {o : Op} {r : Int} {R R' : Dt → Ph × List Ac} {l : List Ac} {e : Ending} (h : DidD w' w g B o r R l e) (hR : ∀ d, R' d = R d) : DidD w' w g B o r R' l e := by
  obtain ⟨d, h⟩ := h
  exact ⟨d, by rw [hR]; exact h⟩
set_option maxHeartbeats 4000000 in
theorem fmessage_any (w : World) (g B : Nat) (o : Op) (r : Int) (s : Ph) (l : List Ac) (h : StM w g B o r s l) (hl : l.length ≤ 800) (hB : B ≤ w.heap.size) (hph : s.phase = 3 ∨ s.phase = 4 ∨ s.phase = 5) (kind : Int) (x : Op) (code sub : Int) (p : Option Addr) (n c : Nat) :
    Calls Try.prog 24 #[.pointer (some ⟨g, 0, none⟩), evA kind x code sub p n c] w fun e w' => DidD w' w g B o r (fun d => messageV o r s kind x d) l e := by
  obtain ⟨xa, xh, xi, xf, xp⟩ := x
  unfold evA
  dsimp only
  have hA := newB w (.cells #[.int .i64 kind, .int .i64 xa, .int .i64 xh, .int .u32 xi, .bool xf, .int .i64 xp, .int .i64 code, .int .i64 sub, .slice p n c] 36)
  obtain ⟨V, hV⟩ : ∃ V, w.alloc (.cells #[.int .i64 kind, .int .i64 xa, .int .i64 xh, .int .u32 xi, .bool xf, .int .i64 xp, .int .i64 code, .int .i64 sub, .slice p n c] 36) = V := ⟨_, rfl⟩
  rw [hV] at hA
  have HV := Lib.hid hV
  have hS := h.next hA
  have hW : B ≤ V.heap.size := by have := hA.size; omega
  have HS := Lib.hid hS
  have HA := Lib.hid (hA.mono hB)
  have c6 := hS.cells.2.2.2.2.2.2.1
  rw [← hV] at c6
  have HL := Lib.hid hl
  have HW := Lib.hid hW
  have HME := Lib.hid (fmeet_any V g B o r s l hS hl hW ⟨xa, xh, xi, xf, xp⟩)
  have HHO := Lib.hid (fhold_any V g B o r s l hS (by omega) hW)
  have HFA := Lib.hid (fun k => ffall_any V g B o r s l hS (by omega) hW 5 k none [] 0 0 (BytesAt.nil _ _) rfl (by omega))
  obtain ⟨M, hM⟩ : ∃ M : Dt → Ph × List Ac, (fun d => messageV o r s kind ⟨xa, xh, xi, xf, xp⟩ d) = M := ⟨_, rfl⟩
  have HM := Lib.hid (fun d => (congrFun hM d).symm)
  rw [hM]
  clear hM
  clear h hA hV hS hl hB hW
  rcases hph with hp | hp | hp
  · rw [hp] at c6
    by_cases hk : kind = 5
    · have HE := Lib.hid (fun d => show M d = meetV o r s ⟨xa, xh, xi, xf, xp⟩ d by rw [HM.out]; unfold messageV; rw [if_pos ⟨hp, hk⟩])
      subst hk
      go_enter Try.func24, Try.ntmps24
      go_wp2_with fail
      rw [HV.out]
      refine HME.out.mono ?_
      rintro e w2 hD
      have HD := Lib.hid hD
      obtain ⟨d, rfl, hS2, hB2⟩ := hD
      have HS2 := Lib.hid hS2
      have HB2 := Lib.hid hB2
      clear hS2 hB2
      go_wp2_with fail
      exact bodyPost_end (v := .tuple #[]) (by simp [results, Try.results24, go_sem]) rfl ⟨d, rfl, by rw [HE.out]; exact HS2.out, HA.out.trans HB2.out⟩
    · have hk' : (kind == 5) = false := by simpa using hk
      have HE := Lib.hid (fun d => show M d = fallV r s 5 1 d by rw [HM.out]; unfold messageV; rw [if_neg (fun h => hk h.2), if_neg (fun h => by omega), if_neg (fun h => by omega), hp]; rfl)
      go_enter Try.func24, Try.ntmps24
      go_wp2_with fail
      rw [HV.out]
      refine (HFA.out 1).mono ?_
      rintro e w2 hD
      have HD := Lib.hid hD
      obtain ⟨d, rfl, hS2, hB2⟩ := hD
      have HS2 := Lib.hid hS2
      have HB2 := Lib.hid hB2
      clear hS2 hB2
      go_wp2_with fail
      exact bodyPost_end (v := .tuple #[]) (by simp [results, Try.results24, go_sem]) rfl ⟨d, rfl, by rw [HE.out]; exact HS2.out, HA.out.trans HB2.out⟩
  · rw [hp] at c6
    by_cases hk : kind = 6
    · have HE := Lib.hid (fun d => show M d = ({ s with phase := 5 }, [ac 6 s.hold, ac 9 0]) by rw [HM.out]; unfold messageV; rw [if_neg (fun h => by omega), if_pos ⟨hp, hk⟩])
      subst hk
      go_enter Try.func24, Try.ntmps24
      go_wp2_with fail
      rw [HV.out]
      refine HHO.out.mono ?_
      rintro e w2 ⟨rfl, hS2, hB2⟩
      have HS2 := Lib.hid hS2
      have HB2 := Lib.hid hB2
      clear hS2 hB2
      go_wp2_with fail
      refine (doL w2 g B o r s _ HS2.out [ac 9 0] 1 1 rfl (by have := HL.out; simp; omega) (by have h1 := HB2.out.size; have h2 := HW.out; omega) _ _ (by rfl)).mono ?_
      rintro e w3 ⟨rfl, hS3, hB3⟩
      have HS3 := Lib.hid hS3
      have HB3 := Lib.hid (HB2.out.trans hB3)
      have f6 := hS3.fz 6
      obtain ⟨_, _, _, _, _, _, c6', _, _, _, _⟩ := hS3.cells
      clear hS3 hB3
      go_wp2_with fail
      exact bodyPost_end (v := .tuple #[]) (by simp [results, Try.results24, go_sem]) rfl ⟨⟨none, 0, 0⟩, rfl, by rw [HE.out]; have h9 := HS3.out.phase 5; rw [List.append_assoc] at h9; exact h9, (HA.out.trans HB3.out).setCell HS3.out.low _⟩
    · have hk' : (kind == 6) = false := by simpa using hk
      have HE := Lib.hid (fun d => show M d = fallV r s 5 2 d by rw [HM.out]; unfold messageV; rw [if_neg (fun h => by omega), if_neg (fun h => hk h.2), if_neg (fun h => by omega), hp]; rfl)
      go_enter Try.func24, Try.ntmps24
      go_wp2_with fail
      rw [HV.out]
      refine (HFA.out 2).mono ?_
      rintro e w2 hD
      have HD := Lib.hid hD
      obtain ⟨d, rfl, hS2, hB2⟩ := hD
      have HS2 := Lib.hid hS2
      have HB2 := Lib.hid hB2
      clear hS2 hB2
      go_wp2_with fail
      exact bodyPost_end (v := .tuple #[]) (by simp [results, Try.results24, go_sem]) rfl ⟨d, rfl, by rw [HE.out]; exact HS2.out, HA.out.trans HB2.out⟩
  · rw [hp] at c6
    by_cases hk : kind = 5
    · have HE := Lib.hid (fun d => show M d = fallV r s 5 3 d by rw [HM.out]; unfold messageV; rw [if_neg (fun h => by omega), if_neg (fun h => by omega), if_neg (fun h => h.2 hk), hp]; rfl)
      subst hk
      go_enter Try.func24, Try.ntmps24
      go_wp2_with fail
      rw [HV.out]
      refine (HFA.out 3).mono ?_
      rintro e w2 hD
      have HD := Lib.hid hD
      obtain ⟨d, rfl, hS2, hB2⟩ := hD
      have HS2 := Lib.hid hS2
      have HB2 := Lib.hid hB2
      clear hS2 hB2
      go_wp2_with fail
      exact bodyPost_end (v := .tuple #[]) (by simp [results, Try.results24, go_sem]) rfl ⟨d, rfl, by rw [HE.out]; exact HS2.out, HA.out.trans HB2.out⟩
    · have hk' : (kind == 5) = false := by simpa using hk
      have HE := Lib.hid (fun d => show M d = (s, [ac 6 s.hold]) by rw [HM.out]; unfold messageV; rw [if_neg (fun h => by omega), if_neg (fun h => by omega), if_pos ⟨hp, hk⟩])
      go_enter Try.func24, Try.ntmps24
      go_wp2_with fail
      rw [HV.out]
      refine (HHO.out.mono fun e w0 h0 => h0.toD).mono ?_
      rintro e w2 hD
      have HD := Lib.hid hD
      obtain ⟨d, rfl, hS2, hB2⟩ := hD
      have HS2 := Lib.hid hS2
      have HB2 := Lib.hid hB2
      clear hS2 hB2
      go_wp2_with fail
      exact bodyPost_end (v := .tuple #[]) (by simp [results, Try.results24, go_sem]) rfl ⟨d, rfl, by rw [HE.out]; exact HS2.out, HA.out.trans HB2.out⟩
set_option maxHeartbeats 4000000 in
theorem fsession_any (w : World) (g B : Nat) (o : Op) (r : Int) (s : Ph) (l : List Ac) (h : StM w g B o r s l) (hl : l.length ≤ 800) (hB : B ≤ w.heap.size) (hph : s.phase = 3 ∨ s.phase = 4 ∨ s.phase = 5) (kind : Int) (x : Op) (code sub : Int) (p : Option Addr) (xs : List Int) (n c : Nat) (hb : BytesAt w p xs) (hn : xs.length = n) (hm : n ≤ 1099511627776) :
    Calls Try.prog 19 #[.pointer (some ⟨g, 0, none⟩), evA kind x code sub p n c] w fun e w' => DidD w' w g B o r (fun d => sessionV o r s kind x code sub d) l e := by
  obtain ⟨xa, xh, xi, xf, xp⟩ := x
  unfold evA
  dsimp only
  have hA := newB w (.cells #[.int .i64 kind, .int .i64 xa, .int .i64 xh, .int .u32 xi, .bool xf, .int .i64 xp, .int .i64 code, .int .i64 sub, .slice p n c] 36)
  obtain ⟨V, hV⟩ : ∃ V, w.alloc (.cells #[.int .i64 kind, .int .i64 xa, .int .i64 xh, .int .u32 xi, .bool xf, .int .i64 xp, .int .i64 code, .int .i64 sub, .slice p n c] 36) = V := ⟨_, rfl⟩
  rw [hV] at hA
  have HV := Lib.hid hV
  have hS := h.next hA
  have hW : B ≤ V.heap.size := by have := hA.size; omega
  have HS := Lib.hid hS
  have HA := Lib.hid (hA.mono hB)
  have c6 := hS.cells.2.2.2.2.2.2.1
  rw [← hV] at c6
  have HME := Lib.hid (fmessage_any V g B o r s l hS hl hW hph kind ⟨xa, xh, xi, xf, xp⟩ code sub p n c)
  unfold evA at HME
  have HAG := Lib.hid ((fagain_any V g B o r s l hS (by omega) hW).mono fun e w0 h0 => h0.toD)
  have HF4 := Lib.hid (ffall_any V g B o r s l hS (by omega) hW 4 0 none [] 0 0 (BytesAt.nil _ _) rfl (by omega))
  have HF0 := Lib.hid (ffall_any V g B o r s l hS (by omega) hW 0 0 none [] 0 0 (BytesAt.nil _ _) rfl (by omega))
  have HFB := Lib.hid (ffall_any V g B o r s l hS (by omega) hW code sub p xs n c (hb.below hA) hn hm)
  obtain ⟨M, hM⟩ : ∃ M : Dt → Ph × List Ac, (fun d => sessionV o r s kind ⟨xa, xh, xi, xf, xp⟩ code sub d) = M := ⟨_, rfl⟩
  have HM := Lib.hid (fun d => (congrFun hM d).symm)
  rw [hM]
  clear hM
  clear h hA hV hS hl hB hW hph hb hn hm c6
  by_cases h5 : kind = 5
  · subst h5
    have HE := Lib.hid (fun d => show M d = messageV o r s 5 ⟨xa, xh, xi, xf, xp⟩ d by rw [HM.out]; rfl)
    go_enter Try.func19, Try.ntmps19
    go_wp2_with fail
    rw [HV.out]
    refine HME.out.mono ?_
    rintro e w2 hD
    have HD := Lib.hid hD
    obtain ⟨d, rfl, hS2, hB2⟩ := hD
    have HS2 := Lib.hid hS2
    have HB2 := Lib.hid hB2
    clear hS2 hB2
    go_wp2_with fail
    exact bodyPost_end (v := .tuple #[]) (by simp [results, Try.results19, go_sem]) rfl ⟨d, rfl, by rw [HE.out]; exact HS2.out, HA.out.trans HB2.out⟩
  · have g5 : (kind == 5) = false := by simpa using h5
    by_cases h6 : kind = 6
    · subst h6
      have HE := Lib.hid (fun d => show M d = messageV o r s 6 ⟨xa, xh, xi, xf, xp⟩ d by rw [HM.out]; rfl)
      go_enter Try.func19, Try.ntmps19
      go_wp2_with fail
      rw [HV.out]
      refine HME.out.mono ?_
      rintro e w2 hD
      have HD := Lib.hid hD
      obtain ⟨d, rfl, hS2, hB2⟩ := hD
      have HS2 := Lib.hid hS2
      have HB2 := Lib.hid hB2
      clear hS2 hB2
      go_wp2_with fail
      exact bodyPost_end (v := .tuple #[]) (by simp [results, Try.results19, go_sem]) rfl ⟨d, rfl, by rw [HE.out]; exact HS2.out, HA.out.trans HB2.out⟩
    · have g6 : (kind == 6) = false := by simpa using h6
      by_cases h7 : kind = 7
      · subst h7
        have HE := Lib.hid (fun d => show M d = messageV o r s 7 ⟨xa, xh, xi, xf, xp⟩ d by rw [HM.out]; rfl)
        go_enter Try.func19, Try.ntmps19
        go_wp2_with fail
        rw [HV.out]
        refine HME.out.mono ?_
        rintro e w2 hD
        have HD := Lib.hid hD
        obtain ⟨d, rfl, hS2, hB2⟩ := hD
        have HS2 := Lib.hid hS2
        have HB2 := Lib.hid hB2
        clear hS2 hB2
        go_wp2_with fail
        exact bodyPost_end (v := .tuple #[]) (by simp [results, Try.results19, go_sem]) rfl ⟨d, rfl, by rw [HE.out]; exact HS2.out, HA.out.trans HB2.out⟩
      · have g7 : (kind == 7) = false := by simpa using h7
        by_cases h11 : kind = 11
        · subst h11
          have HE := Lib.hid (fun d => show M d = againV s by rw [HM.out]; rfl)
          go_enter Try.func19, Try.ntmps19
          go_wp2_with fail
          rw [HV.out]
          refine HAG.out.mono ?_
          rintro e w2 hD
          have HD := Lib.hid hD
          obtain ⟨d, rfl, hS2, hB2⟩ := hD
          have HS2 := Lib.hid hS2
          have HB2 := Lib.hid hB2
          clear hS2 hB2
          go_wp2_with fail
          exact bodyPost_end (v := .tuple #[]) (by simp [results, Try.results19, go_sem]) rfl ⟨d, rfl, by rw [HE.out]; exact HS2.out, HA.out.trans HB2.out⟩
        · have g11 : (kind == 11) = false := by simpa using h11
          by_cases h10 : kind = 10
          · subst h10
            have HE := Lib.hid (fun d => show M d = fallV r s 4 0 d by rw [HM.out]; rfl)
            go_enter Try.func19, Try.ntmps19
            go_wp2_with fail
            rw [HV.out]
            refine HF4.out.mono ?_
            rintro e w2 hD
            have HD := Lib.hid hD
            obtain ⟨d, rfl, hS2, hB2⟩ := hD
            have HS2 := Lib.hid hS2
            have HB2 := Lib.hid hB2
            clear hS2 hB2
            go_wp2_with fail
            exact bodyPost_end (v := .tuple #[]) (by simp [results, Try.results19, go_sem]) rfl ⟨d, rfl, by rw [HE.out]; exact HS2.out, HA.out.trans HB2.out⟩
          · have g10 : (kind == 10) = false := by simpa using h10
            by_cases h4 : kind = 4
            · subst h4
              have HE := Lib.hid (fun d => show M d = fallV r s 0 0 d by rw [HM.out]; rfl)
              go_enter Try.func19, Try.ntmps19
              go_wp2_with fail
              rw [HV.out]
              refine HF0.out.mono ?_
              rintro e w2 hD
              have HD := Lib.hid hD
              obtain ⟨d, rfl, hS2, hB2⟩ := hD
              have HS2 := Lib.hid hS2
              have HB2 := Lib.hid hB2
              clear hS2 hB2
              go_wp2_with fail
              exact bodyPost_end (v := .tuple #[]) (by simp [results, Try.results19, go_sem]) rfl ⟨d, rfl, by rw [HE.out]; exact HS2.out, HA.out.trans HB2.out⟩
            · have g4 : (kind == 4) = false := by simpa using h4
              by_cases h8 : kind = 8
              · subst h8
                have HE := Lib.hid (fun d => show M d = fallV r s 0 0 d by rw [HM.out]; rfl)
                go_enter Try.func19, Try.ntmps19
                go_wp2_with fail
                rw [HV.out]
                refine HF0.out.mono ?_
                rintro e w2 hD
                have HD := Lib.hid hD
                obtain ⟨d, rfl, hS2, hB2⟩ := hD
                have HS2 := Lib.hid hS2
                have HB2 := Lib.hid hB2
                clear hS2 hB2
                go_wp2_with fail
                exact bodyPost_end (v := .tuple #[]) (by simp [results, Try.results19, go_sem]) rfl ⟨d, rfl, by rw [HE.out]; exact HS2.out, HA.out.trans HB2.out⟩
              · have g8 : (kind == 8) = false := by simpa using h8
                by_cases h9 : kind = 9
                · subst h9
                  have HE := Lib.hid (fun d => show M d = fallV r s code sub d by rw [HM.out]; rfl)
                  go_enter Try.func19, Try.ntmps19
                  go_wp2_with fail
                  rw [HV.out]
                  refine HFB.out.mono ?_
                  rintro e w2 hD
                  have HD := Lib.hid hD
                  obtain ⟨d, rfl, hS2, hB2⟩ := hD
                  have HS2 := Lib.hid hS2
                  have HB2 := Lib.hid hB2
                  clear hS2 hB2
                  go_wp2_with fail
                  exact bodyPost_end (v := .tuple #[]) (by simp [results, Try.results19, go_sem]) rfl ⟨d, rfl, by rw [HE.out]; exact HS2.out, HA.out.trans HB2.out⟩
                · have g9 : (kind == 9) = false := by simpa using h9
                  have HE := Lib.hid (fun d => show M d = (s, []) by rw [HM.out]; unfold sessionV; rw [if_neg (by omega), if_neg h11, if_neg h10, if_neg (by omega), if_neg h9])
                  go_enter Try.func19, Try.ntmps19
                  go_wp2_with fail
                  exact bodyPost_end (v := .tuple #[]) (by simp [results, Try.results19, go_sem]) rfl ⟨⟨none, 0, 0⟩, rfl, by rw [HE.out, List.append_nil, HV.out]; exact HS.out, by rw [HV.out]; exact HA.out⟩
set_option maxHeartbeats 4000000 in
theorem fevent_any (w : World) (g B : Nat) (o : Op) (r : Int) (s : Ph) (l : List Ac) (h : StM w g B o r s l) (hl : l.length ≤ 800) (hB : B ≤ w.heap.size) (hk : knownB s = true) (kind : Int) (x : Op) (code sub : Int) (p : Option Addr) (xs : List Int) (n c : Nat) (hb : BytesAt w p xs) (hn : xs.length = n) (hm : n ≤ 1099511627776) :
    Calls Try.prog 14 #[.pointer (some ⟨g, 0, none⟩), evA kind x code sub p n c] w fun e w' => DidD w' w g B o r (fun d => eventV o r s kind x code sub d) l e := by
  obtain ⟨xa, xh, xi, xf, xp⟩ := x
  unfold evA
  dsimp only
  have hA := newB w (.cells #[.int .i64 kind, .int .i64 xa, .int .i64 xh, .int .u32 xi, .bool xf, .int .i64 xp, .int .i64 code, .int .i64 sub, .slice p n c] 36)
  obtain ⟨V, hV⟩ : ∃ V, w.alloc (.cells #[.int .i64 kind, .int .i64 xa, .int .i64 xh, .int .u32 xi, .bool xf, .int .i64 xp, .int .i64 code, .int .i64 sub, .slice p n c] 36) = V := ⟨_, rfl⟩
  rw [hV] at hA
  have HV := Lib.hid hV
  have hS := h.next hA
  have hW : B ≤ V.heap.size := by have := hA.size; omega
  have HS := Lib.hid hS
  have HA := Lib.hid (hA.mono hB)
  have c6 := hS.cells.2.2.2.2.2.2.1
  rw [← hV] at c6
  have hk' : 1 ≤ s.phase ∧ s.phase ≤ 5 := by simpa [knownB] using hk
  have HST := Lib.hid (fstop_any V g B o r s l hS (by omega) hW)
  have HID := Lib.hid ((fidle_any V g B o r s l hS (by omega) hW kind).mono fun e w0 h0 => h0.toD)
  have HCO := Lib.hid ((fconnect_any V g B o r s l hS (by omega) hW kind).mono fun e w0 h0 => h0.toD)
  have HSE := Lib.hid (fun hph => fsession_any V g B o r s l hS hl hW hph kind ⟨xa, xh, xi, xf, xp⟩ code sub p xs n c (hb.below hA) hn hm)
  unfold evA at HSE
  obtain ⟨M, hM⟩ : ∃ M : Dt → Ph × List Ac, (fun d => eventV o r s kind ⟨xa, xh, xi, xf, xp⟩ code sub d) = M := ⟨_, rfl⟩
  have HM := Lib.hid (fun d => (congrFun hM d).symm)
  rw [hM]
  clear hM
  clear h hA hV hS hl hB hW hb hn hm hk
  by_cases h2 : kind = 2
  · subst h2
    have HE := Lib.hid (fun d => show M d = stopV s d by rw [HM.out]; rfl)
    go_enter Try.func14, Try.ntmps14
    go_wp2_with fail
    rw [HV.out]
    refine HST.out.mono ?_
    rintro e w2 hD
    have HD := Lib.hid hD
    obtain ⟨d, rfl, hS2, hB2⟩ := hD
    have HS2 := Lib.hid hS2
    have HB2 := Lib.hid hB2
    clear hS2 hB2
    go_wp2_with fail
    exact bodyPost_end (v := .tuple #[]) (by simp [results, Try.results14, go_sem]) rfl ⟨d, rfl, by rw [HE.out]; exact HS2.out, HA.out.trans HB2.out⟩
  · have g2 : (kind == 2) = false := by simpa using h2
    by_cases p1 : s.phase = 1
    · have HE := Lib.hid (fun d => show M d = idleV r s kind by rw [HM.out]; unfold eventV; rw [if_neg h2, if_pos p1])
      rw [p1] at c6
      go_enter Try.func14, Try.ntmps14
      go_wp2_with fail
      rw [HV.out]
      refine HID.out.mono ?_
      rintro e w2 hD
      have HD := Lib.hid hD
      obtain ⟨d, rfl, hS2, hB2⟩ := hD
      have HS2 := Lib.hid hS2
      have HB2 := Lib.hid hB2
      clear hS2 hB2
      go_wp2_with fail
      exact bodyPost_end (v := .tuple #[]) (by simp [results, Try.results14, go_sem]) rfl ⟨d, rfl, by rw [HE.out]; exact HS2.out, HA.out.trans HB2.out⟩
    · have q1 : (s.phase == 1) = false := by simpa using p1
      by_cases p2 : s.phase = 2
      · have HE := Lib.hid (fun d => show M d = connectV r s kind by rw [HM.out]; unfold eventV; rw [if_neg h2, if_neg p1, if_pos p2])
        rw [p2] at c6
        go_enter Try.func14, Try.ntmps14
        go_wp2_with fail
        rw [HV.out]
        refine HCO.out.mono ?_
        rintro e w2 hD
        have HD := Lib.hid hD
        obtain ⟨d, rfl, hS2, hB2⟩ := hD
        have HS2 := Lib.hid hS2
        have HB2 := Lib.hid hB2
        clear hS2 hB2
        go_wp2_with fail
        exact bodyPost_end (v := .tuple #[]) (by simp [results, Try.results14, go_sem]) rfl ⟨d, rfl, by rw [HE.out]; exact HS2.out, HA.out.trans HB2.out⟩
      · have q2 : (s.phase == 2) = false := by simpa using p2
        have HE := Lib.hid (fun d => show M d = sessionV o r s kind ⟨xa, xh, xi, xf, xp⟩ code sub d by rw [HM.out]; unfold eventV; rw [if_neg h2, if_neg p1, if_neg p2])
        have HPH := Lib.hid (show s.phase = 3 ∨ s.phase = 4 ∨ s.phase = 5 by omega)
        clear hk'
        go_enter Try.func14, Try.ntmps14
        go_wp2_with fail
        rw [HV.out]
        refine (HSE.out HPH.out).mono ?_
        rintro e w2 hD
        have HD := Lib.hid hD
        obtain ⟨d, rfl, hS2, hB2⟩ := hD
        have HS2 := Lib.hid hS2
        have HB2 := Lib.hid hB2
        clear hS2 hB2
        go_wp2_with fail
        exact bodyPost_end (v := .tuple #[]) (by simp [results, Try.results14, go_sem]) rfl ⟨d, rfl, by rw [HE.out]; exact HS2.out, HA.out.trans HB2.out⟩
end Go.Proofs.Ytbacnjijfffobaa
