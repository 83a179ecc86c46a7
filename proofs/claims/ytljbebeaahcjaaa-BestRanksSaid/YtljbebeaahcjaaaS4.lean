/- slices' stable sort at structs: symMerge as a whole. -/
import Derived.Test.YtljbebeaahcjaaaS3
import Derived.Deep.CutRange
namespace Go.Proofs.Ytljbebeaahcjaaa
open Go.Shelf Go.RowKit Go.Lib Go.Sort
set_option linter.unusedVariables false
set_option linter.unusedSimpArgs false
variable {α : Type} [Inhabited α]

theorem merged_of {enc : α → List Value} {k : Nat} {w0 : World} {blk off : Nat} {lt' : α → α → Bool} {a m b : Nat} {d d1 d2 d3 : Array α} {w' : World} (h1 : PermIn a b d d1) (hc : Cross lt' a m b d1) (ham : a ≤ m) (hmb : m ≤ b) (hb : b ≤ d.size) (hs : d1.size = d.size) (h2 : PermIn a m d1 d2) (s2 : SortedIn lt' a m d2) (h3 : PermIn m b d2 d3) (s3 : SortedIn lt' m b d3) (S : SWK enc k w0 blk off d3 w') : Merged enc k w0 blk off lt' a b d w' :=
  ⟨d3, permIn_trans _ _ _ _ _ h1 (permIn_trans _ _ _ _ _ (permIn_mono _ _ a m a b (Nat.le_refl _) hmb (by omega) h2) (permIn_mono _ _ m b a b ham (Nat.le_refl _) (by rw [h2.1]; omega) h3)),
    sorted_join (sorted_same s2 fun x h4 h5 => h3.2.1 x (.inl h5)) s3 (hc.perm ham hmb (by omega) h2 h3), S⟩
set_option maxHeartbeats 8000000 in
set_option maxRecDepth 1000000 in
def SymAny (g : Nat) (cb : Array Value) (enc : α → List Value) (k : Nat) (cf : α → α → Int) (lt' : α → α → Bool) (blk off cap : Nat) (w0 : World) (NS F : Nat) : Prop :=
    ∀ (a m b : Nat) (d : Array α) (w : World), b - a ≤ F → a < m → m < b → b ≤ NS → d.size = NS → SWK enc k w0 blk off d w → SortedIn lt' a m d → SortedIn lt' m b d → Agree cf lt' a m b d →
    Calls Try.prog 61 #[.slice (some ⟨blk, off, none⟩) NS cap, .int .i64 a, .int .i64 m, .int .i64 b, .func (.func g) #[] cb] w fun e w' => e = .returned (.tuple #[]) ∧ Merged enc k w0 blk off lt' a b d w'
set_option maxHeartbeats 8000000 in
set_option maxRecDepth 1000000 in
theorem symMerge_step (k : Nat) (aE : ∀ w, (isAgg 57).run Try.prog w = .ok true w) (zE : ∀ w, (Go.sizeOf 57).run Try.prog w = .ok k w) (enc : α → List Value) (cf : α → α → Int) (lt' : α → α → Bool) (hS : SWO lt') (g : Nat) (cb : Array Value) (blk off cap : Nat) (d0 : Array α) (w0 : World)
    (eg : ∀ args w, (callFunc g args).run Try.prog w = .ok (.enter g args) w) (hcmp : CmpLays Try.prog g cb enc k cf blk off d0.size w0) (R : RowK enc k w0 blk off d0)
    (NS : Nat) (hNS : d0.size = NS) (hsz : NS < 4611686018427387904) (F : Nat) (ih0 : SymAny g cb enc k cf lt' blk off cap w0 NS F)
    (a m b : Nat) (d : Array α) (w : World) (hF : b - a ≤ F + 1) (ham : a < m) (hmb : m < b) (hb : b ≤ NS) (hd : d.size = NS) (S : SWK enc k w0 blk off d w) (hL : SortedIn lt' a m d) (hR : SortedIn lt' m b d) (hA : Agree cf lt' a m b d) :
    Calls Try.prog 61 #[.slice (some ⟨blk, off, none⟩) NS cap, .int .i64 a, .int .i64 m, .int .i64 b, .func (.func g) #[] cb] w fun e w' => e = .returned (.tuple #[]) ∧ Merged enc k w0 blk off lt' a b d w' := by
    subst hNS
    by_cases c1 : m = a + 1
    · subst c1
      exact symUp_any k aE zE enc cf lt' hS g cb blk off cap d0 w0 eg hcmp R a b d w _ hd hd.symm S hmb (by omega) (by omega) hR hA
    by_cases c2 : b = m + 1
    · subst c2
      exact symDown_any k aE zE enc cf lt' hS g cb blk off cap d0 w0 eg hcmp R a m d w _ hd hd.symm S (by omega) (by omega) (by omega) hL hA
    have hs : d0.size = d.size := hd.symm
    have IH : Aside (∀ (a m b : Nat) (d' : Array α) (w : World), b - a ≤ F → a < m → m < b → b ≤ d.size → d'.size = d.size → SWK enc k w0 blk off d' w → SortedIn lt' a m d' → SortedIn lt' m b d' → Agree cf lt' a m b d' →
      Calls Try.prog 61 #[.slice (some ⟨blk, off, none⟩) d.size cap, .int .i64 a, .int .i64 m, .int .i64 b, .func (.func g) #[] cb] w fun e w' => e = .returned (.tuple #[]) ∧ Merged enc k w0 blk off lt' a b d' w') := hs ▸ ih0
    rw [hs] at hb hsz ⊢
    clear hd ih0
    have mixed : Try.prog.follows .mixedOrders = true := by kernel_rfl
    have S0 : Aside (SWK enc k w0 blk off d w) := S
    have HC : Aside _ := hcmp
    have HA : Aside _ := hA
    have HL : Aside _ := hL
    have HR : Aside _ := hR
    have HS : Aside _ := hS
    clear S hcmp hA hL hR hS
    obtain ⟨D1, hD1⟩ : ∃ D, m - a = D := ⟨_, rfl⟩
    obtain ⟨D2, hD2⟩ : ∃ D, b - m = D := ⟨_, rfl⟩
    obtain ⟨MID, hMID⟩ : ∃ M, (a + b) / 2 = M := ⟨_, rfl⟩
    obtain ⟨NN, hNN⟩ : ∃ M, MID + m = M := ⟨_, rfl⟩
    obtain ⟨PP, hPP⟩ : ∃ M, NN - 1 = M := ⟨_, rfl⟩
    have e1 : IntKind.i64.wrap ((m : Int) - (a : Int)) = (D1 : Int) := by rw [IntKind.wrap_i64]; omega
    have e2 : IntKind.i64.wrap ((b : Int) - (m : Int)) = (D2 : Int) := by rw [IntKind.wrap_i64]; omega
    have t1 : ((D1 : Int) == 1) = false := by simpa using (show ¬ (D1 : Int) = 1 by omega)
    have t1' : decide ((D1 : Int) = 1) = false := decide_eq_false (by omega)
    have t2 : ((D2 : Int) == 1) = false := by simpa using (show ¬ (D2 : Int) = 1 by omega)
    have t2' : decide ((D2 : Int) = 1) = false := decide_eq_false (by omega)
    have e3 : ((a : Int) + (b : Int)) / 2 = (MID : Int) := by omega
    have e4 : IntKind.i64.wrap ((MID : Int) + (m : Int)) = (NN : Int) := by rw [IntKind.wrap_i64]; omega
    have e5 : IntKind.i64.wrap ((NN : Int) - 1) = (PP : Int) := by rw [IntKind.wrap_i64]; omega
    go_enter Try.func61, Try.ntmps61
    go_upto_if 140 with fail
    go_cut [20, 21] from 138 to 146 (fun s20 s21 wx => ∃ s0 r0 : Nat, s20 = .int .i64 s0 ∧ s21 = .int .i64 r0 ∧ (s0 = a ∨ MID + m - s0 = b) ∧ (r0 = m ∨ r0 = MID) ∧ a ≤ s0 ∧ s0 ≤ r0 ∧ r0 ≤ m ∧ r0 ≤ MID ∧ MID + m - s0 ≤ b ∧ Aside (SWK enc k w0 blk off d wx))
    case first =>
      by_cases hmm : MID < m
      · have t3 : (MID : Int) < (m : Int) := by omega
        obtain ⟨s0, hs0'⟩ : ∃ s0, NN - b = s0 := ⟨_, rfl⟩
        have e6 : IntKind.i64.wrap ((NN : Int) - (b : Int)) = (s0 : Int) := by rw [IntKind.wrap_i64]; omega
        go_wp2_with fail
        go_meet
        exact ⟨s0, MID, rfl, rfl, by omega, by omega, by omega, by omega, by omega, by omega, by omega, S0⟩
      · have t3 : ¬ (MID : Int) < (m : Int) := by omega
        go_wp2_with fail
        go_meet
        exact ⟨a, m, rfl, rfl, by omega, by omega, by omega, by omega, by omega, by omega, by omega, S0⟩
    case rest =>
      clear S0
      obtain ⟨s0, r0, rfl, rfl, f1, f2, f3, f4, f5, f6, f7, S0⟩ := hcut
      have F1 := Lib.hid f1
      have F2 := Lib.hid f2
      clear e1 e2 t1 t1' t2 t2' e3 e4 f1 f2 hD1 hD2
      go_wp2_with fail
      go_loopg [20, 21] b (fun kx s20 s21 wr => ∃ s r : Nat, s20 = .int .i64 s ∧ s21 = .int .i64 r ∧ s0 ≤ s ∧ s ≤ r ∧ r ≤ r0 ∧ r - s ≤ kx ∧ Aside (SWK enc k w0 blk off d wr) ∧ Aside (s = s0 ∨ lt' d[MID + m - s]! d[s - 1]! = false) ∧ Aside (r = r0 ∨ lt' d[MID + m - 1 - r]! d[r]! = true))
      case atStart => exact ⟨s0, r0, rfl, rfl, Nat.le_refl _, by omega, Nat.le_refl _, by omega, S0, (show _ ∨ _ from .inl rfl), (show _ ∨ _ from .inl rfl)⟩
      case round =>
        clear S0
        obtain ⟨s, r, rfl, rfl, hs0, hsr, hr0, hkx, S1, LO, HI⟩ := hrel
        by_cases hlt : s < r
        · have hltz : (s : Int) < (r : Int) := by omega
          obtain ⟨c, hc⟩ : ∃ c, (s + r) / 2 = c := ⟨_, rfl⟩
          have eC : ((s : Int) + (r : Int)) / 2 = (c : Int) := by omega
          have hc1 : s ≤ c := by omega
          have hc2 : c < r := by omega
          clear hc
          obtain ⟨Q, hQ⟩ : ∃ Q, MID + m - 1 - c = Q := ⟨_, rfl⟩
          have eQ : IntKind.i64.wrap ((PP : Int) - (c : Int)) = (Q : Int) := by rw [IntKind.wrap_i64]; omega
          have q1 : m ≤ Q := by omega
          have q2 : Q < b := by omega
          go_wp2_with fail
          by_cases hv : cf d[Q]! d[c]! < 0
          · have HI2 : Aside (c = r0 ∨ lt' d[MID + m - 1 - c]! d[c]! = true) := (show _ ∨ _ from .inr (hQ ▸ Agree.yes HA.out (i := c) (j := Q) (by omega) (by omega) q1 q2 hv))
            have ea1 : ((Q : Int)).toNat = Q := by omega
            have pa1 : (0 : Int) ≤ (Q : Int) := by omega
            have ba1 : (Q : Int) < (d.size : Int) := by omega
            have ra1 : IntKind.i64.wrap ((Q : Int)) = (Q : Int) := by rw [IntKind.wrap_i64]; omega
            have ec1 : ((c : Int)).toNat = c := by omega
            have pc1 : (0 : Int) ≤ (c : Int) := by omega
            have bc1 : (c : Int) < (d.size : Int) := by omega
            have rc1 : IntKind.i64.wrap ((c : Int)) = (c : Int) := by rw [IntKind.wrap_i64]; omega
            obtain ⟨x1, hx1⟩ : ∃ x, x = d[Q]! := ⟨_, rfl⟩
            obtain ⟨y1, hy1⟩ : ∃ x, x = d[c]! := ⟨_, rfl⟩
            have l1a := S1.out.ld R (by omega) Try.prog (Q) (by omega)
            have l1b := S1.out.ld R (by omega) Try.prog (c) (by omega)
            rw [← hx1] at l1a
            rw [← hy1] at l1b
            have hc1 := S1.out.cmp HC.out (by omega) x1 y1
            have hv1 : cf x1 y1 < 0 := by rw [hx1, hy1]; exact hv
            have hd1 : decide (cf x1 y1 < 0) = true := decide_eq_true hv1
            clear hx1 hy1
            go_wp2_with fail
            go_quiet_grown (first | (go_at_fn g; refine Calls.grown_of (hc1 _ _)))
            have S2 : Aside (SWK enc k w0 blk off d (grow (wr.drewN nq) osq)) := S1.out.grown nq osq
            clear l1a l1b hc1 S1
            generalize grow (wr.drewN nq) osq = w2 at S2 ⊢
            clear nq osq
            go_wp2
            go_roundg (c - s)
            case measure => omega
            case rel => exact ⟨s, c, rfl, rfl, hs0, by omega, by omega, Nat.le_refl _, S2, LO, HI2⟩
          · have LO2 : Aside (c + 1 = s0 ∨ lt' d[MID + m - (c + 1)]! d[c + 1 - 1]! = false) := (show _ ∨ _ from .inr (by rw [show MID + m - (c + 1) = Q by omega, Nat.add_sub_cancel]; exact Agree.no HA.out (i := c) (j := Q) (by omega) (by omega) q1 q2 hv))
            have ea2 : ((Q : Int)).toNat = Q := by omega
            have pa2 : (0 : Int) ≤ (Q : Int) := by omega
            have ba2 : (Q : Int) < (d.size : Int) := by omega
            have ra2 : IntKind.i64.wrap ((Q : Int)) = (Q : Int) := by rw [IntKind.wrap_i64]; omega
            have ec2 : ((c : Int)).toNat = c := by omega
            have pc2 : (0 : Int) ≤ (c : Int) := by omega
            have bc2 : (c : Int) < (d.size : Int) := by omega
            have rc2 : IntKind.i64.wrap ((c : Int)) = (c : Int) := by rw [IntKind.wrap_i64]; omega
            obtain ⟨x2, hx2⟩ : ∃ x, x = d[Q]! := ⟨_, rfl⟩
            obtain ⟨y2, hy2⟩ : ∃ x, x = d[c]! := ⟨_, rfl⟩
            have l2a := S1.out.ld R (by omega) Try.prog (Q) (by omega)
            have l2b := S1.out.ld R (by omega) Try.prog (c) (by omega)
            rw [← hx2] at l2a
            rw [← hy2] at l2b
            have hc2 := S1.out.cmp HC.out (by omega) x2 y2
            have hv2 : ¬ cf x2 y2 < 0 := by rw [hx2, hy2]; exact hv
            have hd2 : decide (cf x2 y2 < 0) = false := decide_eq_false hv2
            clear hx2 hy2
            go_wp2_with fail
            go_quiet_grown (first | (go_at_fn g; refine Calls.grown_of (hc2 _ _)))
            have S2 : Aside (SWK enc k w0 blk off d (grow (wr.drewN nq) osq)) := S1.out.grown nq osq
            clear l2a l2b hc2 S1
            generalize grow (wr.drewN nq) osq = w2 at S2 ⊢
            clear nq osq
            go_wp2
            go_roundg (r - (c + 1))
            case measure => omega
            case rel => exact ⟨c + 1, r, by go_num, rfl, by omega, by omega, hr0, Nat.le_refl _, S2, LO2, HI⟩
        · obtain rfl : s = r := by omega
          obtain ⟨E, hE⟩ : ∃ E, MID + m - s = E := ⟨_, rfl⟩
          have eE : IntKind.i64.wrap ((NN : Int) - (s : Int)) = (E : Int) := by rw [IntKind.wrap_i64]; omega
          have CA : Aside (CutAt lt' a m b s E d) := show CutAt lt' a m b s E d from by rw [← hE]; exact CutAt.found HS.out HL.out HR.out (by omega) (by omega) (by omega) (by omega) (LO.out.elim (fun h => (show s = a ∨ MID + m - s = b by have := F1.out; omega).elim .inl (fun h => .inr (.inl h))) (fun h => .inr (.inr h))) (HI.out.elim (fun h => (show s = m ∨ s = MID by have := F2.out; omega).elim .inl (fun h => .inr (.inl h))) (fun h => .inr (.inr h)))
          have b1 : a ≤ s := by omega
          have b2 : s ≤ m := by omega
          have b3 : m ≤ E := by omega
          have b4 : E ≤ b := by omega
          have b5 : s + (E - m) = MID := by omega
          clear LO HI hs0 hr0 hsr hlt hkx
          go_upto_region 39 with fail
          go_cut [185] from 178 to 185 (fun s185 wx => ∃ B : Bool, s185 = .bool B ∧ (B = true → s < m ∧ m < E) ∧ (B = false → s = m ∨ m = E) ∧ wr = wx)
          case first =>
            by_cases h1 : s < m
            · have h1z : (s : Int) < (m : Int) := by omega
              by_cases h2 : m < E
              · have h2z : (m : Int) < (E : Int) := by omega
                go_wp2_with fail
                go_meet
                exact ⟨true, rfl, fun _ => ⟨h1, h2⟩, fun h => (by cases h), rfl⟩
              · have h2z : ¬ (m : Int) < (E : Int) := by omega
                go_wp2_with fail
                go_meet
                exact ⟨false, rfl, fun h => (by cases h), fun _ => by omega, rfl⟩
            · have h1z : ¬ (s : Int) < (m : Int) := by omega
              go_wp2_with fail
              go_meet
              exact ⟨false, rfl, fun h => (by cases h), fun _ => by omega, rfl⟩
          case rest =>
          obtain ⟨B, rfl, hB1, hB2, rfl⟩ := hcut
          go_upto_if 185 with fail
          go_cut [] from 186 to 191 (fun wx => ∃ d1 : Array α, Aside (Rot s m E d d1) ∧ Aside (SWK enc k w0 blk off d1 wx))
          case first =>
            rcases B with _ | _
            · have h3 := hB2 rfl
              clear hB1 hB2
              go_wp2_with fail
              go_meet
              exact ⟨d, Rot.none d h3, S1⟩
            · obtain ⟨h1, h2⟩ := hB1 rfl
              clear hB1 hB2
              · have HC1 := Lib.hid (rotate_any k aE zE enc g cb blk off cap s m E d0 d w0 wr d.size rfl R (by omega) S1.out h1 h2 (by omega) (by omega))
                go_wp2_with (go_at_call 68; refine HC1.out.mono ?_; rintro e w' ⟨rfl, d1, hrot, hS1⟩)
                go_meet
                exact ⟨d1, hrot, hS1⟩
          case rest =>
            clear S1
            obtain ⟨d1, RO, S1⟩ := hcut
            have hds1 : d1.size = d.size := RO.out.size
            have CR := Lib.hid (CutAt.cross CA.out HL.out HR.out RO.out)
            rw [b5] at CR
            have HP1 := Lib.hid (permIn_mono _ _ s E a b b1 b4 hb RO.out.perm)
            clear hB1 hB2
            go_upto_region 41 with fail
            go_cut [199] from 192 to 199 (fun s199 wx => ∃ B : Bool, s199 = .bool B ∧ (B = true → a < s ∧ s < MID) ∧ (B = false → a = s ∨ s = MID) ∧ wc = wx)
            case first =>
              by_cases h1 : a < s
              · have h1z : (a : Int) < (s : Int) := by omega
                by_cases h2 : s < MID
                · have h2z : (s : Int) < (MID : Int) := by omega
                  go_wp2_with fail
                  go_meet
                  exact ⟨true, rfl, fun _ => ⟨h1, h2⟩, fun h => (by cases h), rfl⟩
                · have h2z : ¬ (s : Int) < (MID : Int) := by omega
                  go_wp2_with fail
                  go_meet
                  exact ⟨false, rfl, fun h => (by cases h), fun _ => by omega, rfl⟩
              · have h1z : ¬ (a : Int) < (s : Int) := by omega
                go_wp2_with fail
                go_meet
                exact ⟨false, rfl, fun h => (by cases h), fun _ => by omega, rfl⟩
            case rest =>
            obtain ⟨B, rfl, hB1, hB2, rfl⟩ := hcut
            go_upto_if 199 with fail
            go_cut [] from 200 to 205 (fun wx => ∃ d2 : Array α, Aside (PermIn a MID d1 d2) ∧ Aside (SortedIn lt' a MID d2) ∧ Aside (SWK enc k w0 blk off d2 wx))
            case first =>
              rcases B with _ | _
              · have h3 := hB2 rfl
                clear hB1 hB2
                go_wp2_with fail
                go_meet
                exact ⟨d1, permIn_refl _ _ _, h3.elim (fun h => (show SortedIn lt' a MID d1 from by rw [h]; exact CR.out.2.2.1)) (fun h => (show SortedIn lt' a MID d1 from by rw [← h]; exact CR.out.2.1)), S1⟩
              · obtain ⟨h1, h2⟩ := hB1 rfl
                clear hB1 hB2
                · have HC1 := Lib.hid (IH.out a s MID d1 wc (by omega) h1 h2 (by omega) hds1 S1.out CR.out.2.1 CR.out.2.2.1 (fun i j hi his hj hjb => by
                    rw [RO.out.get i, RO.out.get j, rotF_out (.inl his), rotF_lo hj (by omega) b3 b2]
                    exact HA.out i _ hi (by omega) (by omega) (by omega)))
                  go_wp2_with (go_at_call 61; refine HC1.out.mono ?_; rintro e w' ⟨rfl, d2, hp2, hso2, hS2⟩)
                  go_meet
                  exact ⟨d2, hp2, hso2, hS2⟩
            case rest =>
              clear S1
              clear hB1 hB2
              obtain ⟨d2, HP2, HS2, S1⟩ := hcut
              have hds2 : d2.size = d.size := by rw [HP2.out.1, hds1]
              by_cases h1 : MID < E
              · have h1z : (MID : Int) < (E : Int) := by omega
                by_cases h2 : E < b
                · have h2z : (E : Int) < (b : Int) := by omega
                  have HC1 := Lib.hid (IH.out MID E b d2 wc (by omega) h1 h2 (by omega) hds2 S1.out (sorted_same CR.out.2.2.2.1 fun x h3 h4 => HP2.out.2.1 x (.inr h3)) (sorted_same CR.out.2.2.2.2 fun x h3 h4 => HP2.out.2.1 x (.inr (by omega))) (fun i j hi his hj hjb => by
                    rw [HP2.out.2.1 i (.inr hi), HP2.out.2.1 j (.inr (by omega)), RO.out.get i, RO.out.get j, rotF_hi (by omega) his b3 b2, rotF_out (.inr hj)]
                    exact HA.out _ j (by omega) (by omega) (by omega) hjb))
                  go_wp2_with (go_at_call 61; refine HC1.out.mono ?_; rintro e w' ⟨rfl, d3, hp3, hso3, hS3⟩)
                  go_end0
                  exact ⟨rfl, merged_of HP1.out CR.out.1 (by omega) (by omega) hb hds1 HP2.out HS2.out hp3 hso3 hS3⟩
                · have h2z : ¬ (E : Int) < (b : Int) := by omega
                  go_wp2_with fail
                  go_end0
                  exact ⟨rfl, merged_of HP1.out CR.out.1 (by omega) (by omega) hb hds1 HP2.out HS2.out (permIn_refl _ _ _) (sorted_same (d := d1) (by rw [show b = E by omega]; exact CR.out.2.2.2.1) fun x h3 h4 => HP2.out.2.1 x (.inr h3)) S1.out⟩
              · have h1z : ¬ (MID : Int) < (E : Int) := by omega
                go_wp2_with fail
                go_end0
                exact ⟨rfl, merged_of HP1.out CR.out.1 (by omega) (by omega) hb hds1 HP2.out HS2.out (permIn_refl _ _ _) (sorted_same (d := d1) (by rw [show MID = E by omega]; exact CR.out.2.2.2.2) fun x h3 h4 => HP2.out.2.1 x (.inr (by omega))) S1.out⟩
theorem symMerge_any (k : Nat) (aE : ∀ w, (isAgg 57).run Try.prog w = .ok true w) (zE : ∀ w, (Go.sizeOf 57).run Try.prog w = .ok k w) (enc : α → List Value) (cf : α → α → Int) (lt' : α → α → Bool) (hS : SWO lt') (g : Nat) (cb : Array Value) (blk off cap : Nat) (d0 : Array α) (w0 : World)
    (eg : ∀ args w, (callFunc g args).run Try.prog w = .ok (.enter g args) w) (hcmp : CmpLays Try.prog g cb enc k cf blk off d0.size w0) (R : RowK enc k w0 blk off d0)
    (NS : Nat) (hNS : d0.size = NS) (hsz : NS < 4611686018427387904) : ∀ F, SymAny g cb enc k cf lt' blk off cap w0 NS F
  | 0 => fun a m b d w hF ham hmb => by omega
  | F + 1 => symMerge_step k aE zE enc cf lt' hS g cb blk off cap d0 w0 eg hcmp R NS hNS hsz F (symMerge_any k aE zE enc cf lt' hS g cb blk off cap d0 w0 eg hcmp R NS hNS hsz F)
end Go.Proofs.Ytljbebeaahcjaaa
