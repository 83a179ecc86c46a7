/- slices' stable sort at structs: symMerge. -/
import Derived.Test.YtljbebeaahcjaaaS2
namespace Go.Proofs.Ytljbebeaahcjaaa
open Go.Shelf Go.RowKit Go.Lib Go.Sort
set_option linter.unusedVariables false
set_option linter.unusedSimpArgs false
variable {α : Type} [Inhabited α]

/-- What a merge makes of two parts in order. -/
def Merged (enc : α → List Value) (k : Nat) (w0 : World) (blk off : Nat) (lt' : α → α → Bool) (a b : Nat) (d : Array α) (w' : World) : Prop := ∃ d', PermIn a b d d' ∧ SortedIn lt' a b d' ∧ SWK enc k w0 blk off d' w'
/-- The comparison is the order where one of the right part is held against one of the left part. -/
def Agree (cf : α → α → Int) (lt' : α → α → Bool) (a m b : Nat) (d : Array α) : Prop := ∀ i j, a ≤ i → i < m → m ≤ j → j < b → ltOf cf d[j]! d[i]! = lt' d[j]! d[i]!
theorem Agree.yes {cf : α → α → Int} {lt' : α → α → Bool} {a m b : Nat} {d : Array α} (h : Agree cf lt' a m b d) {i j : Nat} (h1 : a ≤ i) (h2 : i < m) (h3 : m ≤ j) (h4 : j < b) (hv : cf d[j]! d[i]! < 0) : lt' d[j]! d[i]! = true := by
  rw [← h i j h1 h2 h3 h4]; exact decide_eq_true hv
theorem Agree.no {cf : α → α → Int} {lt' : α → α → Bool} {a m b : Nat} {d : Array α} (h : Agree cf lt' a m b d) {i j : Nat} (h1 : a ≤ i) (h2 : i < m) (h3 : m ≤ j) (h4 : j < b) (hv : ¬ cf d[j]! d[i]! < 0) : lt' d[j]! d[i]! = false := by
  rw [← h i j h1 h2 h3 h4]; exact decide_eq_false hv

set_option maxHeartbeats 4000000 in
set_option maxRecDepth 1000000 in
theorem symUp_any (k : Nat) (aE : ∀ w, (isAgg 57).run Try.prog w = .ok true w) (zE : ∀ w, (Go.sizeOf 57).run Try.prog w = .ok k w) (enc : α → List Value) (cf : α → α → Int) (lt' : α → α → Bool) (hS : SWO lt') (g : Nat) (cb : Array Value) (blk off cap : Nat) (d0 : Array α) (w0 : World)
    (eg : ∀ args w, (callFunc g args).run Try.prog w = .ok (.enter g args) w) (hcmp : CmpLays Try.prog g cb enc k cf blk off d0.size w0) (R : RowK enc k w0 blk off d0)
    (a b : Nat) (d : Array α) (w : World) (N : Nat) (hN : d.size = N) (hs : d0.size = d.size) (S : SWK enc k w0 blk off d w) (hab : a + 1 < b) (hb : b ≤ d.size) (hsz : d.size < 4611686018427387904) (hR : SortedIn lt' (a + 1) b d) (hA : Agree cf lt' a (a + 1) b d) :
    Calls Try.prog 61 #[.slice (some ⟨blk, off, none⟩) N cap, .int .i64 a, .int .i64 ((a + 1 : Nat) : Int), .int .i64 b, .func (.func g) #[] cb] w fun e w' => e = .returned (.tuple #[]) ∧ Merged enc k w0 blk off lt' a b d w' := by
  subst hN
  have mixed : Try.prog.follows .mixedOrders = true := by kernel_rfl
  have S0 : Aside (SWK enc k w0 blk off d w) := S
  have HC : Aside _ := hcmp
  have HA : Aside _ := hA
  have HR : Aside _ := hR
  have HS : Aside _ := hS
  clear S hcmp hA hR hS
  obtain ⟨M, hM⟩ : ∃ M, a + 1 = M := ⟨_, rfl⟩
  rw [hM]
  have e0 : IntKind.i64.wrap ((M : Int) - (a : Int)) = 1 := by rw [IntKind.wrap_i64]; omega
  go_enter Try.func61, Try.ntmps61
  go_wp2_with fail
  go_loopg [10, 11] b (fun kx s10 s11 wr => ∃ i j : Nat, s10 = .int .i64 i ∧ s11 = .int .i64 j ∧ M ≤ i ∧ i ≤ j ∧ j ≤ b ∧ j - i ≤ kx ∧ Aside (SWK enc k w0 blk off d wr) ∧ Aside (∀ x, a + 1 ≤ x → x < i → lt' d[x]! d[a]! = true) ∧ Aside (∀ x, j ≤ x → x < b → lt' d[x]! d[a]! = false))
  case atStart => exact ⟨M, b, rfl, rfl, Nat.le_refl _, by omega, Nat.le_refl _, by omega, S0, (show ∀ x, a + 1 ≤ x → x < M → lt' d[x]! d[a]! = true from fun x h1 h2 => by omega), (show ∀ x, b ≤ x → x < b → lt' d[x]! d[a]! = false from fun x h1 h2 => by omega)⟩
  case round =>
    clear S0 e0
    obtain ⟨i, j, rfl, rfl, hmi, hij, hjb, hkx, S1, LO, HI⟩ := hrel
    by_cases hlt : i < j
    · have hltz : (i : Int) < (j : Int) := by omega
      obtain ⟨H, hH⟩ : ∃ H, (i + j) / 2 = H := ⟨_, rfl⟩
      have eH : ((i : Int) + (j : Int)) / 2 = (H : Int) := by omega
      have hH1 : i ≤ H := by omega
      have hH2 : H < j := by omega
      clear hH
      go_wp2_with fail
      by_cases hv : cf d[H]! d[a]! < 0
      · have LO2 : Aside (∀ x, a + 1 ≤ x → x < H + 1 → lt' d[x]! d[a]! = true) := (show ∀ x, a + 1 ≤ x → x < H + 1 → lt' d[x]! d[a]! = true from fun x h1 h2 => by
          have h := Agree.yes HA.out (i := a) (j := H) (Nat.le_refl _) (by omega) (by omega) (by omega) hv
          by_cases hx : x = H
          · rw [hx]; exact h
          · exact lt_before HS.out h (HR.out x H h1 (by omega) (by omega)))
        have ea1 : ((H : Int)).toNat = H := by omega
        have pa1 : (0 : Int) ≤ (H : Int) := by omega
        have ba1 : (H : Int) < (d.size : Int) := by omega
        have ra1 : IntKind.i64.wrap ((H : Int)) = (H : Int) := by rw [IntKind.wrap_i64]; omega
        have ec1 : ((a : Int)).toNat = a := by omega
        have pc1 : (0 : Int) ≤ (a : Int) := by omega
        have bc1 : (a : Int) < (d.size : Int) := by omega
        have rc1 : IntKind.i64.wrap ((a : Int)) = (a : Int) := by rw [IntKind.wrap_i64]; omega
        obtain ⟨x1, hx1⟩ : ∃ x, x = d[H]! := ⟨_, rfl⟩
        obtain ⟨y1, hy1⟩ : ∃ x, x = d[a]! := ⟨_, rfl⟩
        have l1a := S1.out.ld R (by omega) Try.prog (H) (by omega)
        have l1b := S1.out.ld R (by omega) Try.prog (a) (by omega)
        rw [← hx1] at l1a
        rw [← hy1] at l1b
        have hc1 := S1.out.cmp HC.out (by omega) x1 y1
        have hv1 : cf x1 y1 < 0 := by rw [hx1, hy1]; exact hv
        have hd1 : decide (cf x1 y1 < 0) = true := decide_eq_true hv1
        clear hx1 hy1
        go_wp2_with fail
        go_quiet_grown (first | (go_at_fn g; refine Calls.grown_of (hc1 _ _)))
        have S2 : Aside (SWK enc k w0 blk off d (grow (wr.drewN nq) osq)) := S1.out.grown nq osq
        clear l1a l1b hc1 S1
        generalize grow (wr.drewN nq) osq = w2 at S2 ⊢
        clear nq osq
        go_wp2
        go_roundg (j - (H + 1))
        case measure => omega
        case rel => exact ⟨H + 1, j, by go_num, rfl, by omega, by omega, hjb, Nat.le_refl _, S2, LO2, HI⟩
      · have HI2 : Aside (∀ x, H ≤ x → x < b → lt' d[x]! d[a]! = false) := (show ∀ x, H ≤ x → x < b → lt' d[x]! d[a]! = false from fun x h1 h2 => by
          have h := Agree.no HA.out (i := a) (j := H) (Nat.le_refl _) (by omega) (by omega) (by omega) hv
          by_cases hx : x = H
          · rw [hx]; exact h
          · exact HS.out.ntrans _ _ _ (HR.out H x (by omega) (by omega) h2) h)
        have ea2 : ((H : Int)).toNat = H := by omega
        have pa2 : (0 : Int) ≤ (H : Int) := by omega
        have ba2 : (H : Int) < (d.size : Int) := by omega
        have ra2 : IntKind.i64.wrap ((H : Int)) = (H : Int) := by rw [IntKind.wrap_i64]; omega
        have ec2 : ((a : Int)).toNat = a := by omega
        have pc2 : (0 : Int) ≤ (a : Int) := by omega
        have bc2 : (a : Int) < (d.size : Int) := by omega
        have rc2 : IntKind.i64.wrap ((a : Int)) = (a : Int) := by rw [IntKind.wrap_i64]; omega
        obtain ⟨x2, hx2⟩ : ∃ x, x = d[H]! := ⟨_, rfl⟩
        obtain ⟨y2, hy2⟩ : ∃ x, x = d[a]! := ⟨_, rfl⟩
        have l2a := S1.out.ld R (by omega) Try.prog (H) (by omega)
        have l2b := S1.out.ld R (by omega) Try.prog (a) (by omega)
        rw [← hx2] at l2a
        rw [← hy2] at l2b
        have hc2 := S1.out.cmp HC.out (by omega) x2 y2
        have hv2 : ¬ cf x2 y2 < 0 := by rw [hx2, hy2]; exact hv
        have hd2 : decide (cf x2 y2 < 0) = false := decide_eq_false hv2
        clear hx2 hy2
        go_wp2_with fail
        go_quiet_grown (first | (go_at_fn g; refine Calls.grown_of (hc2 _ _)))
        have S2 : Aside (SWK enc k w0 blk off d (grow (wr.drewN nq) osq)) := S1.out.grown nq osq
        clear l2a l2b hc2 S1
        generalize grow (wr.drewN nq) osq = w2 at S2 ⊢
        clear nq osq
        go_wp2
        go_roundg (H - i)
        case measure => omega
        case rel => exact ⟨i, H, rfl, rfl, hmi, by omega, by omega, Nat.le_refl _, S2, LO, HI2⟩
    · obtain rfl : i = j := by omega
      obtain ⟨I, hI⟩ : ∃ I, i - 1 = I := ⟨_, rfl⟩
      have eI : IntKind.i64.wrap ((i : Int) - 1) = (I : Int) := by rw [IntKind.wrap_i64]; omega
      go_wp2_with fail
      go_loopg [13] b (fun kx s13 wr => ∃ (q : Nat) (dk : Array α), s13 = .int .i64 q ∧ a ≤ q ∧ q ≤ I ∧ I - q ≤ kx ∧ Aside (Rot a (a + 1) (q + 1) d dk) ∧ Aside (SWK enc k w0 blk off dk wr))
      case atStart => exact ⟨a, d, rfl, Nat.le_refl _, by omega, by omega, (show Rot a (a + 1) (a + 1) d d from Rot.none d (.inr rfl)), S1⟩
      case round =>
        clear S1
        obtain ⟨q, dk, rfl, haq, hqi, hkx2, RO, S1⟩ := hrel
        have hds : dk.size = d.size := RO.out.size
        by_cases hlt2 : q < I
        · have hltz2 : (q : Int) < (I : Int) := by omega
          obtain ⟨Q1, hQ1⟩ : ∃ Q1, q + 1 = Q1 := ⟨_, rfl⟩
          have e1 : IntKind.i64.wrap ((q : Int) + 1) = (Q1 : Int) := by rw [IntKind.wrap_i64]; omega
          have RO2 : Aside (Rot a (a + 1) (q + 2) d (swp dk q Q1)) := (show Rot a (a + 1) (q + 2) d (swp dk q Q1) from hQ1 ▸ Rot.up haq RO.out (by omega))
          have ea3 : ((q : Int)).toNat = q := by omega
          have pa3 : (0 : Int) ≤ (q : Int) := by omega
          have ba3 : (q : Int) < (d.size : Int) := by omega
          have ra3 : IntKind.i64.wrap ((q : Int)) = (q : Int) := by rw [IntKind.wrap_i64]; omega
          have ec3 : ((Q1 : Int)).toNat = Q1 := by omega
          have pc3 : (0 : Int) ≤ (Q1 : Int) := by omega
          have bc3 : (Q1 : Int) < (d.size : Int) := by omega
          have rc3 : IntKind.i64.wrap ((Q1 : Int)) = (Q1 : Int) := by rw [IntKind.wrap_i64]; omega
          have S2 : Aside (SWK enc k w0 blk off (swp dk (q) (Q1)) ((wr.drew.setCells blk (off + (q) * k) (enc dk[Q1]!)).setCells blk (off + (Q1) * k) (enc dk[q]!))) := S1.out.swapped R (q) (Q1) (by omega) (by omega)
          have l3a := S1.out.ld1 R (by omega) Try.prog (q) (by omega)
          have l3b := S1.out.ld1 R (by omega) Try.prog (Q1) (by omega)
          have s3a := S1.out.st1 R (by omega) Try.prog (q) (by omega) dk[Q1]!
          have s3b := S1.out.st2 R (by omega) Try.prog (q) (Q1) (by omega) (by omega) dk[Q1]! dk[q]!
          have n3a : (enc dk[q]!).length = k := R.hk _
          have n3b : (enc dk[Q1]!).length = k := R.hk _
          generalize enc dk[q]! = cI3 at S2 l3a s3b n3a
          generalize enc dk[Q1]! = cJ3 at S2 l3b s3a s3b n3b
          clear S1
          go_wp2_with fail
          go_big_region_o
          clear l3a l3b s3a s3b
          generalize (wr.drew.setCells blk (off + (q) * k) cJ3).setCells blk (off + (Q1) * k) cI3 = w2 at S2 ⊢
          go_wp2
          go_roundg (I - Q1)
          case measure => omega
          case rel => exact ⟨Q1, _, by go_num, by omega, by omega, Nat.le_refl _, (show Rot a (a + 1) (Q1 + 1) d _ from by rw [show Q1 + 1 = q + 2 by omega]; exact RO2), S2⟩
        · obtain rfl : q = I := by omega
          go_wp2_with fail
          ((try simp only [Exit.inBlock, Exit.then]); refine bodyPost_ret (results_none rfl _ _ _) rfl ?_)
          have hr : Rot a (a + 1) i d dk := by rw [show i = q + 1 by omega]; exact RO.out
          exact ⟨rfl, dk, permIn_mono _ _ a i a b (Nat.le_refl _) hjb hb hr.perm, sorted_up HS.out HR.out (by omega) hjb LO.out HI.out hr, S1.out⟩

set_option maxHeartbeats 4000000 in
set_option maxRecDepth 1000000 in
theorem symDown_any (k : Nat) (aE : ∀ w, (isAgg 57).run Try.prog w = .ok true w) (zE : ∀ w, (Go.sizeOf 57).run Try.prog w = .ok k w) (enc : α → List Value) (cf : α → α → Int) (lt' : α → α → Bool) (hS : SWO lt') (g : Nat) (cb : Array Value) (blk off cap : Nat) (d0 : Array α) (w0 : World)
    (eg : ∀ args w, (callFunc g args).run Try.prog w = .ok (.enter g args) w) (hcmp : CmpLays Try.prog g cb enc k cf blk off d0.size w0) (R : RowK enc k w0 blk off d0)
    (a m : Nat) (d : Array α) (w : World) (N : Nat) (hN : d.size = N) (hs : d0.size = d.size) (S : SWK enc k w0 blk off d w) (ham : a + 1 < m) (hb : m + 1 ≤ d.size) (hsz : d.size < 4611686018427387904) (hL : SortedIn lt' a m d) (hA : Agree cf lt' a m (m + 1) d) :
    Calls Try.prog 61 #[.slice (some ⟨blk, off, none⟩) N cap, .int .i64 a, .int .i64 m, .int .i64 ((m + 1 : Nat) : Int), .func (.func g) #[] cb] w fun e w' => e = .returned (.tuple #[]) ∧ Merged enc k w0 blk off lt' a (m + 1) d w' := by
  subst hN
  have mixed : Try.prog.follows .mixedOrders = true := by kernel_rfl
  have S0 : Aside (SWK enc k w0 blk off d w) := S
  have HC : Aside _ := hcmp
  have HA : Aside _ := hA
  have HL : Aside _ := hL
  have HS : Aside _ := hS
  clear S hcmp hA hL hS
  obtain ⟨B, hB⟩ : ∃ B, m + 1 = B := ⟨_, rfl⟩
  rw [hB]
  obtain ⟨D, hD⟩ : ∃ D, m - a = D := ⟨_, rfl⟩
  have e0 : IntKind.i64.wrap ((m : Int) - (a : Int)) = (D : Int) := by rw [IntKind.wrap_i64]; omega
  have t0 : ((D : Int) == 1) = false := by simpa using (show ¬ (D : Int) = 1 by omega)
  have t0' : decide ((D : Int) = 1) = false := decide_eq_false (by omega)
  have e00 : IntKind.i64.wrap ((B : Int) - (m : Int)) = 1 := by rw [IntKind.wrap_i64]; omega
  go_enter Try.func61, Try.ntmps61
  go_wp2_with fail
  go_loopg [14, 15] B (fun kx s14 s15 wr => ∃ i j : Nat, s14 = .int .i64 i ∧ s15 = .int .i64 j ∧ a ≤ i ∧ i ≤ j ∧ j ≤ m ∧ j - i ≤ kx ∧ Aside (SWK enc k w0 blk off d wr) ∧ Aside (∀ x, a ≤ x → x < i → lt' d[m]! d[x]! = false) ∧ Aside (∀ x, j ≤ x → x < m → lt' d[m]! d[x]! = true))
  case atStart => exact ⟨a, m, rfl, rfl, Nat.le_refl _, by omega, Nat.le_refl _, by omega, S0, (show ∀ x, a ≤ x → x < a → lt' d[m]! d[x]! = false from fun x h1 h2 => by omega), (show ∀ x, m ≤ x → x < m → lt' d[m]! d[x]! = true from fun x h1 h2 => by omega)⟩
  case round =>
    clear S0 e0 e00 t0 t0'
    obtain ⟨i, j, rfl, rfl, hmi, hij, hjb, hkx, S1, LO, HI⟩ := hrel
    by_cases hlt : i < j
    · have hltz : (i : Int) < (j : Int) := by omega
      obtain ⟨H, hH⟩ : ∃ H, (i + j) / 2 = H := ⟨_, rfl⟩
      have eH : ((i : Int) + (j : Int)) / 2 = (H : Int) := by omega
      have hH1 : i ≤ H := by omega
      have hH2 : H < j := by omega
      clear hH
      go_wp2_with fail
      by_cases hv : cf d[m]! d[H]! < 0
      · have HI2 : Aside (∀ x, H ≤ x → x < m → lt' d[m]! d[x]! = true) := (show ∀ x, H ≤ x → x < m → lt' d[m]! d[x]! = true from fun x h1 h2 => by
          have h := Agree.yes HA.out (i := H) (j := m) (by omega) (by omega) (Nat.le_refl _) (by omega) hv
          by_cases hx : x = H
          · rw [hx]; exact h
          · exact lt_behind HS.out h (HL.out H x (by omega) (by omega) h2))
        have ea1 : ((m : Int)).toNat = m := by omega
        have pa1 : (0 : Int) ≤ (m : Int) := by omega
        have ba1 : (m : Int) < (d.size : Int) := by omega
        have ra1 : IntKind.i64.wrap ((m : Int)) = (m : Int) := by rw [IntKind.wrap_i64]; omega
        have ec1 : ((H : Int)).toNat = H := by omega
        have pc1 : (0 : Int) ≤ (H : Int) := by omega
        have bc1 : (H : Int) < (d.size : Int) := by omega
        have rc1 : IntKind.i64.wrap ((H : Int)) = (H : Int) := by rw [IntKind.wrap_i64]; omega
        obtain ⟨x1, hx1⟩ : ∃ x, x = d[m]! := ⟨_, rfl⟩
        obtain ⟨y1, hy1⟩ : ∃ x, x = d[H]! := ⟨_, rfl⟩
        have l1a := S1.out.ld R (by omega) Try.prog (m) (by omega)
        have l1b := S1.out.ld R (by omega) Try.prog (H) (by omega)
        rw [← hx1] at l1a
        rw [← hy1] at l1b
        have hc1 := S1.out.cmp HC.out (by omega) x1 y1
        have hv1 : cf x1 y1 < 0 := by rw [hx1, hy1]; exact hv
        have hd1 : decide (cf x1 y1 < 0) = true := decide_eq_true hv1
        clear hx1 hy1
        go_wp2_with fail
        go_quiet_grown (first | (go_at_fn g; refine Calls.grown_of (hc1 _ _)))
        have S2 : Aside (SWK enc k w0 blk off d (grow (wr.drewN nq) osq)) := S1.out.grown nq osq
        clear l1a l1b hc1 S1
        generalize grow (wr.drewN nq) osq = w2 at S2 ⊢
        clear nq osq
        go_wp2
        go_roundg (H - i)
        case measure => omega
        case rel => exact ⟨i, H, rfl, rfl, hmi, by omega, by omega, Nat.le_refl _, S2, LO, HI2⟩
      · have LO2 : Aside (∀ x, a ≤ x → x < H + 1 → lt' d[m]! d[x]! = false) := (show ∀ x, a ≤ x → x < H + 1 → lt' d[m]! d[x]! = false from fun x h1 h2 => by
          have h := Agree.no HA.out (i := H) (j := m) (by omega) (by omega) (Nat.le_refl _) (by omega) hv
          by_cases hx : x = H
          · rw [hx]; exact h
          · exact HS.out.ntrans _ _ _ h (HL.out x H h1 (by omega) (by omega)))
        have ea2 : ((m : Int)).toNat = m := by omega
        have pa2 : (0 : Int) ≤ (m : Int) := by omega
        have ba2 : (m : Int) < (d.size : Int) := by omega
        have ra2 : IntKind.i64.wrap ((m : Int)) = (m : Int) := by rw [IntKind.wrap_i64]; omega
        have ec2 : ((H : Int)).toNat = H := by omega
        have pc2 : (0 : Int) ≤ (H : Int) := by omega
        have bc2 : (H : Int) < (d.size : Int) := by omega
        have rc2 : IntKind.i64.wrap ((H : Int)) = (H : Int) := by rw [IntKind.wrap_i64]; omega
        obtain ⟨x2, hx2⟩ : ∃ x, x = d[m]! := ⟨_, rfl⟩
        obtain ⟨y2, hy2⟩ : ∃ x, x = d[H]! := ⟨_, rfl⟩
        have l2a := S1.out.ld R (by omega) Try.prog (m) (by omega)
        have l2b := S1.out.ld R (by omega) Try.prog (H) (by omega)
        rw [← hx2] at l2a
        rw [← hy2] at l2b
        have hc2 := S1.out.cmp HC.out (by omega) x2 y2
        have hv2 : ¬ cf x2 y2 < 0 := by rw [hx2, hy2]; exact hv
        have hd2 : decide (cf x2 y2 < 0) = false := decide_eq_false hv2
        clear hx2 hy2
        go_wp2_with fail
        go_quiet_grown (first | (go_at_fn g; refine Calls.grown_of (hc2 _ _)))
        have S2 : Aside (SWK enc k w0 blk off d (grow (wr.drewN nq) osq)) := S1.out.grown nq osq
        clear l2a l2b hc2 S1
        generalize grow (wr.drewN nq) osq = w2 at S2 ⊢
        clear nq osq
        go_wp2
        go_roundg (j - (H + 1))
        case measure => omega
        case rel => exact ⟨H + 1, j, by go_num, rfl, by omega, by omega, hjb, Nat.le_refl _, S2, LO2, HI⟩
    · obtain rfl : i = j := by omega
      go_wp2_with fail
      go_loopg [17] B (fun kx s17 wr => ∃ (q : Nat) (dk : Array α), s17 = .int .i64 q ∧ i ≤ q ∧ q ≤ m ∧ q - i ≤ kx ∧ Aside (Rot q m (m + 1) d dk) ∧ Aside (SWK enc k w0 blk off dk wr))
      case atStart => exact ⟨m, d, rfl, by omega, Nat.le_refl _, by omega, (show Rot m m (m + 1) d d from Rot.none d (.inl rfl)), S1⟩
      case round =>
        clear S1
        obtain ⟨q, dk, rfl, haq, hqi, hkx2, RO, S1⟩ := hrel
        have hds : dk.size = d.size := RO.out.size
        by_cases hlt2 : i < q
        · have hltz2 : (i : Int) < (q : Int) := by omega
          obtain ⟨Q1, hQ1⟩ : ∃ Q1, q - 1 = Q1 := ⟨_, rfl⟩
          have e1 : IntKind.i64.wrap ((q : Int) - 1) = (Q1 : Int) := by rw [IntKind.wrap_i64]; omega
          have RO2 : Aside (Rot Q1 m (m + 1) d (swp dk q Q1)) := (show Rot Q1 m (m + 1) d (swp dk q Q1) from by
            have hq : q = Q1 + 1 := by omega
            have h := RO.out
            rw [hq] at h ⊢
            exact Rot.down (by omega) h (by omega))
          have ea3 : ((q : Int)).toNat = q := by omega
          have pa3 : (0 : Int) ≤ (q : Int) := by omega
          have ba3 : (q : Int) < (d.size : Int) := by omega
          have ra3 : IntKind.i64.wrap ((q : Int)) = (q : Int) := by rw [IntKind.wrap_i64]; omega
          have ec3 : ((Q1 : Int)).toNat = Q1 := by omega
          have pc3 : (0 : Int) ≤ (Q1 : Int) := by omega
          have bc3 : (Q1 : Int) < (d.size : Int) := by omega
          have rc3 : IntKind.i64.wrap ((Q1 : Int)) = (Q1 : Int) := by rw [IntKind.wrap_i64]; omega
          have S2 : Aside (SWK enc k w0 blk off (swp dk (q) (Q1)) ((wr.drew.setCells blk (off + (q) * k) (enc dk[Q1]!)).setCells blk (off + (Q1) * k) (enc dk[q]!))) := S1.out.swapped R (q) (Q1) (by omega) (by omega)
          have l3a := S1.out.ld1 R (by omega) Try.prog (q) (by omega)
          have l3b := S1.out.ld1 R (by omega) Try.prog (Q1) (by omega)
          have s3a := S1.out.st1 R (by omega) Try.prog (q) (by omega) dk[Q1]!
          have s3b := S1.out.st2 R (by omega) Try.prog (q) (Q1) (by omega) (by omega) dk[Q1]! dk[q]!
          have n3a : (enc dk[q]!).length = k := R.hk _
          have n3b : (enc dk[Q1]!).length = k := R.hk _
          generalize enc dk[q]! = cI3 at S2 l3a s3b n3a
          generalize enc dk[Q1]! = cJ3 at S2 l3b s3a s3b n3b
          clear S1
          go_wp2_with fail
          go_big_region_o
          clear l3a l3b s3a s3b
          generalize (wr.drew.setCells blk (off + (q) * k) cJ3).setCells blk (off + (Q1) * k) cI3 = w2 at S2 ⊢
          go_wp2
          go_roundg (Q1 - i)
          case measure => omega
          case rel => exact ⟨Q1, _, by go_num, by omega, by omega, Nat.le_refl _, RO2, S2⟩
        · obtain rfl : q = i := by omega
          have hltz2 : ¬ (q : Int) < (q : Int) := by omega
          go_wp2_with fail
          ((try simp only [Exit.inBlock, Exit.then]); refine bodyPost_ret (results_none rfl _ _ _) rfl ?_)
          exact ⟨rfl, dk, permIn_mono _ _ q (m + 1) a (m + 1) hmi (Nat.le_refl _) (by omega) RO.out.perm |> fun h => hB ▸ h, hB ▸ sorted_down HS.out HL.out hmi hqi LO.out HI.out RO.out, S1.out⟩
end Go.Proofs.Ytljbebeaahcjaaa
