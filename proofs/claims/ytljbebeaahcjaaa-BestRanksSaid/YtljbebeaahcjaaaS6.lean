/- slices' stable sort at structs: stableCmpFunc, SortStableFunc. -/
import Derived.Test.YtljbebeaahcjaaaS4
import Derived.Test.YtljbebeaahcjaaaS5
import Derived.Test.YtljbebeaahcjaaaShelf
import Derived.Shelf.SlSortCmp.PdqK
import Derived.Deep.CutRange
namespace Go.Proofs.Ytljbebeaahcjaaa
open Go.Shelf Go.RowKit Go.Lib Go.Sort
set_option linter.unusedVariables false
set_option linter.unusedSimpArgs false
variable {α : Type} [Inhabited α]

/-- The row stably sorted. -/
def Stably (enc : α → List Value) (k : Nat) (w0 : World) (blk off : Nat) (lt : α → α → Bool) (τ : α → Nat) (d : Array α) (w' : World) : Prop := ∃ d', PermIn 0 d.size d d' ∧ SortedIn (ltT lt τ) 0 d.size d' ∧ SWK enc k w0 blk off d' w'
theorem half_agree {cf : α → α → Int} {τ : α → Nat} {NS F C a m b : Nat} {d : Array α} (h : Half (ltOf cf) τ NS F C a d) (h1 : ∃ t, m = t * F) (ha : a ≤ m) (hb : b ≤ NS) : Agree cf (ltT (ltOf cf) τ) a m b d := fun i j hi him hj hjb => by
  obtain ⟨t, rfl⟩ := h1
  exact (ltT_late (h.fine t i j ha him hj (by omega))).symm
theorem half_part {cf : α → α → Int} {τ : α → Nat} {NS F C a m b : Nat} {d : Array α} (h : Half (ltOf cf) τ NS F C a d) (h1 : ∃ t, m = t * F) (ha : a ≤ m) (hmb : b ≤ m + F) (hb : b ≤ NS) : SortedIn (ltT (ltOf cf) τ) m b d := fun i j hi hij hj => by
  obtain ⟨t, rfl⟩ := h1
  exact h.hi t i j ha hi hij (by omega) (by omega)
theorem half_next {cf : α → α → Int} {τ : α → Nat} {NS F C a b s : Nat} {d d' : Array α} (hA : a = s * C) (hB : b = a + C) (hC : 0 < C) (h : Half (ltOf cf) τ NS F C a d) (hd : d.size = NS) (hb : b ≤ NS) (hp : PermIn a b d d') (hs : SortedIn (ltT (ltOf cf) τ) a b d') : Half (ltOf cf) τ NS F C b d' ∧ b = (s + 1) * C := by
  subst hA
  subst hB
  have e : (s + 1) * C = s * C + C := by rw [Nat.add_mul]; omega
  rw [← e]
  exact ⟨Half.step hC h hd (by omega) hp hs, rfl⟩
theorem half_end {cf : α → α → Int} {τ : α → Nat} {NS F C a s : Nat} {d d' : Array α} (hA : a = s * C) (hC : 0 < C) (h : Half (ltOf cf) τ NS F C a d) (hd : d.size = NS) (ha : a ≤ NS) (hN : NS ≤ a + C) (hp : PermIn a NS d d') (hs : SortedIn (ltT (ltOf cf) τ) a NS d') : Done (ltOf cf) τ NS C d' := by
  subst hA
  exact Half.last hC h hd ha hN hp hs
set_option maxHeartbeats 8000000 in
set_option maxRecDepth 1000000 in
theorem stable_any (k : Nat) (aE : ∀ w, (isAgg 57).run Try.prog w = .ok true w) (zE : ∀ w, (Go.sizeOf 57).run Try.prog w = .ok k w) (enc : α → List Value) (cf : α → α → Int) (hO : SWO (ltOf cf)) (τ : α → Nat) (g : Nat) (cb : Array Value) (blk off cap : Nat) (d0 : Array α) (w0 : World)
    (eg : ∀ args w, (callFunc g args).run Try.prog w = .ok (.enter g args) w) (hcmp : CmpLays Try.prog g cb enc k cf blk off d0.size w0) (R : RowK enc k w0 blk off d0)
    (d : Array α) (w : World) (N : Nat) (hN : d.size = N) (hs : d0.size = d.size) (S : SWK enc k w0 blk off d w) (hsz : d.size < 1152921504606846976) (ht : ∀ p q, p < q → q < d.size → τ d[p]! < τ d[q]!) :
    Calls Try.prog 41 #[.slice (some ⟨blk, off, none⟩) N cap, .int .i64 N, .func (.func g) #[] cb] w fun e w' => e = .returned (.tuple #[]) ∧ Stably enc k w0 blk off (ltOf cf) τ d w' := by
  have HINS := Lib.hid (fun (a b : Nat) (dk : Array α) (W : World) (hdk : dk.size = d.size) (S : SWK enc k w0 blk off dk W) (hab : a ≤ b) (hb : b ≤ d.size) => show Calls Try.prog 49 #[.slice (some ⟨blk, off, none⟩) N cap, .int .i64 a, .int .i64 b, .func (.func g) #[] cb] W fun e w' => e = .returned (.tuple #[]) ∧ SWK enc k w0 blk off (insertionSort (ltOf cf) dk a b) w' from by
    have h := AnyQ.insertionSortCmpFunc_w (P := Try.prog) (ρ := Try.sortK_ren) { Try.sortK with } k aE zE enc cf g cb blk off cap a b d0 dk w0 W eg hcmp R (by omega) S hO hab (by omega) (by omega)
    rw [hdk, hN] at h
    exact h)
  have HSYM := Lib.hid (fun (a m b : Nat) (dk : Array α) (W : World) (hdk : dk.size = d.size) (S : SWK enc k w0 blk off dk W) (ham : a < m) (hmb : m < b) (hb : b ≤ d.size) (hL : SortedIn (ltT (ltOf cf) τ) a m dk) (hR : SortedIn (ltT (ltOf cf) τ) m b dk) (hA : Agree cf (ltT (ltOf cf) τ) a m b dk) =>
    symMerge_any k aE zE enc cf (ltT (ltOf cf) τ) (swo_ltT hO τ) g cb blk off cap d0 w0 eg hcmp R N (by omega) (by omega) (b - a) a m b dk W (Nat.le_refl _) ham hmb (by omega) (by omega) S hL hR hA)
  subst hN
  have HO := Lib.hid hO
  have S0 : Aside (SWK enc k w0 blk off d w) := S
  have HT := Lib.hid (Done.one (lt := ltOf cf) ht)
  obtain ⟨N, hN⟩ : ∃ N, d.size = N := ⟨_, rfl⟩
  have HN := Lib.hid hN
  rw [hN] at hsz HINS HSYM HT ⊢
  have HSZ := Lib.hid hsz
  clear S aE zE hcmp eg ht hO hs hN R hsz
  go_enter Try.func41, Try.ntmps41
  go_wp2_with fail
  go_loopg [7, 8] N (fun kx s7 s8 wr => ∃ (a b s : Nat) (dk : Array α), s7 = .int .i64 a ∧ s8 = .int .i64 b ∧ Aside (b = a + 20) ∧ a ≤ N ∧ N - a ≤ kx ∧ Aside (a = s * 20) ∧ Aside (PermIn 0 N d dk) ∧ Aside (Half (ltOf cf) τ N 1 20 a dk) ∧ Aside (SWK enc k w0 blk off dk wr))
  case atStart => exact ⟨0, 20, 0, d, rfl, rfl, (show 20 = 0 + 20 from rfl), Nat.zero_le _, by omega, (show 0 = 0 * 20 from rfl), permIn_refl _ _ _, (HT.out.half (c := 20) (by omega) (by omega) : Half (ltOf cf) τ N 1 20 0 d), S0⟩
  case round =>
    clear S0
    obtain ⟨a, b, s, dk, rfl, rfl, HBB, haN, hkx, HA, HP, HH, S1⟩ := hrel
    have hb := HBB.out
    have hdk : dk.size = N := by rw [HP.out.1, HN.out]
    by_cases hlt : b ≤ N
    · have hltz : (b : Int) ≤ (N : Int) := by omega
      obtain ⟨B2, hB2⟩ : ∃ B, b + 20 = B := ⟨_, rfl⟩
      have e1 : IntKind.i64.wrap ((b : Int) + 20) = (B2 : Int) := by have := HSZ.out; rw [IntKind.wrap_i64]; omega
      have HC := Lib.hid (HINS.out a b dk wr hdk S1.out (by omega) hlt)
      have HI := Lib.hid (insertion_tag (τ := τ) HO.out (d := dk) (a := a) (b := b) (by omega) (by omega) fun p q h1 h2 h3 => HH.out.fine q p q (by omega) (by omega) (by omega) (by omega))
      clear hb
      go_wp2_with (go_at_call 49; refine HC.out.mono ?_; rintro e w' ⟨rfl, hS⟩)
      go_roundg (N - b)
      case measure => have := HBB.out; omega
      case rel =>
        obtain ⟨h1, h2⟩ := half_next HA.out HBB.out (by omega) HH.out hdk hlt HI.out.1 HI.out.2
        exact ⟨b, B2, s + 1, _, rfl, by go_num, (show B2 = b + 20 by omega), hlt, Nat.le_refl _, h2, permIn_trans _ _ _ _ _ HP.out (permIn_mono _ _ a b 0 N (Nat.zero_le _) hlt (by omega) HI.out.1), h1, hS⟩
    · have hltz : ¬ (b : Int) ≤ (N : Int) := by omega
      have HC := Lib.hid (HINS.out a N dk wr hdk S1.out haN (Nat.le_refl _))
      have HI := Lib.hid (insertion_tag (τ := τ) HO.out (d := dk) (a := a) (b := N) haN (by omega) fun p q h1 h2 h3 => HH.out.fine q p q (by omega) (by omega) (by omega) (by omega))
      clear hb
      go_wp2_with (go_at_call 49; refine HC.out.mono ?_; rintro e w1 ⟨rfl, hS⟩)
      have S2 : Aside (SWK enc k w0 blk off (insertionSort (ltOf cf) dk a N) w1) := hS
      have HP2 : Aside (PermIn 0 N d (insertionSort (ltOf cf) dk a N)) := permIn_trans _ _ _ _ _ HP.out (permIn_mono _ _ a N 0 N (Nat.zero_le _) (Nat.le_refl _) (by omega) HI.out.1)
      have HD2 : Aside (Done (ltOf cf) τ N 20 (insertionSort (ltOf cf) dk a N)) := half_end HA.out (by omega) HH.out hdk haN (by have := HBB.out; omega) HI.out.1 HI.out.2
      generalize insertionSort (ltOf cf) dk a N = d1 at S2 HP2 HD2
      clear hS HI HH HA HP S1 HC hdk HBB haN hkx hlt hltz
      go_loopg [6] N (fun kx s6 wr => ∃ (B : Nat) (dk : Array α), s6 = .int .i64 B ∧ 20 ≤ B ∧ Aside (B < 2305843009213693952) ∧ N - B ≤ kx ∧ Aside (PermIn 0 N d dk) ∧ Aside (Done (ltOf cf) τ N B dk) ∧ Aside (SWK enc k w0 blk off dk wr))
      case atStart => exact ⟨20, d1, rfl, Nat.le_refl _, (show 20 < 2305843009213693952 by omega), by omega, HP2, HD2, S2⟩
      case round =>
        clear S2 HP2 HD2
        obtain ⟨B, dk, rfl, hB, hBs, hkO, HP, HD, S1⟩ := hrel
        by_cases hlt : B < N
        · have hltz : (B : Int) < (N : Int) := by omega
          obtain ⟨C, hC⟩ : ∃ C, 2 * B = C := ⟨_, rfl⟩
          have e1 : IntKind.i64.wrap (2 * (B : Int)) = (C : Int) := by have := HSZ.out; rw [IntKind.wrap_i64]; omega
          have e2 : IntKind.i64.wrap ((B : Int) * 2) = (C : Int) := by have := HSZ.out; rw [IntKind.wrap_i64]; omega
          have HH0 : Aside (Half (ltOf cf) τ N B C 0 dk) := (HD.out.half (c := 2) hC.symm (by omega) : Half (ltOf cf) τ N B C 0 dk)
          go_wp2_with fail
          go_loopg [7, 8] N (fun kx s7 s8 wr => ∃ (a b s : Nat) (dk : Array α), s7 = .int .i64 a ∧ s8 = .int .i64 b ∧ Aside (b = a + C) ∧ a ≤ N ∧ N - a ≤ kx ∧ Aside (a = s * C) ∧ Aside (PermIn 0 N d dk) ∧ Aside (Half (ltOf cf) τ N B C a dk) ∧ Aside (SWK enc k w0 blk off dk wr))
          case atStart => exact ⟨0, C, 0, dk, rfl, rfl, (show C = 0 + C by omega), Nat.zero_le _, by omega, (show 0 = 0 * C by omega), HP, HH0, S1⟩
          case round =>
            clear S1 HP HD HH0
            obtain ⟨a, b, s, dk, rfl, rfl, HBB, haN, hkx, HA, HP, HH, S1⟩ := hrel
            have hb := HBB.out
            have hdk : dk.size = N := by rw [HP.out.1, HN.out]
            have HM : Aside (∃ t, a + B = t * B) := (show ∃ t, a + B = t * B from ⟨s * 2 + 1, by rw [HA.out, ← hC, Nat.add_mul, Nat.mul_assoc]; omega⟩)
            have HA2 : Aside (∃ t, a = t * B) := (show ∃ t, a = t * B from ⟨s * 2, by rw [HA.out, ← hC, Nat.mul_assoc]⟩)
            obtain ⟨M, hM⟩ : ∃ M, a + B = M := ⟨_, rfl⟩
            have e3 : IntKind.i64.wrap ((a : Int) + (B : Int)) = (M : Int) := by have := HSZ.out; rw [IntKind.wrap_i64]; omega
            by_cases hlt : b ≤ N
            · have hltz : (b : Int) ≤ (N : Int) := by omega
              obtain ⟨B2, hB2⟩ : ∃ B, b + C = B := ⟨_, rfl⟩
              have e4 : IntKind.i64.wrap ((b : Int) + (C : Int)) = (B2 : Int) := by have := HSZ.out; rw [IntKind.wrap_i64]; omega
              have HC := Lib.hid (HSYM.out a M b dk wr hdk S1.out (by omega) (by omega) hlt (half_part HH.out HA2.out (Nat.le_refl _) (by omega) (by omega)) (half_part HH.out (hM ▸ HM.out) (by omega) (by omega) hlt) (half_agree HH.out (hM ▸ HM.out) (by omega) hlt))
              clear hb
              go_wp2_with (go_at_call 61; refine HC.out.mono ?_; rintro e w' ⟨rfl, d2, hp2, hs2, hS⟩)
              go_roundg (N - b)
              case measure => have := HBB.out; omega
              case rel =>
                obtain ⟨h1, h2⟩ := half_next HA.out HBB.out (by omega) HH.out hdk hlt hp2 hs2
                exact ⟨b, B2, s + 1, d2, rfl, by go_num, (show B2 = b + C by omega), hlt, Nat.le_refl _, h2, permIn_trans _ _ _ _ _ HP.out (permIn_mono _ _ a b 0 N (Nat.zero_le _) hlt (by omega) hp2), h1, hS⟩
            · have hltz : ¬ (b : Int) ≤ (N : Int) := by omega
              have HW : Aside (N ≤ a + C) := (show N ≤ a + C by omega)
              by_cases hmn : M < N
              · have hmnz : (M : Int) < (N : Int) := by omega
                have HC := Lib.hid (HSYM.out a M N dk wr hdk S1.out (by omega) hmn (Nat.le_refl _) (half_part HH.out HA2.out (Nat.le_refl _) (by omega) (by omega)) (half_part HH.out (hM ▸ HM.out) (by omega) (by omega) (Nat.le_refl _)) (half_agree HH.out (hM ▸ HM.out) (by omega) (Nat.le_refl _)))
                clear hb
                go_wp2_with (go_at_call 61; refine HC.out.mono ?_; rintro e w' ⟨rfl, d2, hp2, hs2, hS⟩)
                go_roundg (N - C)
                case measure => omega
                case rel => exact ⟨C, d2, by go_num, by omega, (show C < 2305843009213693952 by have := HSZ.out; omega), Nat.le_refl _, permIn_trans _ _ _ _ _ HP.out (permIn_mono _ _ a N 0 N (Nat.zero_le _) (Nat.le_refl _) (by omega) hp2), half_end HA.out (by omega) HH.out hdk haN HW.out hp2 hs2, hS⟩
              · have hmnz : ¬ (M : Int) < (N : Int) := by omega
                clear hb
                go_wp2_with fail
                go_roundg (N - C)
                case measure => omega
                case rel => exact ⟨C, dk, by go_num, by omega, (show C < 2305843009213693952 by have := HSZ.out; omega), Nat.le_refl _, HP, half_end HA.out (by omega) HH.out hdk haN HW.out (permIn_refl _ _ _) (half_part HH.out HA2.out (Nat.le_refl _) (by omega) (Nat.le_refl _)), S1⟩
        · have hltz : ¬ (B : Int) < (N : Int) := by omega
          go_wp2_with fail
          go_end0
          exact ⟨rfl, dk, HN.out.symm ▸ HP.out, HN.out.symm ▸ HD.out.all (by omega), S1.out⟩
theorem sortStable_any (k : Nat) (aE : ∀ w, (isAgg 57).run Try.prog w = .ok true w) (zE : ∀ w, (Go.sizeOf 57).run Try.prog w = .ok k w) (enc : α → List Value) (cf : α → α → Int) (hO : SWO (ltOf cf)) (τ : α → Nat) (g : Nat) (cb : Array Value) (blk off cap : Nat) (d0 : Array α) (w0 : World)
    (eg : ∀ args w, (callFunc g args).run Try.prog w = .ok (.enter g args) w) (hcmp : CmpLays Try.prog g cb enc k cf blk off d0.size w0) (R : RowK enc k w0 blk off d0)
    (w : World) (N : Nat) (hN : d0.size = N) (S : SWK enc k w0 blk off d0 w) (hsz : d0.size < 1152921504606846976) (ht : ∀ p q, p < q → q < d0.size → τ d0[p]! < τ d0[q]!) :
    Calls Try.prog 23 #[.slice (some ⟨blk, off, none⟩) N cap, .func (.func g) #[] cb] w fun e w' => e = .returned (.tuple #[]) ∧ Stably enc k w0 blk off (ltOf cf) τ d0 w' := by
  have HC := Lib.hid (stable_any k aE zE enc cf hO τ g cb blk off cap d0 w0 eg hcmp R d0 w N hN rfl S hsz ht)
  clear S aE zE hcmp eg ht hO hN R
  go_enter Try.func23, Try.ntmps23
  go_wp2_with (go_at_call 41; refine HC.out.mono ?_; rintro e w' ⟨rfl, hS⟩)
  go_end0
  exact ⟨rfl, hS⟩
end Go.Proofs.Ytljbebeaahcjaaa
