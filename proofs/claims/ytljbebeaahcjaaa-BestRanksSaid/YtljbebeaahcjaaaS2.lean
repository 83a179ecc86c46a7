/- slices' stable sort at structs: swapRange, rotate, symMerge, stable, SortStableFunc. -/
import Derived.Test.YtljbebeaahcjaaaS1
import Derived.Test.YtljbebeaahcjaaaProg
import Derived.Shelf.SlSortCmp.KitK
import Derived.Sort.WalkB2
import Derived.Sort.WalkB12
import Derived.Deep.LoopGhost
import Derived.Lib.Hide
namespace Go.Proofs.Ytljbebeaahcjaaa
open Go.Shelf Go.RowKit Go.Lib Go.Sort
set_option linter.unusedVariables false
set_option linter.unusedSimpArgs false
variable {α : Type} [Inhabited α]

set_option maxHeartbeats 4000000 in
set_option maxRecDepth 1000000 in
theorem swapRange_any (k : Nat) (aE : ∀ w, (isAgg 57).run Try.prog w = .ok true w) (zE : ∀ w, (Go.sizeOf 57).run Try.prog w = .ok k w) (enc : α → List Value) (g : Nat) (cb : Array Value) (blk off cap a b n : Nat) (d0 d : Array α) (w0 w : World)
    (N : Nat) (hN : d.size = N) (R : RowK enc k w0 blk off d0) (hs : d0.size = d.size) (S : SWK enc k w0 blk off d w) (hab : a + n ≤ b) (hb : b + n ≤ d.size) (hsz : d.size < 4611686018427387904) :
    Calls Try.prog 72 #[.slice (some ⟨blk, off, none⟩) N cap, .int .i64 a, .int .i64 b, .int .i64 n, .func (.func g) #[] cb] w fun e w' => e = .returned (.tuple #[]) ∧ SWK enc k w0 blk off (swr a b n d) w' := by
  subst hN
  have mixed : Try.prog.follows .mixedOrders = true := by kernel_rfl
  have S0 : Aside (SWK enc k w0 blk off d w) := S
  clear S
  go_enter Try.func72, Try.ntmps72
  go_wp2
  go_loopg [10] n (fun kx s10 wr => ∃ i : Nat, s10 = .int .i64 i ∧ i ≤ n ∧ n - i ≤ kx ∧ Aside (SWK enc k w0 blk off (swr a b i d) wr))
  case atStart => exact ⟨0, rfl, by omega, by omega, S0⟩
  case round =>
    clear S0
    obtain ⟨i, rfl, hin, hkx, S1⟩ := hrel
    have hds : (swr a b i d).size = d.size := swr_size a b i d
    by_cases hlt : i < n
    · have hltz : (i : Int) < (n : Int) := by omega
      obtain ⟨dk, hdk⟩ : ∃ dk, swr a b i d = dk := ⟨_, rfl⟩
      rw [hdk] at S1 hds
      have HDK : Aside (swr a b (i + 1) d = swp dk (a + i) (b + i)) := by show _ = _; rw [swr, hdk]
      clear hdk
      obtain ⟨P, hP⟩ : ∃ P, a + i = P := ⟨_, rfl⟩
      obtain ⟨Q, hQ⟩ : ∃ Q, b + i = Q := ⟨_, rfl⟩
      rw [hP, hQ] at HDK
      have e1 : IntKind.i64.wrap ((a : Int) + (i : Int)) = (P : Int) := by rw [IntKind.wrap_i64]; omega
      have e2 : IntKind.i64.wrap ((b : Int) + (i : Int)) = (Q : Int) := by rw [IntKind.wrap_i64]; omega
      have ea1 : ((P : Int)).toNat = P := by omega
      have pa1 : (0 : Int) ≤ (P : Int) := by omega
      have ba1 : (P : Int) < (d.size : Int) := by omega
      have ra1 : IntKind.i64.wrap ((P : Int)) = (P : Int) := by rw [IntKind.wrap_i64]; omega
      have ec1 : ((Q : Int)).toNat = Q := by omega
      have pc1 : (0 : Int) ≤ (Q : Int) := by omega
      have bc1 : (Q : Int) < (d.size : Int) := by omega
      have rc1 : IntKind.i64.wrap ((Q : Int)) = (Q : Int) := by rw [IntKind.wrap_i64]; omega
      have S2 : Aside (SWK enc k w0 blk off (swp dk (P) (Q)) ((wr.drew.setCells blk (off + (P) * k) (enc dk[Q]!)).setCells blk (off + (Q) * k) (enc dk[P]!))) := S1.out.swapped R (P) (Q) (by omega) (by omega)
      have l1a := S1.out.ld1 R (by omega) Try.prog (P) (by omega)
      have l1b := S1.out.ld1 R (by omega) Try.prog (Q) (by omega)
      have s1a := S1.out.st1 R (by omega) Try.prog (P) (by omega) dk[Q]!
      have s1b := S1.out.st2 R (by omega) Try.prog (P) (Q) (by omega) (by omega) dk[Q]! dk[P]!
      have n1a : (enc dk[P]!).length = k := R.hk _
      have n1b : (enc dk[Q]!).length = k := R.hk _
      generalize enc dk[P]! = cI1 at S2 l1a s1b n1a
      generalize enc dk[Q]! = cJ1 at S2 l1b s1a s1b n1b
      clear S1
      go_wp2_with fail
      go_big_region_o
      clear l1a l1b s1a s1b
      generalize (wr.drew.setCells blk (off + (P) * k) cJ1).setCells blk (off + (Q) * k) cI1 = w2 at S2 ⊢
      go_wp2
      go_roundg (n - (i + 1))
      case measure => omega
      case rel => exact ⟨i + 1, by go_num, by omega, Nat.le_refl _, by rw [HDK.out]; exact S2⟩
    · obtain rfl : i = n := by omega
      go_wp2
      go_end0
      exact ⟨rfl, S1.out⟩

set_option maxHeartbeats 4000000 in
set_option maxRecDepth 1000000 in
theorem rotate_any (k : Nat) (aE : ∀ w, (isAgg 57).run Try.prog w = .ok true w) (zE : ∀ w, (Go.sizeOf 57).run Try.prog w = .ok k w) (enc : α → List Value) (g : Nat) (cb : Array Value) (blk off cap a m b : Nat) (d0 d : Array α) (w0 w : World)
    (N : Nat) (hN : d.size = N) (R : RowK enc k w0 blk off d0) (hs : d0.size = d.size) (S : SWK enc k w0 blk off d w) (ham : a < m) (hmb : m < b) (hb : b ≤ d.size) (hsz : d.size < 4611686018427387904) :
    Calls Try.prog 68 #[.slice (some ⟨blk, off, none⟩) N cap, .int .i64 a, .int .i64 m, .int .i64 b, .func (.func g) #[] cb] w fun e w' => e = .returned (.tuple #[]) ∧ ∃ d', Rot a m b d d' ∧ SWK enc k w0 blk off d' w' := by
  subst hN
  have HSW := Lib.hid (fun (a b n : Nat) (dk : Array α) (W : World) (hds : dk.size = d.size) (S : SWK enc k w0 blk off dk W) (hab : a + n ≤ b) (hb : b + n ≤ d.size) => swapRange_any k aE zE enc g cb blk off cap a b n d0 dk w0 W d.size hds R (by omega) S hab (by omega) (by omega))
  have S0 : Aside (SWK enc k w0 blk off d w) := S
  clear S aE zE
  go_enter Try.func68, Try.ntmps68
  have e1 : IntKind.i64.wrap ((m : Int) - (a : Int)) = ((m - a : Nat) : Int) := by rw [IntKind.wrap_i64]; omega
  have e2 : IntKind.i64.wrap ((b : Int) - (m : Int)) = ((b - m : Nat) : Int) := by rw [IntKind.wrap_i64]; omega
  go_wp2_with fail
  go_loopg [10, 11] b (fun kx s10 s11 wr => ∃ (i j : Nat) (dk : Array α), s10 = .int .i64 i ∧ s11 = .int .i64 j ∧ 0 < i ∧ 0 < j ∧ i ≤ m - a ∧ j ≤ b - m ∧ i + j ≤ kx ∧ (∀ x, dk[rotF (m - i) m (m + j) x]! = d[rotF a m b x]!) ∧ PermIn a b d dk ∧ Aside (SWK enc k w0 blk off dk wr))
  case atStart => exact ⟨m - a, b - m, d, by go_num, by go_num, by omega, by omega, Nat.le_refl _, Nat.le_refl _, by omega, fun x => by rw [show m - (m - a) = a by omega, show m + (b - m) = b by omega], permIn_refl _ _ _, S0⟩
  case round =>
    clear S0 e1 e2
    obtain ⟨i, j, dk, rfl, rfl, hi0, hj0, him, hjm, hkx, hg, hp, S1⟩ := hrel
    have HG := Lib.hid hg
    have HP := Lib.hid hp
    have hds : dk.size = d.size := hp.1
    clear hg hp
    obtain ⟨M1, hM1⟩ : ∃ M1, m - i = M1 := ⟨_, rfl⟩
    have e1 : IntKind.i64.wrap ((m : Int) - (i : Int)) = (M1 : Int) := by rw [IntKind.wrap_i64]; omega
    by_cases hij : i = j
    · subst hij
      have HC := Lib.hid (HSW.out M1 m i dk wr hds S1.out (by omega) (by omega))
      go_wp2_with (go_at_call 72; refine HC.out.mono ?_; rintro e w' ⟨rfl, hS⟩)
      go_end0
      refine ⟨rfl, _, ⟨fun x => ?_, permIn_trans _ _ _ _ _ HP.out (swr_perm a b M1 m i dk (by omega) (by omega) (by omega) (by omega) (by omega))⟩, hS⟩
      rw [swr_get M1 m i dk (by omega) (by omega), ← hM1, rotF_eq (by omega), HG.out]
    · have t1 : ((i : Int) == (j : Int)) = false := by simpa using (show ¬ (i : Int) = (j : Int) by omega)
      have t2 : decide ((i : Int) = (j : Int)) = false := decide_eq_false (by omega)
      by_cases hlt : j < i
      · have t3 : decide ((j : Int) < (i : Int)) = true := decide_eq_true (by omega)
        have hltz : (j : Int) < (i : Int) := by omega
        have e3 : IntKind.i64.wrap ((i : Int) - (j : Int)) = ((i - j : Nat) : Int) := by rw [IntKind.wrap_i64]; omega
        have HC := Lib.hid (HSW.out M1 m j dk wr hds S1.out (by omega) (by omega))
        have HNG := Lib.hid (show ∀ x, (swr M1 m j dk)[rotF (m - (i - j)) m (m + j) x]! = d[rotF a m b x]! from fun x => by
          rw [swr_get M1 m j dk (by omega) (by omega), ← hM1, rot_left (by omega) hlt, HG.out])
        have HNP := Lib.hid (permIn_trans _ _ _ a b HP.out (swr_perm a b M1 m j dk (by omega) (by omega) (by omega) (by omega) (by omega)))
        go_wp2_with (go_at_call 72; refine HC.out.mono ?_; rintro e w' ⟨rfl, hS⟩)
        go_roundg (i - j + j)
        case measure => omega
        case rel => exact ⟨i - j, j, _, by go_num, rfl, by omega, hj0, by omega, hjm, Nat.le_refl _, HNG.out, HNP.out, hS⟩
      · have t3 : decide ((j : Int) < (i : Int)) = false := decide_eq_false (by omega)
        have hltz : ¬ (j : Int) < (i : Int) := by omega
        have e3 : IntKind.i64.wrap ((j : Int) - (i : Int)) = ((j - i : Nat) : Int) := by rw [IntKind.wrap_i64]; omega
        obtain ⟨Q, hQ⟩ : ∃ Q, m + j = Q := ⟨_, rfl⟩
        obtain ⟨Q1, hQ1⟩ : ∃ Q1, Q - i = Q1 := ⟨_, rfl⟩
        have e4 : IntKind.i64.wrap ((m : Int) + (j : Int)) = (Q : Int) := by rw [IntKind.wrap_i64]; omega
        have e5 : IntKind.i64.wrap ((Q : Int) - (i : Int)) = (Q1 : Int) := by rw [IntKind.wrap_i64]; omega
        have HC := Lib.hid (HSW.out M1 Q1 i dk wr hds S1.out (by omega) (by omega))
        have HNG := Lib.hid (show ∀ x, (swr M1 Q1 i dk)[rotF (m - i) m (m + (j - i)) x]! = d[rotF a m b x]! from fun x => by
          rw [swr_get M1 Q1 i dk (by omega) (by omega), ← hM1, ← hQ1, ← hQ, rot_right (by omega) (by omega), HG.out])
        have HNP := Lib.hid (permIn_trans _ _ _ a b HP.out (swr_perm a b M1 Q1 i dk (by omega) (by omega) (by omega) (by omega) (by omega)))
        go_wp2_with (go_at_call 72; refine HC.out.mono ?_; rintro e w' ⟨rfl, hS⟩)
        go_roundg (i + (j - i))
        case measure => omega
        case rel => exact ⟨i, j - i, _, rfl, by go_num, hi0, by omega, him, by omega, Nat.le_refl _, HNG.out, HNP.out, hS⟩
end Go.Proofs.Ytljbebeaahcjaaa
