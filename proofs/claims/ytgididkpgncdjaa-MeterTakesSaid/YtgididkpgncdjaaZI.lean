/- meter: Stamp, Demand; nil ones. -/
import Derived.Test.YtgididkpgncdjaaZE
import Derived.Deep.RegionHeldLaw
namespace Go.Proofs.Ytgididkpgncdjaa
open Go.RowKit Go.Maps
set_option linter.unusedVariables false
set_option linter.unusedSimpArgs false
set_option maxRecDepth 100000

def stampV (V : Nat → Mv) (src : Int) : Int × Bool := if isR src then ((V src.toNat).a, (V src.toNat).h) else (0, false)
set_option maxHeartbeats 4000000 in
theorem mstamp_any (w : World) (B m b : Nat) (V : Nat → Mv) (P : Nat → Mp) (H : MtAt w B m b V P) (src : Int) :
    Calls Try.prog 14 #[.pointer (some ⟨m, 0, none⟩), .int .i64 src] w fun e w' => e = .returned (.tuple #[.int .i64 (stampV V src).1, .bool (stampV V src).2]) ∧ Below w.heap.size w w' := by
  have h0 := H.at0
  have HR := Lib.hid (fun u => misSource_any src u)
  obtain ⟨o, ho⟩ : ∃ o, isR src = o := ⟨_, rfl⟩
  unfold stampV
  rw [ho] at HR ⊢
  rcases o with _ | _
  · clear H ho
    go_enter Try.func14, Try.ntmps14
    go_wp2_with (first
      | (go_at_call 31; refine (mclosed_any w m b h0).mono ?_; rintro e w' ⟨rfl, rfl⟩)
      | (go_at_call 29; refine (HR.out _).mono ?_; rintro e w' ⟨rfl, rfl⟩))
    exact bodyPost_ret (v := .tuple #[.int .i64 0, .bool false]) (by simp [results, Try.results14, go_sem]) rfl ⟨rfl, Below.refl _ _⟩
  · have hr : 0 ≤ src ∧ src < 16 := by
      unfold isR at ho
      simpa using ho
    obtain ⟨i, rfl⟩ := Int.eq_ofNat_of_zero_le hr.1
    have hi : i < 16 := by omega
    have i0 : (0 : Int) ≤ (i : Int) := by omega
    have i16 : (i : Int) < 16 := by omega
    obtain ⟨s0, s1, s2, s3, s4⟩ := H.src hi
    simp only [if_true, Int.toNat_natCast]
    obtain ⟨⟨q, a, h, L, R⟩, hv⟩ : ∃ v, V i = v := ⟨_, rfl⟩
    rw [hv] at s1 s2 ⊢
    dsimp only at s1 s2 ⊢
    have hb1 := newB w (.cells #[.int .i64 a, .bool h] 59)
    have hx := Blk.new w 59 [.int .i64 a, .bool h]
    obtain ⟨Q, hQ⟩ : ∃ Q, w.heap.size = Q := ⟨_, rfl⟩
    obtain ⟨W1, hW⟩ : ∃ W, w.alloc (.cells #[.int .i64 a, .bool h] 59) = W := ⟨_, rfl⟩
    rw [hW] at hb1 hx
    rw [hQ] at hx
    have HW := Lib.hid hW
    have HQ := Lib.hid hQ
    have HB := Lib.hid hb1
    have hS : W1.drew.cell? ⟨Q, 0, none⟩ = some (.int .i64 a) ∧ W1.drew.cell? ⟨Q, 1, none⟩ = some (.bool h) := ⟨hx.cell 0 (by simp), hx.cell 1 (by simp)⟩
    change w.cell? ⟨b, i * 5 + 1 + 1, none⟩ = some (.bool h) at s2
    clear H ho hr hv hb1 hx hQ hW
    go_enter Try.func14, Try.ntmps14
    go_wp2_with (first
      | (go_at_call 31; refine (mclosed_any w m b h0).mono ?_; rintro e w' ⟨rfl, rfl⟩)
      | (go_at_call 29; refine (HR.out _).mono ?_; rintro e w' ⟨rfl, rfl⟩))
    rw [HW.out, HQ.out]
    go_region_held_law (fun W => W.cell? ⟨Q, 0, none⟩ = some (.int .i64 a) ∧ W.cell? ⟨Q, 1, none⟩ = some (.bool h)) (with_reducible assumption) (fail)
    all_goals
      clear hS
      go_wp2_with fail
      exact bodyPost_ret (v := .tuple #[.int .i64 a, .bool h]) (by simp [results, Try.results14, go_sem]) rfl ⟨rfl, HB.out.drew⟩
set_option maxHeartbeats 4000000 in
theorem mdemand_any (w : World) (B m b : Nat) (V : Nat → Mv) (P : Nat → Mp) (H : MtAt w B m b V P) (p : Pf) (hp : InPf p) :
    Calls Try.prog 16 #[.pointer (some ⟨m, 0, none⟩), pfV p] w fun e w' => e = .returned (.int .i64 (demV V p)) ∧ Below w.heap.size w w' := by
  have HOK := Lib.hid H.ok
  obtain ⟨pa, pn⟩ := p
  have hb1 := newB w (.cells #[.int .u32 pa, .int .i64 pn] 25)
  have hx := Blk.new w 25 [.int .u32 pa, .int .i64 pn]
  obtain ⟨S, hS⟩ : ∃ Q, w.heap.size = Q := ⟨_, rfl⟩
  obtain ⟨W1, hW⟩ : ∃ W, w.alloc (.cells #[.int .u32 pa, .int .i64 pn] 25) = W := ⟨_, rfl⟩
  rw [hW] at hb1 hx
  rw [hS] at hx
  have HX := Lib.hid hx
  have HB := Lib.hid hb1
  have HW := Lib.hid hW
  have HSE := Lib.hid hS
  have HK := Lib.hid (H.below hb1)
  have h0 := HK.out.at0
  clear H hb1 hx hS hW
  go_enter Try.func16, Try.ntmps16
  go_wp2_with fail
  rw [HW.out, HSE.out]
  refine (mclosed_any W1 m b h0).mono ?_
  rintro e w' ⟨rfl, rfl⟩
  go_wp2_with fail
  clear h0
  go_loopw [5, 16] (fun nv iv wr => ∃ k : Nat, k ≤ 16 ∧ iv = .int .i64 k ∧ nv = .int .i64 (near (demS V ⟨pa, pn⟩ k)) ∧ Below W1.heap.size W1 wr) (fun _ iv _ => 16 - (intOf iv).toNat)
  case atStart => exact ⟨0, Nat.zero_le _, rfl, rfl, Below.refl _ _⟩
  case round =>
    obtain ⟨k, hk, rfl, rfl, hB⟩ := hrel
    have HB2 := Lib.hid hB
    have HK1 := Lib.hid (HK.out.below hB)
    have HX1 := Lib.hid (HX.out.next hB)
    clear hB
    by_cases hlt : k < 16
    · have hlt' : (k : Int) < 16 := by omega
      have k0 : (0 : Int) ≤ (k : Int) := by omega
      have hdn := demS_nn HOK.out ⟨pa, pn⟩ k (by omega)
      have hrn := rate_nn (HOK.out k hlt) ⟨pa, pn⟩
      have HAD := Lib.hid (show add (near (demS V ⟨pa, pn⟩ k)) (rateAt (V k) ⟨pa, pn⟩) = near (demS V ⟨pa, pn⟩ (k + 1)) from add_near hdn hrn)
      obtain ⟨s0, s1, s2, s3, s4⟩ := HK1.out.src hlt
      have hb1 := newB wr (.cells #[.int .i64 (V k).q, .int .i64 (V k).a, .bool (V k).h, .map (P k).1, .map (P k).2] 62)
      have hx2 := Blk.new wr 62 [.int .i64 (V k).q, .int .i64 (V k).a, .bool (V k).h, .map (P k).1, .map (P k).2]
      have hlk : (Instr.lookup 60 (.map (P k).2) (.agg #[.int .u32 pa, .int .i64 pn]) false).run Try.prog (wr.alloc (.cells #[.int .i64 (V k).q, .int .i64 (V k).a, .bool (V k).h, .map (P k).1, .map (P k).2] 62)) = .ok (.int .i64 (rateAt (V k) ⟨pa, pn⟩)) _ := ((HK1.out.rm k hlt).below hb1).look (x := ⟨pa, pn⟩) hp
      obtain ⟨R, hR⟩ : ∃ R, rateAt (V k) ⟨pa, pn⟩ = R := ⟨_, rfl⟩
      rw [hR] at hlk HAD
      obtain ⟨⟨q, a, hh, L, RR⟩, hv⟩ : ∃ v, V k = v := ⟨_, rfl⟩
      obtain ⟨⟨c, r⟩, hpp⟩ : ∃ p, P k = p := ⟨_, rfl⟩
      rw [hv] at s0 s1 s2 hlk hx2 hb1
      rw [hpp] at s3 s4 hlk hx2 hb1
      dsimp only at s0 s1 s2 s3 s4 hlk hx2 hb1
      have hx3 := (ms_boxes hx2).2.2.2.2
      have hx3 : (wr.alloc (.cells #[.int .i64 q, .int .i64 a, .bool hh, .map c, .map r] 62)).cell? ⟨wr.heap.size, 3 + 1, none⟩ = some (.map r) := hx3
      have hx4 := HX1.out.next hb1
      have p0 := hx4.cell 0 (by simp)
      have p1 := hx4.cell 1 (by simp)
      simp only [List.getD_cons_zero, List.getD_cons_succ] at p0 p1
      have HBB := Lib.hid (HB2.out.trans (hb1.mono HB2.out.size))
      clear hR hv hpp hx2 hb1 hx4 hdn hrn
      obtain ⟨D, hD⟩ : ∃ D, near (demS V ⟨pa, pn⟩ k) = D := ⟨_, rfl⟩
      rw [hD] at HAD ⊢
      clear hD
      have HA := Lib.hid (fun u => add_any D R u)
      rw [HAD.out] at HA
      go_wp2_with (go_at_call 34; refine (HA.out _).mono ?_; rintro e w' ⟨rfl, rfl⟩)
      go_roundw
      case rel => exact ⟨k + 1, by omega, by go_num, rfl, HBB.out⟩
      case measure => simp [intOf]; omega
    · obtain rfl : k = 16 := by omega
      go_wp2_with fail
      go_ret
      exact ⟨rfl, HB.out.trans (HB2.out.mono HB.out.size)⟩
theorem mdemand_nil (w : World) (p : Pf) : Calls Try.prog 16 #[.pointer none, pfV p] w fun e w' => e = .returned (.int .i64 0) ∧ Below w.heap.size w w' := by
  have hb1 := newB w (.cells #[.int .u32 p.a, .int .i64 p.n] 25)
  go_enter Try.func16, Try.ntmps16
  go_wp2_with (go_at_call 31; refine (mclosed_nil _).mono ?_; rintro e w' ⟨rfl, rfl⟩)
  go_ret
  exact ⟨rfl, hb1⟩
theorem mtake_nil (w : World) (src seq : Int) (z : Option Addr) (n c : Nat) (now : Int) : Calls Try.prog 12 #[.pointer none, .agg #[.int .i64 src, .int .i64 seq, .slice z n c], .int .i64 now] w fun e w' => e = .returned (.int .i64 6) ∧ Below w.heap.size w w' := by
  have hb1 := newB w (.cells #[.int .i64 src, .int .i64 seq, .slice z n c] 31)
  go_enter Try.func12, Try.ntmps12
  go_wp2_with (go_at_call 31; refine (mclosed_nil _).mono ?_; rintro e w' ⟨rfl, rfl⟩)
  go_ret
  exact ⟨rfl, hb1⟩
theorem meach_nil (w : World) (f : Value) : Calls Try.prog 37 #[.pointer none, f] w fun e w' => e = .returned (.tuple #[]) ∧ w = w' := by
  go_enter Try.func37, Try.ntmps37
  go_wp2_with (go_at_call 31; refine (mclosed_nil _).mono ?_; rintro e w' ⟨rfl, rfl⟩)
  exact bodyPost_ret (v := .tuple #[]) (by simp [results, Try.results37, go_sem]) rfl ⟨rfl, rfl⟩
end Go.Proofs.Ytgididkpgncdjaa
