/- timer: Set, At, Stop. -/
import Derived.Test.YtlcciifoddcbdaaTk2
namespace Go.Proofs.Ytlcciifoddcbdaa
open Go.RowKit Go.Maps

theorem gb_belowT {a b : World} {r : Option Nat} (h : Below a.heap.size a b) : a.grownBy b r :=
  ⟨h.os, h.tape, h.output, h.size, fun i hi _ => h.block i hi⟩
theorem newB (w : World) (o : Obj) : Below w.heap.size w (w.alloc o) := (Below.refl _ _).alloc (Nat.le_refl _) o
theorem tset_neg (w : World) (g b n : Nat) (D : DataW Unit) (h : TmP w g b n D) (p k v : Int) (hv : v < 0 ∨ 9007199254740991 < v) :
    Calls Try.prog 9 #[.pointer (some ⟨g, 0, none⟩), .agg #[.int .i64 p, .int .i64 k], .int .i64 v] w fun e w' => e = .returned (.int .i64 1) ∧ Below w.heap.size w w' := by
  have H := Lib.hid (h.next (newB w (.cells #[.int .i64 p, .int .i64 k] 31)))
  have hmn := fun (u : World) (r : Option Nat) => run_eql_map_nil (P := Try.prog) u 49 31 3 r Try.underlying49
  have HB := Lib.hid (newB w (.cells #[.int .i64 p, .int .i64 k] 31))
  clear h
  by_cases h0 : v < 0
  · have t0 : decide (v < 0) = true := by simp [h0]
    go_enter Try.func9, Try.ntmps9
    go_wp2_with (go_at_call 21; refine (tall_any _ _ _ _ _ H.out).mono ?_; rintro e w' ⟨rfl, rfl⟩)
    go_ret
    exact ⟨rfl, HB.out⟩
  · have t0 : decide (v < 0) = false := by simp; omega
    have t1 : decide (9007199254740991 < v) = true := by simp; omega
    go_enter Try.func9, Try.ntmps9
    go_wp2_with (go_at_call 21; refine (tall_any _ _ _ _ _ H.out).mono ?_; rintro e w' ⟨rfl, rfl⟩)
    go_ret
    exact ⟨rfl, HB.out⟩
theorem tset_nil (w : World) (p k v : Int) :
    Calls Try.prog 9 #[.pointer none, .agg #[.int .i64 p, .int .i64 k], .int .i64 v] w fun e w' => e = .returned (.int .i64 6) ∧ Below w.heap.size w w' := by
  have hmn := fun (u : World) (r : Option Nat) => run_eql_map_nil (P := Try.prog) u 49 31 3 r Try.underlying49
  have HB := Lib.hid (newB w (.cells #[.int .i64 p, .int .i64 k] 31))
  go_enter Try.func9, Try.ntmps9
  go_wp2_with (go_at_call 21; refine (tall_nil _).mono ?_; rintro e w' ⟨rfl, rfl⟩)
  go_ret
  exact ⟨rfl, HB.out⟩
theorem wf_mom {v : Int} (h0 : 0 ≤ v) (h1 : v ≤ 9007199254740991) : (Lit.int .i64 v).wf = true := by
  simp [Lit.wf, IntKind.min, IntKind.max, IntKind.signed, IntKind.bits]; omega

theorem tset_ok (w : World) (g b n : Nat) (D : DataW Unit) (h : TmP w g b n D) (p k v : Int) (hok : okT ⟨p, k⟩) (h0 : 0 ≤ v) (h1 : v ≤ 9007199254740991) (hn : n ≤ 1099511627776) (hroom : has D (litT ⟨p, k⟩) = true ∨ Maps.size D < 1024) :
    Calls Try.prog 9 #[.pointer (some ⟨g, 0, none⟩), .agg #[.int .i64 p, .int .i64 k], .int .i64 v] w fun e w' => e = .returned (.int .i64 0) ∧ TmP w' g b (n + 1) (D.put (litT ⟨p, k⟩) (inT v)) ∧ w.grownBy w' (some b) := by
  have hA := newB w (.cells #[.int .i64 p, .int .i64 k] 31)
  have H := Lib.hid (h.next hA)
  have HA := Lib.hid hA
  have t0 : decide (v < 0) = false := by simp; omega
  have t1 : decide (9007199254740991 < v) = false := by simp; omega
  have hkey := keyT_mk ⟨p, k⟩ hok
  unfold tkV at hkey
  dsimp only at hkey
  obtain ⟨HAS, hhas⟩ : ∃ x, has D (litT ⟨p, k⟩) = x := ⟨_, rfl⟩
  obtain ⟨SZ, hsz⟩ : ∃ x, Maps.size D = x := ⟨_, rfl⟩
  have hln := fun ty => (h.next hA).map.len Try.underlying49 ty
  have hmn := fun (u : World) (r : Option Nat) => run_eql_map_nil (P := Try.prog) u 49 31 3 r Try.underlying49
  have hmx : n < maxLen := by unfold maxLen; omega
  have hwf := wf_mom h0 h1
  rw [hhas, hsz] at hroom
  simp only [hsz] at hln
  have HHAS := Lib.hid hhas
  clear h hA hsz
  have hguard : HAS = true ∨ (HAS = false ∧ decide ((1024 : Int) ≤ (SZ : Int)) = false) := by
    rcases HAS with _ | _
    · right; refine ⟨rfl, ?_⟩; simp at hroom; simp; omega
    · left; rfl
  clear hroom hhas
  rcases hguard with rfl | ⟨rfl, t2⟩
  all_goals
    go_enter Try.func9, Try.ntmps9
    go_wp2_with (first
      | (go_at_call 21; refine (tall_any _ _ _ _ _ H.out).mono ?_; rintro e w' ⟨rfl, rfl⟩)
      | (at_lookup; refine wpList_lookup_own_ok_int _ rfl _ _ 49 rfl 31 3 .i64 tk_keyed Try.underlying49 Try.underlying3 (zero_int _) b n D rfl H.out.map _ _ rfl hkey ?_; intro c hat hwc; rw [HHAS.out])
      | (at_mapUpdate; refine wpList_mapUpdate_own _ rfl _ _ _ 49 rfl 31 3 tk_keyed Try.underlying49 (plainElem Try.prog 3) b n D rfl H.out.map hmx _ _ _ rfl rfl hkey (inT v) [] (plainElem_int Try.underlying3 hwf) ?_; intro w1 hown1 hgrow1))
    go_ret
    exact ⟨rfl, H.out.turn hgrow1 hown1, (gb_belowT HA.out).andThen hgrow1 (fun k e => by cases e; exact Or.inr rfl)⟩
end Go.Proofs.Ytlcciifoddcbdaa
