/- timer: At, Stop. -/
import Derived.Test.YtlcciifoddcbdaaTk3
import Derived.Deep.RegionHeldLaw
namespace Go.Proofs.Ytlcciifoddcbdaa
open Go.RowKit Go.Maps

theorem tset_full (w : World) (g b n : Nat) (D : DataW Unit) (h : TmP w g b n D) (p k v : Int) (hok : okT ⟨p, k⟩) (h0 : 0 ≤ v) (h1 : v ≤ 9007199254740991) (hhas : has D (litT ⟨p, k⟩) = false) (hsz : 1024 ≤ Maps.size D) :
    Calls Try.prog 9 #[.pointer (some ⟨g, 0, none⟩), .agg #[.int .i64 p, .int .i64 k], .int .i64 v] w fun e w' => e = .returned (.int .i64 2) ∧ Below w.heap.size w w' := by
  have hA := newB w (.cells #[.int .i64 p, .int .i64 k] 31)
  have H := Lib.hid (h.next hA)
  have HA := Lib.hid hA
  have t0 : decide (v < 0) = false := by simp; omega
  have t1 : decide (9007199254740991 < v) = false := by simp; omega
  have hkey := keyT_mk ⟨p, k⟩ hok
  unfold tkV at hkey
  dsimp only at hkey
  have hln := fun ty => (h.next hA).map.len Try.underlying49 ty
  obtain ⟨SZ, hs⟩ : ∃ x, Maps.size D = x := ⟨_, rfl⟩
  rw [hs] at hsz
  simp only [hs] at hln
  have t2 : decide ((1024 : Int) ≤ (SZ : Int)) = true := by simp; omega
  have hmn := fun (u : World) (r : Option Nat) => run_eql_map_nil (P := Try.prog) u 49 31 3 r Try.underlying49
  have HHAS := Lib.hid hhas
  clear h hA hs hhas
  go_enter Try.func9, Try.ntmps9
  go_wp2_with (first
    | (go_at_call 21; refine (tall_any _ _ _ _ _ H.out).mono ?_; rintro e w' ⟨rfl, rfl⟩)
    | (at_lookup; refine wpList_lookup_own_ok_int _ rfl _ _ 49 rfl 31 3 .i64 tk_keyed Try.underlying49 Try.underlying3 (zero_int _) b n D rfl H.out.map _ _ rfl hkey ?_; intro c hat hwc; rw [HHAS.out]))
  go_ret
  exact ⟨rfl, HA.out⟩

/-- What is looked up. -/
theorem tlook {u : World} {b n : Nat} {D : DataW Unit} (h : u.ownsMap Try.prog 31 (plainElem Try.prog 3) b n D) (k : Tk) (hok : okT k) :
    ∃ c, D.atKey (litT k) (inT 0) = inT c ∧ (Instr.lookup 49 (.map (some b)) (tkV k) true).run Try.prog u = .ok (.tuple #[.int .i64 c, .bool (has D (litT k))]) u := by
  obtain ⟨v, ps, hr, hv⟩ := h.look_ok tk_keyed Try.underlying49 (zero_int u) (plainElem_int (H := Unit) (a := 0) Try.underlying3 (by decide)) (keyT_mk k hok)
  obtain ⟨c, rfl, hc, _⟩ := plainElem_int_inv Try.underlying3 hv
  exact ⟨c, congrArg Prod.fst hc, hr⟩
theorem inT_inj {a b : Int} (h : inT a = inT b) : a = b := by
  unfold inT at h
  injection h with h
  injection h
/-- The moment that k waits for; 0 for none. -/
def MomT (D : DataW Unit) (k : Tk) (c : Int) : Prop := D.atKey (litT k) (inT 0) = inT c

theorem tat_any (w : World) (g b n : Nat) (D : DataW Unit) (h : TmP w g b n D) (p k : Int) (hok : okT ⟨p, k⟩) (c : Int) (hc : MomT D ⟨p, k⟩ c) :
    Calls Try.prog 16 #[.pointer (some ⟨g, 0, none⟩), .agg #[.int .i64 p, .int .i64 k]] w fun e w' => e = .returned (.tuple #[.int .i64 c, .bool (has D (litT ⟨p, k⟩))]) ∧ Below w.heap.size w w' := by
  have hA := (newB w (.cells #[.int .i64 p, .int .i64 k] 31)).drew
  have H := Lib.hid (h.next hA)
  have HA := Lib.hid hA
  obtain ⟨V, hV⟩ : ∃ V, w.alloc (.cells #[.int .i64 p, .int .i64 k] 31) = V := ⟨_, rfl⟩
  have hX : Blk V w.heap.size 31 [.int .i64 p, .int .i64 k] := hV ▸ Blk.new w 31 [.int .i64 p, .int .i64 k]
  rw [hV] at H HA
  obtain ⟨HAS, hhas⟩ : ∃ x, has D (litT ⟨p, k⟩) = x := ⟨_, rfl⟩
  obtain ⟨c', hc', hr⟩ := tlook H.out.map ⟨p, k⟩ hok
  obtain rfl : c' = c := inT_inj (hc'.symm.trans hc)
  rw [hhas] at hr ⊢
  unfold tkV at hr
  have HV := Lib.hid hV
  have hS : V.drew.cell? ⟨w.heap.size, 0, none⟩ = some (.int .i64 p) ∧ V.drew.cell? ⟨w.heap.size, 1, none⟩ = some (.int .i64 k) ∧ (Instr.lookup 49 (.map (some b)) (.agg #[.int .i64 p, .int .i64 k]) true).run Try.prog V.drew = .ok (.tuple #[.int .i64 c', .bool HAS]) V.drew := ⟨hX.cell 0 (by simp), hX.cell 1 (by simp), hr⟩
  have P := Lib.hid (tall_any V.drew g b n D H.out)
  clear h hA hX hhas hc hc' hr hV
  go_enter Try.func16, Try.ntmps16
  go_wp2_with fail
  rw [HV.out]
  go_region_held_law (fun w' => w'.cell? ⟨w.heap.size, 0, none⟩ = some (.int .i64 p) ∧ w'.cell? ⟨w.heap.size, 1, none⟩ = some (.int .i64 k) ∧ (Instr.lookup 49 (.map (some b)) (.agg #[.int .i64 p, .int .i64 k]) true).run Try.prog w' = .ok (.tuple #[.int .i64 c', .bool HAS]) w') (with_reducible assumption) (first
    | (go_at_call 21; refine P.out.mono ?_; rintro e w' ⟨rfl, rfl⟩))
  go_wp2_with fail
  exact bodyPost_ret (v := .tuple #[.int .i64 c', .bool HAS]) (by simp [results, Try.results16, go_sem]) rfl ⟨rfl, HA.out⟩
end Go.Proofs.Ytlcciifoddcbdaa
