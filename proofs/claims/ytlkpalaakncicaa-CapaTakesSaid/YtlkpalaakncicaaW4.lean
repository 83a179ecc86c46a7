/- hop: Find. -/
import Derived.Test.YtlkpalaakncicaaW3
namespace Go.Proofs.Ytlkpalaakncicaa
open Go.RowKit Go.Maps
set_option linter.unusedVariables false
set_option linter.unusedSimpArgs false

/-- The longest net of a router that holds an address. -/
def lngH (l : List Ifc) (r a : Int) : Nat → Option Ifc
  | 0 => none
  | d + 1 => match byNet l r (mk a d) d with | some x => some x | none => lngH l r a d
theorem lng_h {L : List TE} {l : List Ifc} {r : Int} (h : TrieIs L l r) (a : Int) : ∀ k, (lngTo L a k).map TE.v = (lngH l r a k).map fun x => ifV x
  | 0 => rfl
  | d + 1 => by
    have h1 := h (mk a d) d
    have ih := lng_h h a d
    unfold lngTo lngH
    rcases hc : atT L (mk a d) d with _ | e <;> rcases hx : byNet l r (mk a d) d with _ | x <;> rw [hc, hx] at h1
    · exact ih
    · cases h1
    · cases h1
    · exact h1
def findV (l : List Ifc) (r a : Int) : Option Ifc := if isR r then lngH l r a 33 else none
set_option maxHeartbeats 4000000 in
theorem hfind_any (w : World) (B h b : Nat) (F : Nat → TrF) (l : List Ifc) (H : HopAt w B h b F l) (r a : Int) (a0 : 0 ≤ a) (a1 : a < 4294967296) :
    Calls Try.prog 11 #[.pointer (some ⟨h, 0, none⟩), .int .i64 r, .int .u32 a] w fun e w' => e = .returned (.tuple #[ifV ((findV l r a).getD Ifc.zero), .bool (findV l r a).isSome]) ∧ Below w.heap.size w w' := by
  unfold findV
  rcases hr : isR r with _ | _
  · have HB := Lib.hid (newB w (.cells #[.int .i64 0, .int .i64 0, .int .u32 0, .int .i64 0, .int .i64 0] 34))
    have hz := Blk.new w 34 [.int .i64 0, .int .i64 0, .int .u32 0, .int .i64 0, .int .i64 0]
    have HZ := Lib.hid hz
    have HR := Lib.hid (fun u => isRouter_any r u)
    rw [hr] at HR
    clear hz H hr
    go_enter Try.func11, Try.ntmps11
    go_wp2_with (go_at_call 37; refine (HR.out _).mono ?_; rintro e w' ⟨rfl, rfl⟩)
    obtain ⟨z0, z1, z2, z3, z4⟩ := if_boxes HZ.out
    exact bodyPost_ret (v := .tuple #[.agg #[.int .i64 0, .int .i64 0, .int .u32 0, .int .i64 0, .int .i64 0], .bool false]) (by simp [results, Try.results11, go_sem, z0, z1, z2, z3, z4]) rfl ⟨rfl, HB.out⟩
  · obtain ⟨i, rfl, hi⟩ : ∃ i : Nat, r = i ∧ i < 16 := by
      unfold isR at hr
      rw [Bool.and_eq_true, decide_eq_true_eq, decide_eq_true_eq] at hr
      exact ⟨r.toNat, by omega, by omega⟩
    have HR := Lib.hid (fun u => isRouter_any (i : Int) u)
    rw [hr] at HR
    have HV := H.below (newB w (.cells #[.int .i64 0, .int .i64 0, .int .u32 0, .int .i64 0, .int .i64 0] 34))
    have HB := Lib.hid (newB w (.cells #[.int .i64 0, .int .i64 0, .int .u32 0, .int .i64 0, .int .i64 0] 34))
    have hz := Blk.new w 34 [.int .i64 0, .int .i64 0, .int .u32 0, .int .i64 0, .int .i64 0]
    have HZ := Lib.hid hz
    obtain ⟨V, hVV⟩ : ∃ V, w.alloc (.cells #[.int .i64 0, .int .i64 0, .int .u32 0, .int .i64 0, .int .i64 0] 34) = V := ⟨_, rfl⟩
    rw [hVV] at HV HB HZ
    have HVE := Lib.hid hVV
    have ht := HV.hb.top hi hi
    have htl := lng_h (HV.trs i hi) a 33
    have HLG := Lib.hid (longest_if V B (F i).t (F i).r (F i).L.length (F i).N (F i).L (HV.hb.tr i hi) ((HV.trs i hi).val (HV.hb.tr i hi).tl) a a0 a1)
    have HX : ∃ v : Ifc, lV zI (lngTo (F i).L a 33) = ifV v ∧ (lngH l i a 33).getD Ifc.zero = v ∧ (lngH l i a 33).isSome = (lngTo (F i).L a 33).isSome := by
      rcases h1 : lngTo (F i).L a 33 with _ | e <;> rcases h2 : lngH l i a 33 with _ | x <;> rw [h1, h2] at htl
      · exact ⟨Ifc.zero, rfl, rfl, rfl⟩
      · cases htl
      · cases htl
      · refine ⟨x, ?_, rfl, rfl⟩
        show e.v = ifV x
        simpa using htl
    obtain ⟨⟨x0, x1, x2, x3, x4⟩, e1, e2, e3⟩ := HX
    rw [e1, ← e3] at HLG
    rw [if_pos rfl, e2]
    obtain ⟨bs, hbs⟩ : ∃ x, (lngH l i a 33).isSome = x := ⟨_, rfl⟩
    rw [hbs] at HLG ⊢
    obtain ⟨u0, u1, hpl⟩ : ∃ u0 u1 : Int, lP (lngTo (F i).L a 33) = [.int .u32 u0, .int .i64 u1] := by cases (lngTo (F i).L a 33) <;> exact ⟨_, _, rfl⟩
    rw [hpl] at HLG
    rw [← hVV] at ht
    clear H hr HV htl e1 e2 e3 hbs hpl hz hVV
    go_enter Try.func11, Try.ntmps11
    go_wp2_with (go_at_call 37; refine (HR.out _).mono ?_; rintro e w' ⟨rfl, rfl⟩)
    rw [HVE.out]
    refine HLG.out.mono ?_
    rintro e w1 ⟨rfl, hb⟩
    have hBX := two_below w1 (.cells #[.int .u32 u0, .int .i64 u1] 32) (.cells #[.int .i64 x0, .int .i64 x1, .int .u32 x2, .int .i64 x3, .int .i64 x4] 34)
    have HB1 := Lib.hid ((HB.out.trans (hb.mono HB.out.size)).trans (hBX.mono (HB.out.trans (hb.mono HB.out.size)).size))
    have HZ1 := Lib.hid ((HZ.out.next hb).next hBX)
    obtain ⟨P, hP⟩ : ∃ P, w.heap.size = P := ⟨_, rfl⟩
    have HPP := Lib.hid hP
    rw [hP] at HZ1
    have f0 := HZ1.out.f 0
    have f1 := HZ1.out.f 1
    have f2 := HZ1.out.f 2
    have f3 := HZ1.out.f 3
    have f4 := HZ1.out.f 4
    obtain ⟨y0, y1, y2, y3, y4⟩ := if_boxes HZ1.out
    rw [hP]
    clear hb hBX hP
    go_wp2_with fail
    obtain ⟨z0, z1, z2, z3, z4⟩ := if_boxes (Blk.five HZ1.out (.int .i64 x0) (.int .i64 x1) (.int .u32 x2) (.int .i64 x3) (.int .i64 x4))
    exact bodyPost_ret (v := .tuple #[.agg #[.int .i64 x0, .int .i64 x1, .int .u32 x2, .int .i64 x3, .int .i64 x4], .bool bs]) (by simp [results, Try.results11, go_sem, z0, z1, z2, z3, z4]) rfl ⟨rfl, below_five HB1.out (by rw [HPP.out]; exact Nat.le_refl _) _ _ _ _ _⟩
end Go.Proofs.Ytlkpalaakncicaa
