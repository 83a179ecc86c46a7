/- hop: small ones; put. -/
import Derived.Test.YtlkpalaakncicaaW2
namespace Go.Proofs.Ytlkpalaakncicaa
open Go.RowKit Go.Maps
set_option linter.unusedVariables false
set_option linter.unusedSimpArgs false

structure HopAt (w : World) (B h b : Nat) (F : Nat → TrF) (l : List Ifc) : Prop where
  intro ::
  hb : HopB w B h b 16 F
  map : ∃ D, w.ownsMap Try.prog 3 ifElem b l.length D ∧ MapIs D l ∧ Maps.size D = l.length
  trs : ∀ i : Nat, i < 16 → TrieIs (F i).L l i
  len : ∀ i : Nat, i < 16 → (F i).L.length ≤ l.length
  bb : B ≤ b
theorem HopAt.below {w w' : World} {B h b : Nat} {F : Nat → TrF} {l : List Ifc} (H : HopAt w B h b F l) (hb : Below w.heap.size w w') : HopAt w' B h b F l :=
  ⟨H.hb.below hb, by
    obtain ⟨D, hm, hD⟩ := H.map
    have hl := hm.lt
    obtain ⟨es, clock, hh, Ft, hs, he⟩ := hm
    exact ⟨D, ⟨es, clock, (hb.block b hl).trans hh, Ft, hs, he⟩, hD⟩, H.trs, H.len, H.bb⟩
theorem HopAt.look {w : World} {B h b : Nat} {F : Nat → TrF} {l : List Ifc} (H : HopAt w B h b F l) (id : Int) (hw : (Lit.int .i64 id).wf = true) :
    (Instr.lookup 74 (.map (some b)) (.int .i64 id) true).run Try.prog w = .ok (.tuple #[ifV ((byId l id).getD Ifc.zero), .bool (byId l id).isSome]) w := by
  obtain ⟨D, hm, hD, _⟩ := H.map
  exact look_if hm hD id hw
def isR (r : Int) : Bool := decide (0 ≤ r) && decide (r < 16)
theorem isRouter_any (r : Int) (w : World) :
    Calls Try.prog 37 #[.int .i64 r] w fun e w' => e = .returned (.bool (isR r)) ∧ w = w' := by
  unfold isR
  go_enter Try.func37, Try.ntmps37
  by_cases h0 : 0 ≤ r
  · go_wp2
    go_ret
    exact ⟨by simp [h0], rfl⟩
  · have t0 : decide (0 ≤ r) = false := by simp; omega
    go_wp2
    go_ret
    exact ⟨by simp [h0], rfl⟩
theorem ifaces_nil (w : World) :
    Calls Try.prog 40 #[.pointer none] w fun e w' => e = .returned (.map none) ∧ w = w' := by
  go_enter Try.func40, Try.ntmps40
  go_wp2
  go_ret
  exact ⟨rfl, rfl⟩
theorem ifaces_any (w : World) (h b : Nat) (hc : w.cell? ⟨h, 0, none⟩ = some (.map (some b))) :
    Calls Try.prog 40 #[.pointer (some ⟨h, 0, none⟩)] w fun e w' => e = .returned (.map (some b)) ∧ w = w' := by
  go_enter Try.func40, Try.ntmps40
  go_wp2
  go_ret
  exact ⟨rfl, rfl⟩
theorem hlen_nil (w : World) :
    Calls Try.prog 18 #[.pointer none] w fun e w' => e = .returned (.int .i64 0) ∧ w = w' := by
  have hln := Maps.len_nil (P := Try.prog) (w := w) Try.underlying74
  go_enter Try.func18, Try.ntmps18
  go_wp2_with (go_at_call 40; refine (ifaces_nil _).mono ?_; rintro e w' ⟨rfl, rfl⟩)
  go_ret
  exact ⟨rfl, rfl⟩
theorem hiface_nil (id : Int) (hw : (Lit.int .i64 id).wf = true) (w : World) :
    Calls Try.prog 13 #[.pointer none, .int .i64 id] w fun e w' => e = .returned (.tuple #[.agg #[.int .i64 0, .int .i64 0, .int .u32 0, .int .i64 0, .int .i64 0], .bool false]) ∧ Below w.heap.size w w' := by
  have hlk : ∀ u, (Instr.lookup 74 (.map none) (.int .i64 id) true).run Try.prog u = .ok (.tuple #[.agg #[.int .i64 0, .int .i64 0, .int .u32 0, .int .i64 0, .int .i64 0], .bool false]) u := fun u => look_nil_if u id hw
  have HB := Lib.hid (two_below w (.cells #[.int .i64 0, .int .i64 0, .int .u32 0, .int .i64 0, .int .i64 0] 34) (.cells #[.int .i64 0, .int .i64 0, .int .u32 0, .int .i64 0, .int .i64 0] 34))
  have hz := (Blk.new w 34 [.int .i64 0, .int .i64 0, .int .u32 0, .int .i64 0, .int .i64 0]).alloc (.cells #[.int .i64 0, .int .i64 0, .int .u32 0, .int .i64 0, .int .i64 0] 34)
  have HZ := Lib.hid hz
  clear hz
  go_enter Try.func13, Try.ntmps13
  go_wp2_with (go_at_call 40; refine (ifaces_nil _).mono ?_; rintro e w' ⟨rfl, rfl⟩)
  obtain ⟨z0, z1, z2, z3, z4⟩ := if_boxes HZ.out
  exact bodyPost_ret (v := .tuple #[.agg #[.int .i64 0, .int .i64 0, .int .u32 0, .int .i64 0, .int .i64 0], .bool false]) (by simp [results, Try.results13, go_sem, z0, z1, z2, z3, z4]) rfl ⟨rfl, HB.out⟩
theorem hiface_any (w : World) (B h b : Nat) (F : Nat → TrF) (l : List Ifc) (H : HopAt w B h b F l) (id : Int) (hw : (Lit.int .i64 id).wf = true) :
    Calls Try.prog 13 #[.pointer (some ⟨h, 0, none⟩), .int .i64 id] w fun e w' => e = .returned (.tuple #[ifV ((byId l id).getD Ifc.zero), .bool (byId l id).isSome]) ∧ Below w.heap.size w w' := by
  have HV := H.below (newB w (.cells #[.int .i64 0, .int .i64 0, .int .u32 0, .int .i64 0, .int .i64 0] 34))
  have hlk := HV.look id hw
  have hm := HV.hb.map
  obtain ⟨⟨x0, x1, x2, x3, x4⟩, hx⟩ : ∃ x, (byId l id).getD Ifc.zero = x := ⟨_, rfl⟩
  obtain ⟨bs, hbs⟩ : ∃ x, (byId l id).isSome = x := ⟨_, rfl⟩
  rw [hx, hbs] at hlk ⊢
  have HB := Lib.hid (two_below w (.cells #[.int .i64 x0, .int .i64 x1, .int .u32 x2, .int .i64 x3, .int .i64 x4] 34) (.cells #[.int .i64 x0, .int .i64 x1, .int .u32 x2, .int .i64 x3, .int .i64 x4] 34))
  have hz := (Blk.new w 34 [.int .i64 x0, .int .i64 x1, .int .u32 x2, .int .i64 x3, .int .i64 x4]).alloc (.cells #[.int .i64 x0, .int .i64 x1, .int .u32 x2, .int .i64 x3, .int .i64 x4] 34)
  have HZ := Lib.hid hz
  clear H hx hbs hz HV
  go_enter Try.func13, Try.ntmps13
  go_wp2_with (go_at_call 40; refine (ifaces_any _ _ _ hm).mono ?_; rintro e w' ⟨rfl, rfl⟩)
  obtain ⟨z0, z1, z2, z3, z4⟩ := if_boxes HZ.out
  exact bodyPost_ret (v := .tuple #[.agg #[.int .i64 x0, .int .i64 x1, .int .u32 x2, .int .i64 x3, .int .i64 x4], .bool bs]) (by simp [results, Try.results13, go_sem, z0, z1, z2, z3, z4]) rfl ⟨rfl, HB.out⟩
theorem hlen_any (w : World) (B h b : Nat) (F : Nat → TrF) (l : List Ifc) (H : HopAt w B h b F l) :
    Calls Try.prog 18 #[.pointer (some ⟨h, 0, none⟩)] w fun e w' => e = .returned (.int .i64 l.length) ∧ w = w' := by
  have hm := H.hb.map
  obtain ⟨D, ho, _, hd⟩ := H.map
  have hln := fun ty => ho.len Try.underlying74 ty
  rw [hd] at hln
  clear hd ho H
  go_enter Try.func18, Try.ntmps18
  go_wp2_with (go_at_call 40; refine (ifaces_any _ _ _ hm).mono ?_; rintro e w' ⟨rfl, rfl⟩)
  go_ret
  exact ⟨rfl, rfl⟩
theorem hfind_nil (r a : Int) (w : World) :
    Calls Try.prog 11 #[.pointer none, .int .i64 r, .int .u32 a] w fun e w' => e = .returned (.tuple #[.agg #[.int .i64 0, .int .i64 0, .int .u32 0, .int .i64 0, .int .i64 0], .bool false]) ∧ Below w.heap.size w w' := by
  have HB := Lib.hid (newB w (.cells #[.int .i64 0, .int .i64 0, .int .u32 0, .int .i64 0, .int .i64 0] 34))
  have hz := Blk.new w 34 [.int .i64 0, .int .i64 0, .int .u32 0, .int .i64 0, .int .i64 0]
  have HZ := Lib.hid hz
  clear hz
  go_enter Try.func11, Try.ntmps11
  go_wp2_with fail
  obtain ⟨z0, z1, z2, z3, z4⟩ := if_boxes HZ.out
  exact bodyPost_ret (v := .tuple #[.agg #[.int .i64 0, .int .i64 0, .int .u32 0, .int .i64 0, .int .i64 0], .bool false]) (by simp [results, Try.results11, go_sem, z0, z1, z2, z3, z4]) rfl ⟨rfl, HB.out⟩
end Go.Proofs.Ytlkpalaakncicaa
