/- note: the document's own Name, Body, Get. -/
import Derived.Test.YtmeejbkcaghhgaaDoorNt5
import Derived.Deep.RegionHeldLaw
namespace Go.Proofs.YtmeejbkcaghhgaaDoor
open Go.RowKit

set_option maxHeartbeats 2000000 in
theorem rname_ok (k : Nat) (s : Int) (q : Option Addr) (n c : Nat) (w : World) (hk : okN k s n = true) :
    Calls Tryd.prog 15 #[.agg #[.int .i64 k, .int .i64 s, .slice q n c]] w fun e w' => e = .returned (.string ⟨(nameN k s).toArray⟩) ∧ Below w.heap.size w w' := by
  obtain ⟨k1, k6, s0, s255, n4⟩ := okN_yes hk
  obtain ⟨S, rfl⟩ := Int.eq_ofNat_of_zero_le s0
  obtain ⟨o1, ho1⟩ : ∃ o1, Obj.cells #[.int .i64 k, .int .i64 S, .slice q n c] 24 (0, 0) = o1 := ⟨_, rfl⟩
  obtain ⟨o2, ho2⟩ : ∃ o2, Obj.cells (nameL.map fun s => Value.string ⟨s.toArray⟩).toArray 9 (0, 0) = o2 := ⟨_, rfl⟩
  have hB := two_below w o1 o2
  have K0 := (Blk.new w 24 [.int .i64 k, .int .i64 S, .slice q n c]).alloc o2
  have N0 := Blk.new (w.alloc o1) 9 (nameL.map fun s => Value.string ⟨s.toArray⟩)
  rw [sz_alloc] at N0
  rw [show ([.int .i64 k, .int .i64 S, .slice q n c] : List Value).toArray = #[.int .i64 k, .int .i64 S, .slice q n c] from rfl, ho1] at K0
  rw [ho2] at N0
  obtain ⟨W, hW⟩ : ∃ W, (w.alloc o1).alloc o2 = W := ⟨_, rfl⟩
  have hW2 := hW
  rw [← ho1, ← ho2] at hW2
  rw [show (nameL.map fun s => Value.string ⟨s.toArray⟩).toArray = #[.string ⟨#[]⟩, .string ⟨#[104, 101, 97, 100]⟩, .string ⟨#[111, 112, 101, 110]⟩, .string ⟨#[117, 112, 100, 97, 116, 101]⟩, .string ⟨#[104, 111, 108, 100]⟩, .string ⟨#[115, 116, 97, 116, 101]⟩, .string ⟨#[99, 101, 97, 115, 101]⟩] from rfl] at hW2
  rw [hW] at hB K0 N0
  have k7 : (k : Nat) < 7 := by omega
  have C0 : W.cell? ⟨w.heap.size, 0, none⟩ = some (.int .i64 k) := K0.cell 0 (by simp)
  have C1 : W.cell? ⟨w.heap.size, 1, none⟩ = some (.int .i64 S) := K0.cell 1 (by simp)
  have C2 : W.cell? ⟨w.heap.size + 1, k, none⟩ = some (.string ⟨(nameL.getD k []).toArray⟩) := by
    have h := N0.cell k (by rw [List.length_map]; exact k7)
    have e : (nameL.map fun s => Value.string ⟨s.toArray⟩).getD k undef = .string ⟨(nameL.getD k []).toArray⟩ := by
      have : k < nameL.length := k7
      simp [List.getD, List.getElem?_eq_getElem this]
    rw [e] at h
    exact h
  have sn := nameL_size k (by omega)
  have sv := itoa_size S s0 s255
  have hI : ∀ W, Calls Tryd.prog 22 #[.int .i64 S] W fun e w' => e = .returned (.string ⟨(Lib.itoa S).toArray⟩) ∧ w' = W := fun W => (digits_any S W (by omega)).mono fun _ _ h => ⟨h.1, h.2.symm⟩
  obtain ⟨V, hV⟩ : ∃ V : ByteArray, V = ⟨(Lib.itoa S).toArray⟩ := ⟨_, rfl⟩
  rw [← hV] at sv hI
  have HVV := Lib.hid hV
  have HI := Lib.hid hI
  obtain ⟨U, hU⟩ : ∃ U : ByteArray, U = ⟨(nameL.getD k []).toArray⟩ := ⟨_, rfl⟩
  rw [← hU] at sn C2
  have HUU := Lib.hid hU
  have HB := Lib.hid hB
  have HW := Lib.hid hW2
  clear hk hV hU hI hB hW hW2 ho1 ho2 K0 N0
  go_enter Tryd.func15, Tryd.ntmps15
  go_wp2_with fail
  rw [HW.out]
  go_quiet ((go_at_call 22; with_reducible exact Calls.quiet_of_same (HI.out _)))
  go_wp2_with fail
  go_ret
  refine ⟨?_, below_drewN HB.out _⟩
  have e : (U ++ ⟨#[32]⟩ ++ V) = ⟨(nameN k S).toArray⟩ := str_eq (by rw [append_data, append_data, HVV.out, HUU.out]; simp [nameN])
  exact congrArg (fun x => Ending.returned (.string x)) e

set_option maxHeartbeats 1000000 in
theorem rbody_ok (k s : Int) (q : Option Addr) (xs : List Int) (n c : Nat) (w : World) (hb : BytesAt w q xs) (hn : xs.length = n) (hk : okN k s n = true) :
    Calls Tryd.prog 12 #[.agg #[.int .i64 k, .int .i64 s, .slice q n c]] w fun e w' => ∃ p cap, e = .returned (.slice p (2 + n) cap) ∧ Own w' w.heap.size p cap (k :: s :: xs) ∧ Below w.heap.size w w' := by
  obtain ⟨k1, k6, s0, s255, n4⟩ := okN_yes hk
  have h0 := (Below.refl w.heap.size w).alloc (Nat.le_refl _) (.cells #[.int .i64 k, .int .i64 s, .slice q n c] 24)
  obtain ⟨W, hW⟩ : ∃ W, w.alloc (.cells #[.int .i64 k, .int .i64 s, .slice q n c] 24) = W := ⟨_, rfl⟩
  have K0 := Blk.new w 24 [.int .i64 k, .int .i64 s, .slice q n c]
  rw [show ([.int .i64 k, .int .i64 s, .slice q n c] : List Value).toArray = #[.int .i64 k, .int .i64 s, .slice q n c] from rfl] at K0
  rw [hW] at h0 K0
  have HB1 := Lib.hid h0
  have HW := Lib.hid hW
  have HQ1 := Lib.hid ((hb.below h0).alloc (.cells #[.int .u8 k, .int .u8 s] 5))
  have HN := Lib.hid hn
  have c0 := K0.cell 0 (by simp)
  have c1 := K0.cell 1 (by simp)
  have c2 : (W.alloc (.cells #[.int .u8 k, .int .u8 s] 5)).cell? ⟨w.heap.size, 2, none⟩ = some (.slice q n c) := (K0.alloc _).cell 2 (by simp)
  have wk : IntKind.u8.wrap k = k := by rw [show IntKind.u8.wrap k = k % 256 from by first | rfl | exact IntKind.wrap_u8 _ | exact IntKind.wrap_u8' _]; omega
  have ws : IntKind.u8.wrap s = s := by rw [show IntKind.u8.wrap s = s % 256 from by first | rfl | exact IntKind.wrap_u8 _ | exact IntKind.wrap_u8' _]; omega
  have HO := Lib.hid (Own.lit W W.heap.size [k, s] (inByte_all (fun x hx => by simp at hx; omega)) (by simp) (Nat.le_refl _))
  have hs : W.heap.size = w.heap.size + 1 := by rw [← hW]; simp
  have HS := Lib.hid hs
  rw [hs] at HO
  rw [← hW] at c0 c1 c2
  clear h0 hb hn hk K0 hW hs
  go_enter Tryd.func12, Tryd.ntmps12
  go_wp2_with (rw [HW.out]; refine wpList_appo (o := ⟨some 12, _, _, _, _, _⟩) (by rfl) (.tmp 9) (.tmp 11) (by rfl) (w.heap.size + 1) (some ⟨w.heap.size + 1, 0, none⟩) 2 [k, s] HO.out 2 (by rfl) (by rfl) q n c xs HQ1.out HN.out (by rfl) (2 + n) (by rfl) (by omega) (by have := HS.out; simp; omega) ?_; intro p3 cap3 w3 hO3 hB3 hG3; have HB3 := Lib.hid (((Below.refl (w.heap.size + 1) W).alloc (Nat.le_of_eq HS.out.symm) (.cells #[.int .u8 k, .int .u8 s] 5)).trans hB3.out))
  go_ret
  exact ⟨p3, cap3, rfl, hO3.out.mono (by omega), HB1.out.trans (HB3.out.mono (by omega))⟩
end Go.Proofs.YtmeejbkcaghhgaaDoor
