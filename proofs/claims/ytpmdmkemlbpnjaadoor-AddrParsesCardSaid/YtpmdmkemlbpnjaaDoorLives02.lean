/- What must come of every program: 'lives' is true, and writes nothing that was there. -/
import Derived.Test.YtpmdmkemlbpnjaaDoorGetP
namespace Go.Proofs.YtpmdmkemlbpnjaaDoor
open Go.RowKit

/-- What stands while 'lives' runs: the boxes of prefixes, a row of bytes, and all that was there. -/
def St (w W : World) (l : List (Nat × Int × Int)) (r : Option (Nat × List Int)) : Prop :=
  Tab W ∧ Below w.heap.size w W ∧ (∀ x ∈ l, Box W x.1 (.int .u32 x.2.1) (.int .i64 x.2.2)) ∧ (∀ x, r = some x → BRow W x.1 x.2)
theorem St.below {w W W' : World} {l : List (Nat × Int × Int)} {r : Option (Nat × List Int)} (h : St w W l r) (hb : Below W.heap.size W W') : St w W' l r :=
  ⟨h.1.below hb, h.2.1.trans (hb.mono h.2.1.size), fun x hx => (h.2.2.1 x hx).below hb, fun x hx => (h.2.2.2 x hx).below hb⟩
theorem St.alloc {w W : World} {l : List (Nat × Int × Int)} {r : Option (Nat × List Int)} (h : St w W l r) (o : Obj) : St w (W.alloc o) l r := h.below ((Below.refl _ _).alloc (Nat.le_refl _) _)
theorem St.push {w W : World} {l : List (Nat × Int × Int)} {r : Option (Nat × List Int)} (h : St w W l r) (a n : Int) : St w (W.alloc (.cells #[.int .u32 a, .int .i64 n] 25)) ((W.heap.size, a, n) :: l) r :=
  ⟨(h.alloc _).1, (h.alloc _).2.1, fun x hx => by
    rcases List.mem_cons.1 hx with rfl | hx
    · exact Box.new W _ _
    · exact (h.2.2.1 x hx).alloc _, (h.alloc _).2.2.2⟩
theorem St.row {w W : World} {l : List (Nat × Int × Int)} {r : Option (Nat × List Int)} (h : St w W l r) {g : Nat} {xs : List Int} (hr : BRow W g xs) : St w W l (some (g, xs)) :=
  ⟨h.1, h.2.1, h.2.2.1, fun x hx => by cases hx; exact hr⟩
theorem St.c0 {w W : World} {l : List (Nat × Int × Int)} {r : Option (Nat × List Int)} (h : St w W l r) {b : Nat} {a n : Int} (hx : (b, a, n) ∈ l) : W.cell? ⟨b, 0, none⟩ = some (.int .u32 a) := (h.2.2.1 _ hx).c0
theorem St.c1 {w W : World} {l : List (Nat × Int × Int)} {r : Option (Nat × List Int)} (h : St w W l r) {b : Nat} {a n : Int} (hx : (b, a, n) ∈ l) : W.cell? ⟨b, 1, none⟩ = some (.int .i64 n) := (h.2.2.1 _ hx).c1

theorem str_eq {S : ByteArray} {a : Array UInt8} (h : S.data.toList = a.toList) : S = ⟨a⟩ := by
  cases S
  exact congrArg _ (Array.toList_inj.1 h)

theorem l_parse : parseL [49, 48, 46, 49, 46, 48, 46, 48, 47, 49, 54] = some (167837696, 16) := by decide +kernel
theorem l_parse_no : parseL [49, 48, 46, 49, 46, 48, 46, 48, 47, 56] = none := by decide +kernel
theorem l_pfx : pfxL 167837696 16 = [16, 10, 1] := by decide +kernel
theorem l_got : gotP [8, 10, 7] = some (167772160, 8, 2) := by decide +kernel
theorem l_addr : addrL [49, 46, 50, 46, 51, 46, 52] = some [1, 2, 3, 4] := by decide +kernel
theorem l_show : showL 167837696 16 = [49, 48, 46, 49, 46, 48, 46, 48, 47, 49, 54] := by decide +kernel
theorem l_dot : dotL (putL 16909060 4) 3 = [49, 46, 50, 46, 51, 46, 52] := by decide +kernel
theorem l_mk1 : mk 167838211 8 = 167772160 ∧ cl 8 = 8 ∧ mk 167772160 8 = 167772160 := by decide +kernel
theorem l_ok : okP 167837696 16 = true := by decide +kernel
theorem l_in : withinP 167772160 8 167837696 16 = true ∧ withinP 167837696 16 167772160 8 = false ∧ holdsP 167772160 8 184549375 = true ∧ cmpP 167772160 8 167837696 16 = -1 ∧ bitP 2147483648 0 = 1 ∧ errP 1 0 = 20 := by decide +kernel

set_option maxHeartbeats 4000000 in
theorem lives_any (w : World) (ht : Tab w) : Calls Tryd.prog 4 #[] w fun e w' => e = .returned (.bool true) ∧ Below w.heap.size w w' := by
  have S0 := Lib.hid (show St w w [] none from ⟨ht, Below.refl _ _, fun x hx => (List.not_mem_nil hx).elim, fun x hx => by cases hx⟩)
  clear ht
  go_enter Tryd.func4, Tryd.ntmps4
  go_wp2_with fail
  refine (make_any 167838211 8 _).mono ?_; rintro e w1 ⟨rfl, hb⟩
  rw [l_mk1.1, l_mk1.2.1]
  have S1 := Lib.hid ((S0.out.below hb).push 167772160 8)
  clear hb S0
  go_wp2_with fail
  refine (parse_any ⟨#[49, 48, 46, 49, 46, 48, 46, 48, 47, 49, 54]⟩ _ (by decide)).mono ?_; rintro e w2 ⟨hp, hb⟩
  rw [show (⟨#[49, 48, 46, 49, 46, 48, 46, 48, 47, 49, 54]⟩ : ByteArray).data.toList = [49, 48, 46, 49, 46, 48, 46, 48, 47, 49, 54] from rfl, l_parse] at hp
  have he : e = .returned (.tuple #[.agg #[.int .u32 167837696, .int .i64 16], .int .i64 0]) := hp
  subst he
  have S2 := Lib.hid ((S1.out.below hb).push 167837696 16)
  clear hb S1 hp
  have c20 := S2.out.c0 (.head _)
  have c21 := S2.out.c1 (.head _)
  go_wp2_with fail
  refine (putp_ok 167837696 16 _ (by decide) (by decide) l_ok).mono ?_; rintro e w3 hp
  rw [l_pfx] at hp
  obtain ⟨g, he, hr, _, _, hb⟩ := hp
  have he : e = .returned (.tuple #[.slice (some ⟨g, 0, none⟩) 3 3, .int .i64 0]) := he
  subst he
  have S3 := Lib.hid ((S2.out.below hb).row hr)
  clear hb S2 hr c20 c21
  go_wp2_with fail
  refine (getp_any (some ⟨w3.heap.size, 0, none⟩) [8, 10, 7] 3 _ (bytes_new w3 [8, 10, 7] (inByte_all (by decide))) (by decide) (by decide)).mono ?_; rintro e w4 ⟨hp, hb⟩
  rw [l_got] at hp
  unfold GotOut at hp
  dsimp only at hp
  rw [l_mk1.2.2, l_mk1.2.1] at hp
  have he : e = .returned (.tuple #[.agg #[.int .u32 167772160, .int .i64 8], .int .i64 2, .int .i64 0]) := hp
  subst he
  have S4 := Lib.hid (((S3.out.alloc _).below hb).push 167772160 8)
  clear hb S3 hp
  go_wp2_with fail
  refine (parse_any ⟨#[49, 48, 46, 49, 46, 48, 46, 48, 47, 56]⟩ _ (by decide)).mono ?_; rintro e w5 ⟨hp, hb⟩
  rw [show (⟨#[49, 48, 46, 49, 46, 48, 46, 48, 47, 56]⟩ : ByteArray).data.toList = [49, 48, 46, 49, 46, 48, 46, 48, 47, 56] from rfl, l_parse_no] at hp
  have he : e = .returned (.tuple #[.agg #[.int .u32 0, .int .i64 0], .int .i64 20]) := hp
  subst he
  have S5 := Lib.hid ((S4.out.below hb).alloc (.cells #[.int .u32 0, .int .i64 0] 25))
  clear hb S4 hp
  go_wp2_with fail
  refine (address_any ⟨#[49, 46, 50, 46, 51, 46, 52]⟩ _ (by decide)).mono ?_; rintro e w6 ⟨hp, hb⟩
  rw [show (⟨#[49, 46, 50, 46, 51, 46, 52]⟩ : ByteArray).data.toList = [49, 46, 50, 46, 51, 46, 52] from rfl, l_addr] at hp
  have he : e = .returned (.tuple #[.int .u32 16909060, .int .i64 0]) := hp
  subst he
  have S6 := Lib.hid (S5.out.below hb)
  clear hb S5 hp
  have hq : ∀ w, (binOp .eql 25 (.agg #[.int .u32 167772160, .int .i64 8]) (.agg #[.int .u32 167772160, .int .i64 8])).run Tryd.prog w = .ok (.bool true) w := fun w => by rw [pfx_eql]; rfl
  have hg := pfx_eqGuard
  have c60 := S6.out.c0 (.head _)
  have c61 := S6.out.c1 (.head _)
  have c20 := S6.out.c0 (.tail _ (.head _))
  have c21 := S6.out.c1 (.tail _ (.head _))
  have c10 := S6.out.c0 (.tail _ (.tail _ (.head _)))
  have c11 := S6.out.c1 (.tail _ (.tail _ (.head _)))
  go_wp2_with fail
  refine (show_ok 167837696 16 _ (by decide) (by decide) S6.out.1 l_ok).mono ?_; rintro e w7 ⟨⟨S, rfl, hs, _⟩, hb⟩
  rw [l_show] at hs
  obtain rfl := str_eq (a := #[49, 48, 46, 49, 46, 48, 46, 48, 47, 49, 54]) hs
  have S7 := Lib.hid (S6.out.below hb)
  clear hb c10 c11 c20 c21 c60 c61 S6 hs
  have c60 := S7.out.c0 (.head _)
  have c61 := S7.out.c1 (.head _)
  have c20 := S7.out.c0 (.tail _ (.head _))
  have c21 := S7.out.c1 (.tail _ (.head _))
  have c10 := S7.out.c0 (.tail _ (.tail _ (.head _)))
  have c11 := S7.out.c1 (.tail _ (.tail _ (.head _)))
  have hcv : (convert 37 9 (.slice (some ⟨g, 0, none⟩) 3 3)).run Tryd.prog w7 = .ok (.string ⟨#[16, 10, 1]⟩) w7 := run_string w7 _ [16, 10, 1] 3 (S7.out.2.2.2 _ rfl)
  go_wp2_with fail
  refine (dotted_any 16909060 _ (by decide) (by decide) S7.out.1).mono ?_; rintro e w8 ⟨⟨S, rfl, hs, _⟩, hb⟩
  rw [l_dot] at hs
  obtain rfl := str_eq (a := #[49, 46, 50, 46, 51, 46, 52]) hs
  have S8 := Lib.hid (S7.out.below hb)
  clear hb c10 c11 c20 c21 c60 c61 S7 hs hcv
  have c60 := S8.out.c0 (.head _)
  have c61 := S8.out.c1 (.head _)
  have c20 := S8.out.c0 (.tail _ (.head _))
  have c21 := S8.out.c1 (.tail _ (.head _))
  have c10 := S8.out.c0 (.tail _ (.tail _ (.head _)))
  have c11 := S8.out.c1 (.tail _ (.tail _ (.head _)))
  go_wp2_with fail
  refine (within_any 167772160 8 167837696 16 _).mono ?_; rintro e w9 ⟨rfl, hb⟩
  rw [l_in.1]
  have S9 := Lib.hid (S8.out.below hb)
  clear hb c10 c11 c20 c21 c60 c61 S8
  have c60 := S9.out.c0 (.head _)
  have c61 := S9.out.c1 (.head _)
  have c20 := S9.out.c0 (.tail _ (.head _))
  have c21 := S9.out.c1 (.tail _ (.head _))
  have c10 := S9.out.c0 (.tail _ (.tail _ (.head _)))
  have c11 := S9.out.c1 (.tail _ (.tail _ (.head _)))
  go_wp2_with fail
  refine (within_any 167837696 16 167772160 8 _).mono ?_; rintro e w10 ⟨rfl, hb⟩
  rw [l_in.2.1]
  have S10 := Lib.hid (S9.out.below hb)
  clear hb c10 c11 c20 c21 c60 c61 S9
  have c60 := S10.out.c0 (.head _)
  have c61 := S10.out.c1 (.head _)
  have c20 := S10.out.c0 (.tail _ (.head _))
  have c21 := S10.out.c1 (.tail _ (.head _))
  have c10 := S10.out.c0 (.tail _ (.tail _ (.head _)))
  have c11 := S10.out.c1 (.tail _ (.tail _ (.head _)))
  go_wp2_with fail
  refine (holds_any 167772160 8 184549375 _).mono ?_; rintro e w11 ⟨rfl, hb⟩
  rw [l_in.2.2.1]
  have S11 := Lib.hid (S10.out.below hb)
  clear hb c10 c11 c20 c21 c60 c61 S10
  have c60 := S11.out.c0 (.head _)
  have c61 := S11.out.c1 (.head _)
  have c20 := S11.out.c0 (.tail _ (.head _))
  have c21 := S11.out.c1 (.tail _ (.head _))
  have c10 := S11.out.c0 (.tail _ (.tail _ (.head _)))
  have c11 := S11.out.c1 (.tail _ (.tail _ (.head _)))
  go_wp2_with fail
  refine (compare_any 167772160 8 167837696 16 _).mono ?_; rintro e w12 ⟨rfl, hb⟩
  rw [l_in.2.2.2.1]
  have S12 := Lib.hid (S11.out.below hb)
  clear hb c10 c11 c20 c21 c60 c61 S11
  have c60 := S12.out.c0 (.head _)
  have c61 := S12.out.c1 (.head _)
  have c20 := S12.out.c0 (.tail _ (.head _))
  have c21 := S12.out.c1 (.tail _ (.head _))
  have c10 := S12.out.c0 (.tail _ (.tail _ (.head _)))
  have c11 := S12.out.c1 (.tail _ (.tail _ (.head _)))
  go_wp2_with fail
  refine (bit_any 2147483648 0 _ (by decide) (by decide)).mono ?_; rintro e w' ⟨rfl, rfl⟩
  rw [l_in.2.2.2.2.1]
  go_wp2_with fail
  refine (check_any 1 0 _).mono ?_; rintro e w' ⟨rfl, hb⟩
  rw [l_in.2.2.2.2.2]
  have SZ := Lib.hid (S12.out.below hb)
  clear hb c10 c11 c20 c21 c60 c61 S12
  go_wp2_with fail
  go_ret
  exact ⟨rfl, SZ.out.2.1⟩
end Go.Proofs.YtpmdmkemlbpnjaaDoor
