/- trie: New, top, Set at interfaces. -/
import Derived.Test.YtlkpalaakncicaaV4
import Derived.Deep.RegionHeldLaw
namespace Go.Proofs.Ytlkpalaakncicaa
open Go.RowKit
set_option linter.unusedVariables false
set_option linter.unusedSimpArgs false

/-- An interface. -/
structure Ifc where
  intro ::
  id : Int
  r : Int
  a : Int
  n : Int
  c : Int
def ifC (x : Ifc) : List Value := [.int .i64 x.id, .int .i64 x.r, .int .u32 x.a, .int .i64 x.n, .int .i64 x.c]
abbrev ifV (x : Ifc) : Value := .agg #[.int .i64 x.id, .int .i64 x.r, .int .u32 x.a, .int .i64 x.n, .int .i64 x.c]
abbrev TRf : TypeId := 113
abbrev NDf : TypeId := 111
abbrev THf : TypeId := 121
theorem nx_if : 34 ≠ NDf ∧ 34 ≠ TRf := by decide
theorem ne_if : TRf ≠ NDf ∧ TRf ≠ THf ∧ NDf ≠ THf ∧ 32 ≠ NDf ∧ 32 ≠ TRf := by decide
theorem new_if (w : World) :
    Calls Try.prog 34 #[] w fun e w' => e = .returned (.pointer (some ⟨w.heap.size + 1, 0, none⟩)) ∧ w' = (w.alloc (.cells #[.pointer none, .pointer none, .pointer none] NDf)).alloc (.cells #[.pointer (some ⟨w.heap.size, 0, none⟩), .int .i64 0] TRf) := by
  go_enter Try.func34, Try.ntmps34
  go_wp2
  go_ret
  exact ⟨by simp, rfl⟩
theorem top_if (w : World) (t r : Nat) (h : w.cell? ⟨t, 0, none⟩ = some (.pointer (some ⟨r, 0, none⟩))) :
    Calls Try.prog 68 #[.pointer (some ⟨t, 0, none⟩)] w fun e w' => e = .returned (.pointer (some ⟨r, 0, none⟩)) ∧ w = w' := by
  go_enter Try.func68, Try.ntmps68
  go_wp2
  go_ret
  exact ⟨rfl, rfl⟩
theorem top_nil_if (w : World) :
    Calls Try.prog 68 #[.pointer none] w fun e w' => e = .returned (.pointer none) ∧ w = w' := by
  go_enter Try.func68, Try.ntmps68
  go_wp2
  go_ret
  exact ⟨rfl, rfl⟩

theorem SetS.drewN {TR ND TH : TypeId} {w0 w : World} {B t r : Nat} {s : Int} {N0 : Int → Nat → Option Nat} {L : List TE} {a n : Int} {P : Nat} {TX : TypeId} {xs : List Value} {k b : Nat} (h : SetS TR ND TH w0 w B t r s N0 L a n P TX xs k b) (q : Nat) : SetS TR ND TH w0 (w.drewN q) B t r s N0 L a n P TX xs k b :=
  ⟨h.tr.imp fun N hN => ⟨hN.1.kept fun _ _ _ => rfl, hN.2⟩, h.pb, h.xb, h.nx, ⟨h.turn.os, h.turn.tape, h.turn.output, h.turn.size, h.turn.block⟩⟩
theorem below_dN (B : Nat) (w : World) (n : Nat) : Below B w (w.drewN n) := ⟨rfl, rfl, rfl, Nat.le_refl _, fun _ _ => rfl⟩
theorem newB (w : World) (o : Obj) : Below w.heap.size w (w.alloc o) := (Below.refl _ _).alloc (Nat.le_refl _) _
theorem optP_some (c : Nat) : optP (some c) = .pointer (some ⟨c, 0, none⟩) := rfl
theorem optP_none : optP none = .pointer none := rfl
theorem if_boxes {w : World} {P : Nat} {t : TypeId} {a b c d e : Value} (h1 : Blk w P t [a, b, c, d, e]) :
    w.cell? ⟨P, 0, none⟩ = some a ∧ w.cell? ⟨P, 1, none⟩ = some b ∧ w.cell? ⟨P, 2, none⟩ = some c ∧ w.cell? ⟨P, 3, none⟩ = some d ∧ w.cell? ⟨P, 4, none⟩ = some e :=
  ⟨h1.cell 0 (by simp), h1.cell 1 (by simp), h1.cell 2 (by simp), h1.cell 3 (by simp), h1.cell 4 (by simp)⟩
set_option maxHeartbeats 4000000 in
theorem set_no_if (w : World) (t r : Nat) (a n xi xr xa xn xc : Int) (hp : w.cell? ⟨t, 0, none⟩ = some (.pointer (some ⟨r, 0, none⟩))) (hk : okP a n = false) :
    Calls Try.prog 56 #[.pointer (some ⟨t, 0, none⟩), .agg #[.int .u32 a, .int .i64 n], .agg #[.int .i64 xi, .int .i64 xr, .int .u32 xa, .int .i64 xn, .int .i64 xc]] w fun e w' => e = .returned (.int .i64 20) ∧ Below w.heap.size w w' := by
  have HA := Lib.hid (two_below w (.cells #[.int .u32 a, .int .i64 n] 32) (.cells #[.int .i64 xi, .int .i64 xr, .int .u32 xa, .int .i64 xn, .int .i64 xc] 34))
  have hX := (Blk.new w 32 [.int .u32 a, .int .i64 n]).alloc (.cells #[.int .i64 xi, .int .i64 xr, .int .u32 xa, .int .i64 xn, .int .i64 xc] 34)
  have hX2 := Blk.new (w.alloc (.cells #[.int .u32 a, .int .i64 n] 32)) 34 [.int .i64 xi, .int .i64 xr, .int .u32 xa, .int .i64 xn, .int .i64 xc]
  rw [sz_alloc] at hX2
  obtain ⟨V, hV⟩ : ∃ V, (w.alloc (.cells #[.int .u32 a, .int .i64 n] 32)).alloc (.cells #[.int .i64 xi, .int .i64 xr, .int .u32 xa, .int .i64 xn, .int .i64 xc] 34) = V := ⟨_, rfl⟩
  have hX : Blk V w.heap.size 32 [.int .u32 a, .int .i64 n] := hV ▸ hX
  rw [hV] at HA hX2
  have ht : V.cell? ⟨t, 0, none⟩ = some (.pointer (some ⟨r, 0, none⟩)) := kept HA.out hp
  have p0 : V.cell? ⟨w.heap.size, 0, none⟩ = some (.int .u32 a) := hX.cell 0 (by simp)
  have p1 : V.cell? ⟨w.heap.size, 1, none⟩ = some (.int .i64 n) := hX.cell 1 (by simp)
  have HV := Lib.hid hV
  have HC := Lib.hid (check_any a n V)
  unfold errP at HC
  rw [hk] at HC
  have HT := Lib.hid (top_if V t r ht)
  clear hX hX2 hV hp hk
  go_enter Try.func56, Try.ntmps56
  go_wp2_with fail
  rw [HV.out]
  refine HT.out.mono ?_
  rintro e w1 ⟨rfl, rfl⟩
  go_wp2_with fail
  refine HC.out.mono ?_
  rintro e w1 ⟨rfl, hb⟩
  have HB := Lib.hid (HA.out.trans (hb.mono HA.out.size))
  clear hb
  go_wp2_with fail
  go_ret
  exact ⟨rfl, HB.out⟩
set_option maxHeartbeats 8000000 in
theorem set_yes_if (w : World) (B t r : Nat) (N : Int → Nat → Option Nat) (L : List TE) (a : Int) (m : Nat) (xi xr xa xn xc : Int) (h : TrAt TRf NDf THf w B t r L.length N L) (hB : B ≤ w.heap.size) (a0 : 0 ≤ a) (a1 : a < 4294967296) (hok : okP a m = true) (hl : L.length ≤ 1000000) :
    Calls Try.prog 56 #[.pointer (some ⟨t, 0, none⟩), .agg #[.int .u32 a, .int .i64 m], .agg #[.int .i64 xi, .int .i64 xr, .int .u32 xa, .int .i64 xn, .int .i64 xc]] w fun e w' => ∃ N' g, e = .returned (.int .i64 0) ∧ SetR TRf NDf THf w w' B t r N L N' (insT L ⟨a, m, .agg #[.int .i64 xi, .int .i64 xr, .int .u32 xa, .int .i64 xn, .int .i64 xc], g⟩) := by
  have hm : m ≤ 32 := by have := (okP_parts hok).2; omega
  have HA := Lib.hid (two_below w (.cells #[.int .u32 a, .int .i64 m] 32) (.cells #[.int .i64 xi, .int .i64 xr, .int .u32 xa, .int .i64 xn, .int .i64 xc] 34))
  have hX := (Blk.new w 32 [.int .u32 a, .int .i64 m]).alloc (.cells #[.int .i64 xi, .int .i64 xr, .int .u32 xa, .int .i64 xn, .int .i64 xc] 34)
  have hX2 := Blk.new (w.alloc (.cells #[.int .u32 a, .int .i64 m] 32)) 34 [.int .i64 xi, .int .i64 xr, .int .u32 xa, .int .i64 xn, .int .i64 xc]
  rw [sz_alloc] at hX2
  obtain ⟨V, hV⟩ : ∃ V, (w.alloc (.cells #[.int .u32 a, .int .i64 m] 32)).alloc (.cells #[.int .i64 xi, .int .i64 xr, .int .u32 xa, .int .i64 xn, .int .i64 xc] 34) = V := ⟨_, rfl⟩
  have hX : Blk V w.heap.size 32 [.int .u32 a, .int .i64 m] := hV ▸ hX
  rw [hV] at HA hX2
  obtain ⟨P, hP⟩ : ∃ P, w.heap.size = P := ⟨_, rfl⟩
  have HPP := Lib.hid hP
  rw [hP] at hX hX2
  have hT := h.below HA.out
  have HT := Lib.hid (top_if V t r (hT.tb.cell 0 (by simp)))
  have p0 : V.cell? ⟨P, 0, none⟩ = some (.int .u32 a) := hX.cell 0 (by simp)
  have p1 : V.cell? ⟨P, 1, none⟩ = some (.int .i64 m) := hX.cell 1 (by simp)
  have HS := Lib.hid (show SetS TRf NDf THf w V B t r L.length N L a m P 34 [.int .i64 xi, .int .i64 xr, .int .u32 xa, .int .i64 xn, .int .i64 xc] 0 r from ⟨⟨N, hT, by rw [show mk a ((0 : Nat) : Int) = 0 from mk_zero a a0 a1]; exact hT.root, fun i hi => .inl hi⟩, hX, hX2, nx_if, .of_below HA.out⟩)
  have HV := Lib.hid hV
  have HC := Lib.hid (check_any a m V)
  unfold errP at HC
  rw [if_pos hok] at HC
  have HOK := Lib.hid hok
  have HBB := Lib.hid hB
  have hll : (L.length : Int) ≤ 1000000 := by omega
  obtain ⟨s, hs⟩ : ∃ s : Int, (L.length : Int) = s := ⟨_, rfl⟩
  rw [hs] at HS hll
  have hs0 : 0 ≤ s := by omega
  have HSL := Lib.hid hs.symm
  clear hX hX2 hV hT h hP hok hB hl hs
  go_enter Try.func56, Try.ntmps56
  go_wp2_with fail
  rw [HV.out, HPP.out]
  refine HT.out.mono ?_
  rintro e w1 ⟨rfl, rfl⟩
  go_wp2_with fail
  refine HC.out.mono ?_
  rintro e w1 ⟨rfl, hb⟩
  have HS1 := Lib.hid (show SetS TRf NDf THf w w1 B t r s N L a m P 34 [.int .i64 xi, .int .i64 xr, .int .u32 xa, .int .i64 xn, .int .i64 xc] 0 r from ⟨HS.out.tr.imp fun N hN => ⟨hN.1.below hb, hN.2⟩, HS.out.pb.next hb, HS.out.xb.next hb, HS.out.nx, HS.out.turn.trans (.of_below hb)⟩)
  have q0 : w1.cell? ⟨P, 0, none⟩ = some (.int .u32 a) := HS1.out.pb.cell 0 (by simp)
  have q1 : w1.cell? ⟨P, 1, none⟩ = some (.int .i64 m) := HS1.out.pb.cell 1 (by simp)
  clear hb p0 p1
  go_wp2_with fail
  go_loopw [7, 22] (fun v7 v22 wr => ∃ k b : Nat, v7 = .pointer (some ⟨b, 0, none⟩) ∧ v22 = .int .i64 k ∧ k ≤ m ∧ SetS TRf NDf THf w wr B t r s N L a m P 34 [.int .i64 xi, .int .i64 xr, .int .u32 xa, .int .i64 xn, .int .i64 xc] k b) (fun _ v _ => m - (intOf v).toNat)
  case atStart => exact ⟨0, r, rfl, rfl, Nat.zero_le _, HS1.out⟩
  case round =>
    obtain ⟨k, b, rfl, rfl, hk, hS⟩ := hrel
    clear q0 q1
    have HSR := Lib.hid hS
    clear hS
    by_cases hlt : k < m
    · have hlt' : (k : Int) < (m : Int) := by omega
      obtain ⟨o, hc, hsome, hnone⟩ := HSR.out.bit a0 a1 (by omega)
      have e0 : (0 : Int) ≤ k := by omega
      have HBit := Lib.hid (fun (U : World) => (bit_any a k U a0 a1).mono fun e w' (h : _ ∧ _) => (⟨h.1, h.2.symm⟩ : e = .returned (.int .i64 (bitP a k)) ∧ w' = U))
      have p0 : wr.cell? ⟨P, 0, none⟩ = some (.int .u32 a) := HSR.out.pb.cell 0 (by simp)
      have P0 : wr.drew.cell? ⟨P, 0, none⟩ = some (.int .u32 a) := HSR.out.pb.cell 0 (by simp)
      have hBw : B ≤ w.heap.size := HBB.out
      have hcf : ∀ c, wr.frozen? ⟨b, c, none⟩ = false := by
        obtain ⟨N', ht, hb, _⟩ := HSR.out.tr
        exact fun c => (ht.node _ _ _ hb).f c
      have hbl : b < wr.heap.size := by
        obtain ⟨N', ht, hb, _⟩ := HSR.out.tr
        exact (ht.node _ _ _ hb).lt
      have hal : ∀ (q : Nat) (v : Obj) {c : Nat} {u : Value}, wr.cell? ⟨b, c, none⟩ = some u → ((wr.drewN q).alloc v).cell? ⟨b, c, none⟩ = some u := fun q v c u h => kept (newB (wr.drewN q) v) h
      have hfr : ∀ (q : Nat) (v : Obj) (c : Nat), ((wr.drewN q).alloc v).frozen? ⟨b, c, none⟩ = false := fun q v c => ((newB (wr.drewN q) v).frozen (p := ⟨b, c, none⟩) hbl).trans (hcf c)
      have HAL := Lib.hid @hal
      have HFR := Lib.hid hfr
      clear hal hfr hcf
      rcases bit_cases a k with hb | hb
      all_goals
        rw [hb] at hc hnone HBit
        simp only [kid, Int.toNat_zero, Int.toNat_one, Nat.reduceAdd] at hc hnone
        rcases o with _ | c
        · have HN := Lib.hid (hnone rfl hBw)
          clear hsome hnone hb hBw hlt
          rw [optP_none] at hc
          have HC' := Lib.hid hc
          clear hc
          go_wp2_with fail
          go_quiet ((go_at_call 70; exact Calls.quiet_of_same (HBit.out _)))
          have hca := fun q v => HAL.out q v HC'.out
          have hfa := fun q v c => HFR.out q v c
          have hc := HC'.out
          go_wp2_with fail
          go_roundw
          case rel => exact ⟨k + 1, wr.heap.size, by simp, by go_num, by omega, by first | exact HN.out | exact HN.out.drewN _⟩
          case measure => simp [intOf]; omega
        · have HN := Lib.hid (hsome c rfl)
          clear hsome hnone hb hBw hlt
          rw [optP_some] at hc
          have HC' := Lib.hid hc
          clear hc
          go_wp2_with fail
          go_quiet ((go_at_call 70; exact Calls.quiet_of_same (HBit.out _)))
          have hc := HC'.out
          go_wp2_with fail
          go_roundw
          case rel => exact ⟨k + 1, c, rfl, by go_num, by omega, by first | exact HN.out | exact HN.out.drewN _⟩
          case measure => simp [intOf]; omega
    · obtain rfl : k = m := by omega
      obtain ⟨o, hc, htb, hbt, hbP, htP, ⟨hbQ, htQ⟩, hsome, hnone⟩ := HSR.out.last HOK.out a0 a1 HSL.out HBB.out (.agg #[.int .i64 xi, .int .i64 xr, .int .u32 xa, .int .i64 xn, .int .i64 xc])
      simp only [thC, vC, List.cons_append, List.nil_append] at hsome hnone
      have hxb := HSR.out.xb
      have hpb := HSR.out.pb
      have p0 : wr.cell? ⟨P, 0, none⟩ = some (.int .u32 a) := hpb.cell 0 (by simp)
      have p1 : wr.cell? ⟨P, 1, none⟩ = some (.int .i64 k) := hpb.cell 1 (by simp)
      have hxs := if_boxes hxb
      obtain ⟨x0, x1, x2, x3, x4⟩ := hxs
      have hnb : ∃ vs, Blk wr b NDf vs := by
        obtain ⟨N', ht, hb, _⟩ := HSR.out.tr
        exact ⟨_, ht.node _ _ _ hb⟩
      obtain ⟨vs, hnb⟩ := hnb
      rcases o with _ | c
      · have HN := Lib.hid (hnone rfl)
        rw [optP_none] at hc
        have t1 : wr.cell? ⟨t, 1, none⟩ = some (.int .i64 s) := htb.cell 1 (by simp)
        have f1 := htb.f 1
        have hpb' := hpb.setOther (a := ⟨t, 1, none⟩) (fun e => htP e.symm) (.int .i64 (s + 1))
        have p0' : (wr.setCell ⟨t, 1, none⟩ (.int .i64 (s + 1))).cell? ⟨P, 0, none⟩ = some (.int .u32 a) := hpb'.cell 0 (by simp)
        have p1' : (wr.setCell ⟨t, 1, none⟩ (.int .i64 (s + 1))).cell? ⟨P, 1, none⟩ = some (.int .i64 k) := hpb'.cell 1 (by simp)
        have hxb' := hxb.setOther (a := ⟨t, 1, none⟩) (fun e => htQ e.symm) (.int .i64 (s + 1))
        obtain ⟨y0, y1, y2, y3, y4⟩ := if_boxes hxb'
        have hnb' := hnb.setOther (a := ⟨t, 1, none⟩) hbt (.int .i64 (s + 1))
        have hb0 : (wr.setCell ⟨t, 1, none⟩ (.int .i64 (s + 1))).cell? ⟨b, 0, none⟩ = some (.pointer none) := by rw [World.cell?_of_block (w := wr) (Below.heap_setCell _ _ _ b hbt)]; exact hc
        have ha := newB (wr.setCell ⟨t, 1, none⟩ (.int .i64 (s + 1))) (.cells #[.int .u32 a, .int .i64 k, .int .i64 xi, .int .i64 xr, .int .u32 xa, .int .i64 xn, .int .i64 xc] THf)
        have hca : ((wr.setCell ⟨t, 1, none⟩ (.int .i64 (s + 1))).alloc (.cells #[.int .u32 a, .int .i64 k, .int .i64 xi, .int .i64 xr, .int .u32 xa, .int .i64 xn, .int .i64 xc] THf)).cell? ⟨b, 0, none⟩ = some (.pointer none) := kept ha hb0
        have hfa : ((wr.setCell ⟨t, 1, none⟩ (.int .i64 (s + 1))).alloc (.cells #[.int .u32 a, .int .i64 k, .int .i64 xi, .int .i64 xr, .int .u32 xa, .int .i64 xn, .int .i64 xc] THf)).frozen? ⟨b, 0, none⟩ = false := (hnb'.alloc _).f 0
        have hsz : (wr.setCell ⟨t, 1, none⟩ (.int .i64 (s + 1))).heap.size = wr.heap.size := by simp [World.setCell]
        have HSZ := Lib.hid hsz
        clear ha hsome hnone htb hbt hbP htP hpb hnb hpb' hnb' hb0 hsz hxb hxb' hbQ htQ
        go_wp2_with fail
        go_ret
        exact HN.out.imp fun N hN => ⟨_, rfl, hN⟩
      · have HN := Lib.hid (hsome c rfl)
        rw [optP_some] at hc
        have hcf := hnb.f 0
        have ha := (newB wr (.cells #[.int .u32 a, .int .i64 k, .int .i64 xi, .int .i64 xr, .int .u32 xa, .int .i64 xn, .int .i64 xc] THf))
        have hca : (wr.alloc (.cells #[.int .u32 a, .int .i64 k, .int .i64 xi, .int .i64 xr, .int .u32 xa, .int .i64 xn, .int .i64 xc] THf)).cell? ⟨b, 0, none⟩ = some (.pointer (some ⟨c, 0, none⟩)) := kept ha hc
        have hfa : (wr.alloc (.cells #[.int .u32 a, .int .i64 k, .int .i64 xi, .int .i64 xr, .int .u32 xa, .int .i64 xn, .int .i64 xc] THf)).frozen? ⟨b, 0, none⟩ = false := (hnb.alloc _).f 0
        clear ha hsome hnone htb hbt hbP htP hpb hnb hxb hbQ htQ
        go_wp2_with fail
        go_ret
        exact HN.out.imp fun N hN => ⟨_, rfl, hN⟩
end Go.Proofs.Ytlkpalaakncicaa
