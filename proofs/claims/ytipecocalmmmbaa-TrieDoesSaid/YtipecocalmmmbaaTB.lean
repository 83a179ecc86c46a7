/- trie: Delete at int. -/
import Derived.Test.YtipecocalmmmbaaTA
namespace Go.Proofs.Ytipecocalmmmbaa
open Go.RowKit
set_option linter.unusedVariables false
set_option linter.unusedSimpArgs false

theorem drop_int (a : Int) (m : Nat) (hok : okP a m = true) (hm : m ≤ 32) (a0 : 0 ≤ a) (a1 : a < 4294967296) : ∀ (k d : Nat), d + k = m → ∀ (w : World) (B t r : Nat) (s : Int) (N : Int → Nat → Option Nat) (L : List TE) (b : Nat), TrAt TRi NDi THi w B t r s N L → N (mk a d) d = some b → (∃ c, N (mk a m) m = some c) →
    Calls Try.prog 41 #[.pointer (some ⟨b, 0, none⟩), .agg #[.int .u32 a, .int .i64 m], .int .i64 d] w fun e w' => ∃ N', e = .returned (.bool (goneB N' (delT L a m) (mk a d) d)) ∧ DropS TRi NDi THi w w' B t r s N L a m d N'
  | 0, d, hd, w, B, t, r, s, N, L, b, h, hb, _ => by
    obtain rfl : d = m := by omega
    exact drop_zero_int a d hok w B t r s N L b h hb
  | k + 1, d, hd, w, B, t, r, s, N, L, b, h, hb, hc => by
    refine drop_go_int a m hok hm a0 a1 d (by omega) (fun w B t r s N L b h hb hc => ?_) w B t r s N L b h hb hc
    have := drop_int a m hok hm a0 a1 k (d + 1) (by omega) w B t r s N L b h hb hc
    rwa [show (((d + 1 : Nat) : Int)) = (d : Int) + 1 from by omega] at this ⊢
/-- What Delete does behind drop. -/
theorem del_done {TR ND TH : TypeId} {w w1 w2 : World} {B t r : Nat} {N N' : Int → Nat → Option Nat} {L : List TE} {a : Int} {m : Nat} (hb : Below w.heap.size w w1) (h : TrAt TR ND TH w1 B t r L.length N L) (hs : (atT L a m).isSome = true) (hd : DropS TR ND TH w1 w2 B t r L.length N L a m 0 N') :
    SetR TR ND TH w (w2.setCell ⟨t, 1, none⟩ (.int .i64 ((L.length : Int) - 1))) B t r N L N' (delT L a m) := by
  have hlen : ((delT L a m).length : Int) = (L.length : Int) - 1 := by
    rw [len_del h.tl, if_pos hs]
    have : 0 < L.length := by
      rcases hc : atT L a m with _ | e
      · rw [hc] at hs; cases hs
      · exact List.length_pos_of_mem (atT_some hc).1
    omega
  refine ⟨?_, ((Turns.of_below hb).trans hd.turn).setCell (.inl (.inl rfl)) _, fun i hi => ?_⟩
  · rw [hlen]; exact hd.tr.resize _
  · rcases hi with rfl | ⟨x, d, hx⟩
    · exact .inl (.inl rfl)
    · exact .inl (.inr ⟨x, d, hd.sub _ _ _ hx⟩)
theorem del_not {TR ND TH : TypeId} {w w1 : World} {B t r : Nat} {N : Int → Nat → Option Nat} {L : List TE} {a n : Int} (h : TrAt TR ND TH w B t r L.length N L) (hb : Below w.heap.size w w1) (hs : atT L a n = none) : SetR TR ND TH w w1 B t r N L N (delT L a n) := by
  rw [del_none h.tl hs]
  exact ⟨h.below hb, .of_below hb, fun i hi => .inl hi⟩
set_option maxRecDepth 100000 in
set_option maxHeartbeats 8000000 in
theorem delete_int (w : World) (B t r : Nat) (N : Int → Nat → Option Nat) (L : List TE) (a n : Int) (h : TrAt TRi NDi THi w B t r L.length N L) (a0 : 0 ≤ a) (a1 : a < 4294967296) (hl : L.length ≤ 1000000) :
    Calls Try.prog 12 #[.pointer (some ⟨t, 0, none⟩), .agg #[.int .u32 a, .int .i64 n]] w fun e w' => ∃ N', e = .returned (.bool (atT L a n).isSome) ∧ SetR TRi NDi THi w w' B t r N L N' (delT L a n) := by
  have HA := Lib.hid (newB w (.cells #[.int .u32 a, .int .i64 n] 32))
  have hX := Blk.new w 32 [.int .u32 a, .int .i64 n]
  obtain ⟨V, hV⟩ : ∃ V, w.alloc (.cells #[.int .u32 a, .int .i64 n] 32) = V := ⟨_, rfl⟩
  have hX : Blk V w.heap.size 32 [.int .u32 a, .int .i64 n] := hV ▸ hX
  rw [hV] at HA
  have hT := h.below HA.out
  have HH := Lib.hid h
  have p0 : V.cell? ⟨w.heap.size, 0, none⟩ = some (.int .u32 a) := hX.cell 0 (by simp)
  have p1 : V.cell? ⟨w.heap.size, 1, none⟩ = some (.int .i64 n) := hX.cell 1 (by simp)
  have HX := Lib.hid hX
  have HT := Lib.hid hT
  have HV := Lib.hid hV
  have HG := Lib.hid (get_int V B t r _ N L hT a n a0 a1)
  have hll : (L.length : Int) ≤ 1000000 := by omega
  have hl0 : (0 : Int) ≤ (L.length : Int) := by omega
  clear hX hT hV h hl
  go_enter Try.func12, Try.ntmps12
  go_wp2_with fail
  rw [HV.out]
  refine HG.out.mono ?_
  rintro e w1 ⟨rfl, hb⟩
  have HB := Lib.hid (HA.out.trans (hb.mono HA.out.size))
  have HT1 := Lib.hid (HT.out.below hb)
  have hX1 := HX.out.next hb
  have q0 : w1.cell? ⟨w.heap.size, 0, none⟩ = some (.int .u32 a) := hX1.cell 0 (by simp)
  have q1 : w1.cell? ⟨w.heap.size, 1, none⟩ = some (.int .i64 n) := hX1.cell 1 (by simp)
  have hX1 := Lib.hid hX1
  clear hb p0 p1
  unfold gotV
  rcases hat : atT L a n with _ | x
  · have HR := Lib.hid (del_not HH.out HB.out hat)
    simp only [Option.isSome_none]
    have HAT := Lib.hid hat
    clear hat
    go_wp2_with fail
    go_ret
    exact ⟨N, by rw [HAT.out]; rfl, HR.out⟩
  · simp only [Option.isSome_some]
    obtain ⟨hx, ea, en⟩ := atT_some hat
    have ho := HT1.out.tl.ok x hx
    have hok := ho.ok
    rw [ea, en] at hok
    obtain ⟨m, rfl⟩ := Int.eq_ofNat_of_zero_le (okP_parts hok).2.1
    have hm32 : m ≤ 32 := by have := (okP_parts hok).2.2; omega
    obtain ⟨c, hc⟩ := (HT1.out.thing x hx).1
    rw [ea, en, Int.toNat_natCast] at hc
    have HAT := Lib.hid (show (atT L a m).isSome = true by rw [hat]; rfl)
    have HTD := Lib.hid (show TrAt TRi NDi THi w1.drew B t r L.length N L from HT1.out.drew)
    have HDR := Lib.hid (drop_int a m hok hm32 a0 a1 m 0 (by omega) w1.drew B t r _ N L r HTD.out (by rw [show mk a ((0 : Nat) : Int) = 0 from mk_zero a a0 a1]; exact HTD.out.root) ⟨c, by rw [mk_self hok]; exact hc⟩)
    have t0 : w1.cell? ⟨t, 0, none⟩ = some (.pointer (some ⟨r, 0, none⟩)) := HT1.out.tb.cell 0 (by simp)
    have T0 : w1.drew.cell? ⟨t, 0, none⟩ = some (.pointer (some ⟨r, 0, none⟩)) := t0
    have Q0 : w1.drew.cell? ⟨w.heap.size, 0, none⟩ = some (.int .u32 a) := q0
    have Q1 : w1.drew.cell? ⟨w.heap.size, 1, none⟩ = some (.int .i64 m) := q1
    have HBD := Lib.hid (show Below w.heap.size w w1.drew from HB.out.drew)
    clear hat hx ea en ho hok hc q0 q1 t0
    obtain ⟨s, hs⟩ : ∃ s : Int, (L.length : Int) = s := ⟨_, rfl⟩
    have HS := Lib.hid hs
    rw [hs] at hll hl0 HDR HTD
    clear hs
    go_wp2_with fail
    go_still_tail 5, (by kernel_rfl)
    change wpList _ _ _ _ _ w1.drew
    obtain ⟨U, hU⟩ : ∃ U, w1.drew = U := ⟨_, rfl⟩
    rw [hU] at HDR T0 Q0 Q1 HBD HTD ⊢
    clear hU
    go_wp2_with fail
    refine HDR.out.mono ?_
    rintro e w2 ⟨N', rfl, hD⟩
    have HD := Lib.hid (show SetR TRi NDi THi w (w2.setCell ⟨t, 1, none⟩ (.int .i64 (s - 1))) B t r N L N' (delT L a m) from by
      have := del_done HBD.out (by rw [HS.out]; exact HTD.out) HAT.out (by rw [HS.out]; exact hD)
      rw [HS.out] at this
      exact this)
    have t1 : w2.cell? ⟨t, 1, none⟩ = some (.int .i64 s) := hD.tr.tb.cell 1 (by simp)
    have f1 : w2.frozen? ⟨t, 1, none⟩ = false := hD.tr.tb.f 1
    clear hD T0 Q0 Q1
    go_wp2_with fail
    go_ret
    exact ⟨N', by rw [HAT.out]; rfl, HD.out⟩
end Go.Proofs.Ytipecocalmmmbaa
