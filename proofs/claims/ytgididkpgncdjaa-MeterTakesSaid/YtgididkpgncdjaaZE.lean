/- meter: New, isClosed, room, rate. -/
import Derived.Test.YtgididkpgncdjaaZB
namespace Go.Proofs.Ytgididkpgncdjaa
open Go.RowKit Go.Maps
set_option linter.unusedVariables false
set_option linter.unusedSimpArgs false
set_option maxRecDepth 100000

theorem nil_look (x : Pf) (hx : InPf x) (w : World) :
    (Instr.lookup 60 (.map none) (pfV x) true).run Try.prog w = .ok (.tuple #[.int .i64 0, .bool false]) w ∧ (Instr.lookup 60 (.map none) (pfV x) false).run Try.prog w = .ok (.int .i64 0) w := by
  have hz := elIntC.zrun (w := w)
  rcases pk_law.find w (keyP_mk x hx) [] (fun e h => by cases h) with ⟨h1, _⟩ | ⟨j, e0, _, h2, _⟩
  · constructor <;> simp [Instr.lookup, run_underlying Try.underlying60, pk_law.check w true (keyP_mk x hx), h1, hz, Result.andThen]
  · simp at h2
theorem nil_len (ty : TypeId) (w : World) : (Builtin.len_ #[60] ty #[.map none]).run Try.prog w = .ok (.int .i64 0) w := by
  simp [Builtin.len_, run_underlying Try.underlying60, goInt]
section
variable {w : World} {B : Nat} {m : Option Nat} {f : Pf → Option Int}
theorem MapO.look_ok (h : MapO w B m f) {x : Pf} (hx : InPf x) : (Instr.lookup 60 (.map m) (pfV x) true).run Try.prog w = .ok (.tuple #[.int .i64 ((f x).getD 0), .bool (f x).isSome]) w := by
  rcases h with ⟨rfl, h⟩ | ⟨b, nn, s, rfl, _, _, _, h⟩
  · rw [h x]; exact (nil_look x hx w).1
  · exact h.look_ok Try.underlying60 hx
theorem MapO.look (h : MapO w B m f) {x : Pf} (hx : InPf x) : (Instr.lookup 60 (.map m) (pfV x) false).run Try.prog w = .ok (.int .i64 ((f x).getD 0)) w := by
  rcases h with ⟨rfl, h⟩ | ⟨b, nn, s, rfl, _, _, _, h⟩
  · rw [h x]; exact (nil_look x hx w).2
  · exact h.look Try.underlying60 hx
theorem MapO.len (h : MapO w B m f) : ∃ s : Nat, s ≤ 1024 ∧ ∀ ty, (Builtin.len_ #[60] ty #[.map m]).run Try.prog w = .ok (.int .i64 s) w := by
  rcases h with ⟨rfl, h⟩ | ⟨b, nn, s, rfl, _, _, hs, h⟩
  · exact ⟨0, by omega, fun ty => nil_len ty w⟩
  · exact ⟨s, hs, fun ty => h.len Try.underlying60 ty⟩
end
def P0 : Nat → Mp := fun _ => (none, none)
theorem fill_nil (p : Pf) : fillT [] p = none := rfl
theorem mnew_any (w : World) :
    Calls Try.prog 8 #[] w fun e w' => ∃ m b, e = .returned (.pointer (some ⟨m, 0, none⟩)) ∧ MtAt w' w.heap.size m b V0 P0 ∧ Below w.heap.size w w' := by
  have hcc : srcC V0 P0 = (List.replicate 16 [Value.int .i64 0, .int .i64 0, .bool false, .map none, .map none]).flatten := rfl
  have hb1 := newB w (.cells (srcC V0 P0).toArray SRf)
  have hX := Blk.new w SRf (srcC V0 P0)
  have hb2 := newB (w.alloc (.cells (srcC V0 P0).toArray SRf)) (.cells #[.pointer (some ⟨w.heap.size, 0, none⟩)] MEf)
  have hT := Blk.new (w.alloc (.cells (srcC V0 P0).toArray SRf)) MEf [.pointer (some ⟨w.heap.size, 0, none⟩)]
  rw [sz_alloc] at hT
  have HC := Lib.hid (show MtAt ((w.alloc (.cells (srcC V0 P0).toArray SRf)).alloc (.cells #[.pointer (some ⟨w.heap.size, 0, none⟩)] MEf)) w.heap.size (w.heap.size + 1) w.heap.size V0 P0 ∧ Below w.heap.size w ((w.alloc (.cells (srcC V0 P0).toArray SRf)).alloc (.cells #[.pointer (some ⟨w.heap.size, 0, none⟩)] MEf)) from
    ⟨⟨hT, hX.next hb2, fun i hi => .inl ⟨rfl, fun p => rfl⟩, fun i hi => .inl ⟨rfl, fun p => rfl⟩, okV0, by omega, Nat.le_refl _, by omega⟩, hb1.trans (hb2.mono hb1.size)⟩)
  rw [hcc] at HC
  clear hX hT hb1 hb2 hcc
  go_enter Try.func8, Try.ntmps8
  go_wp2
  go_ret
  exact ⟨_, _, rfl, HC.out⟩
theorem mclosed_any (w : World) (m b : Nat) (hc : w.cell? ⟨m, 0, none⟩ = some (.pointer (some ⟨b, 0, none⟩))) :
    Calls Try.prog 31 #[.pointer (some ⟨m, 0, none⟩)] w fun e w' => e = .returned (.bool false) ∧ w = w' := by
  go_enter Try.func31, Try.ntmps31
  go_wp2
  go_ret
  exact ⟨rfl, rfl⟩
theorem mclosed_nil (w : World) :
    Calls Try.prog 31 #[.pointer none] w fun e w' => e = .returned (.bool true) ∧ w = w' := by
  go_enter Try.func31, Try.ntmps31
  go_wp2
  go_ret
  exact ⟨rfl, rfl⟩
theorem ms_boxes {w : World} {g : Nat} {t : TypeId} {q a : Int} {h : Bool} {c r : Option Nat} (H : Blk w g t [.int .i64 q, .int .i64 a, .bool h, .map c, .map r]) : w.cell? ⟨g, 0, none⟩ = some (.int .i64 q) ∧ w.cell? ⟨g, 1, none⟩ = some (.int .i64 a) ∧ w.cell? ⟨g, 2, none⟩ = some (.bool h) ∧ w.cell? ⟨g, 3, none⟩ = some (.map c) ∧ w.cell? ⟨g, 4, none⟩ = some (.map r) :=
  ⟨H.cell 0 (by simp), H.cell 1 (by simp), H.cell 2 (by simp), H.cell 3 (by simp), H.cell 4 (by simp)⟩
set_option maxHeartbeats 4000000 in
/-- rate: how much more is counted. -/
theorem mrate_any (w : World) (B : Nat) (v : Mv) (p : Mp) (hv : OkMv v) (hc : MapO w B p.1 (fillT v.L)) (x : Ct) (hx : InCt x) (x0 : 0 ≤ x.c) (x1 : x.c ≤ 9007199254740991) (now : Int) (n0 : 0 ≤ now) (n1 : now ≤ 9007199254740991) :
    Calls Try.prog 48 #[.agg #[.int .i64 v.q, .int .i64 v.a, .bool v.h, .map p.1, .map p.2], ctV x, .int .i64 now] w fun e w' => e = .returned (.int .i64 (rateC v now x)) ∧ Below w.heap.size w w' := by
  obtain ⟨⟨xa, xn⟩, xc⟩ := x
  obtain ⟨c, r⟩ := p
  obtain ⟨q, a, h, L, R⟩ := v
  have ha0 := hv.a0
  have ha1 := hv.a1
  dsimp only at ha0 ha1 hc x0 x1
  have hb1 := newB w (.cells #[.int .i64 q, .int .i64 a, .bool h, .map c, .map r] 62)
  have hb2 := newB (w.alloc (.cells #[.int .i64 q, .int .i64 a, .bool h, .map c, .map r] 62)) (.cells #[.int .u32 xa, .int .i64 xn, .int .i64 xc] 67)
  have hX := (Blk.new w 62 [.int .i64 q, .int .i64 a, .bool h, .map c, .map r]).next hb2
  have hY := Blk.new (w.alloc (.cells #[.int .i64 q, .int .i64 a, .bool h, .map c, .map r] 62)) 67 [.int .u32 xa, .int .i64 xn, .int .i64 xc]
  rw [sz_alloc] at hY
  obtain ⟨s0, s1, s2, s3, s4⟩ := ms_boxes hX
  obtain ⟨y0, y1, y2⟩ := ct_boxes hY
  have hl := (((hc.below hb1).below hb2).look_ok (x := ⟨xa, xn⟩) hx)
  have HB := Lib.hid (hb1.trans (hb2.mono hb1.size))
  have hval : rateC ⟨q, a, h, L, R⟩ now ⟨⟨xa, xn⟩, xc⟩ = (match fillT L ⟨xa, xn⟩ with | none => 0 | some n => if now ≤ a ∨ xc < n then 0 else (xc - n) / (now - a)) := rfl
  rw [hval]
  clear hb1 hb2 hX hY hc hval
  rcases hf : fillT L ⟨xa, xn⟩ with _ | n
  · dsimp only
    rw [hf] at hl
    have hl : (Instr.lookup 60 (.map c) (.agg #[.int .u32 xa, .int .i64 xn]) true).run Try.prog ((w.alloc (.cells #[.int .i64 q, .int .i64 a, .bool h, .map c, .map r] 62)).alloc (.cells #[.int .u32 xa, .int .i64 xn, .int .i64 xc] 67)) = .ok (.tuple #[.int .i64 0, .bool false]) _ := hl
    go_enter Try.func48, Try.ntmps48
    go_wp2
    go_ret
    exact ⟨rfl, HB.out⟩
  · dsimp only
    have hn := hv.inL _ (fillT_in hf)
    have hn0 := hn.2.1
    have hn1 := hn.2.2
    dsimp only at hn0 hn1
    rw [hf] at hl
    have hl : (Instr.lookup 60 (.map c) (.agg #[.int .u32 xa, .int .i64 xn]) true).run Try.prog ((w.alloc (.cells #[.int .i64 q, .int .i64 a, .bool h, .map c, .map r] 62)).alloc (.cells #[.int .u32 xa, .int .i64 xn, .int .i64 xc] 67)) = .ok (.tuple #[.int .i64 n, .bool true]) _ := hl
    clear hn hv hf
    by_cases h1 : now ≤ a
    · have t1 : decide (now ≤ a) = true := decide_eq_true h1
      rw [if_pos (.inl h1)]
      clear h1
      go_enter Try.func48, Try.ntmps48
      go_wp2
      go_ret
      exact ⟨rfl, HB.out⟩
    · have t1 : decide (now ≤ a) = false := decide_eq_false h1
      by_cases h2 : xc < n
      · have t2 : decide (xc < n) = true := decide_eq_true h2
        rw [if_pos (.inr h2)]
        clear h1 h2
        go_enter Try.func48, Try.ntmps48
        go_wp2
        go_ret
        exact ⟨rfl, HB.out⟩
      · have t2 : decide (xc < n) = false := decide_eq_false h2
        have w1 : wrap64 (xc - n) = xc - n := IntWalk.wrap64_in _ (by omega)
        have w2 : wrap64 (now - a) = now - a := IntWalk.wrap64_in _ (by omega)
        have hd : now - a ≠ 0 := by omega
        have hq := IntWalk.i64_quo (xc - n) (now - a) (by omega)
        rw [if_neg (by omega)]
        obtain ⟨D, hD⟩ : ∃ D, now - a = D := ⟨_, rfl⟩
        obtain ⟨Z, hZ⟩ : ∃ Z, xc - n = Z := ⟨_, rfl⟩
        have hD1 : 1 ≤ D := by omega
        rw [hD] at w2 hd hq
        rw [hZ] at w1 hq
        rw [hD, hZ]
        clear h1 h2
        go_enter Try.func48, Try.ntmps48
        go_wp2
        go_ret
        exact ⟨rfl, HB.out⟩
end Go.Proofs.Ytgididkpgncdjaa
