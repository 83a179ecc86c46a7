/- queue: what must come of every program; a nil queue. -/
import Derived.Test.YtbgofccnhehodaaQ5
namespace Go.Proofs.Ytbgofccnhehodaa
open Go.RowKit

theorem qnew_bad (w : World) : Calls Try.prog 7 #[.int .i64 (-1)] w fun e w' => e = .returned (.tuple #[.pointer none, .int .i64 1]) ∧ w = w' := qnew_no (-1) w (by omega)
theorem lit2 (w : World) (x y : Int) (hx : 0 ≤ x ∧ x ≤ 255) (hy : 0 ≤ y ∧ y ≤ 255) : BytesAt (w.alloc (.cells #[.int .u8 x, .int .u8 y] 5)) (some ⟨w.heap.size, 0, none⟩) [x, y] :=
  (brow_new w [x, y]).bytes (inByte_all fun z hz => by simp at hz; omega)
theorem Own.kept {w w' : World} {g B : Nat} {p p' r : Option Addr} {cap : Nat} {xs : List Int} (h : Own w B r cap xs) (hk : QuK w w' g p p') (hg : g < B) (ha : Apart r p) : Own w' B r cap xs :=
  h.of_block hk.below.size fun b hb => hk.keep b (h.block_lt hb).2 (by have := (h.block_lt hb).1; omega) (by
    rcases ha with e | e
    · rw [e] at hb; cases hb
    · rw [← hb]; exact Ne.symm e)
theorem Own.apart {w : World} {B : Nat} {r p : Option Addr} {cap : Nat} {xs : List Int} (h : Own w B r cap xs) (hp : ∀ b, p.map (·.block) = some b → b < B) : Apart r p := by
  rcases hr : r.map (·.block) with _ | b
  · exact .inl hr
  · right; intro e
    have := (h.block_lt hr).1
    have := hp b (e.symm.trans hr)
    omega
theorem text1 : strOfNums [1] = ⟨#[1]⟩ := by rfl
theorem text3 : strOfNums ([2] ++ [5, 6]) = ⟨#[2, 5, 6]⟩ := by rfl

set_option maxRecDepth 100000 in
set_option maxHeartbeats 4000000 in
theorem qlives_any (w : World) : Calls Try.prog 9 #[] w fun e w' => e = .returned (.bool true) ∧ Below w.heap.size w w' := by
  have HN1 := Lib.hid (qnew_ok 3 w (by omega))
  go_enter Try.func9, Try.ntmps9
  go_wp2_with fail
  refine HN1.out.mono ?_; rintro e w1 ⟨rfl, hq, hb⟩
  have Q1 := Lib.hid hq
  have B1 := Lib.hid hb
  have g1 := hq.lt
  have A1 := Lib.hid (Below.refl w1.heap.size w1 |>.alloc (Nat.le_refl _) (.cells #[.int .u8 1, .int .u8 2] 5))
  have P2 := Lib.hid (qput_ok _ w.heap.size 3 [] none (hq.next A1.out) (some ⟨w1.heap.size, 0, none⟩) [1, 2] 2 2 (lit2 w1 1 2 (by omega) (by omega)) rfl (by omega) (fun _ => ⟨by simp; omega, .inr (by simp)⟩) (by simp))
  clear hq hb HN1
  go_wp2_with fail
  refine P2.out.mono ?_; rintro e w2 ⟨rfl, p2, hq, hk⟩
  have Q2 := Lib.hid hq
  have B2 := Lib.hid (B1.out.trans ((A1.out.mono (Nat.le_of_lt g1)).trans hk.below))
  have g2 := hq.lt
  have A2 := Lib.hid (Below.refl w2.heap.size w2 |>.alloc (Nat.le_refl _) (.cells #[.int .u8 3, .int .u8 4] 5))
  have P3 := Lib.hid (qput_no _ w.heap.size 3 _ p2 (hq.next A2.out) (some ⟨w2.heap.size, 0, none⟩) 2 2 (by simp))
  clear hq hk Q1 B1 g1 A1 P2
  go_wp2_with fail
  refine P3.out.mono ?_; rintro e w3 ⟨rfl, hb⟩
  have hb3 := A2.out.trans (hb.mono A2.out.size)
  have Q3 := Lib.hid (Q2.out.next hb3)
  have B3 := Lib.hid (B2.out.trans (hb3.mono (Nat.le_of_lt g2)))
  have P4 := Lib.hid (qtake_any w3 w.heap.size 3 _ p2 Q3.out 1)
  clear hb hb3 Q2 B2 g2 A2 P3
  go_wp2_with fail
  refine P4.out.mono ?_; rintro e w4 ⟨⟨r4, rfl, ho4⟩, hq, hk⟩
  rw [show ([] ++ [1, 2] : List Int).take (takeN 1 ([] ++ [1, 2] : List Int).length) = [1] by decide +kernel] at *
  rw [show ([] ++ [1, 2] : List Int).drop (takeN 1 ([] ++ [1, 2] : List Int).length) = [2] by decide +kernel] at *
  have Q4 := Lib.hid hq
  have B4 := Lib.hid (B3.out.trans hk.below)
  have O4 := Lib.hid ho4
  have L4 := Lib.hid (qlen_any w4 w.heap.size 3 [2] p2 hq)
  have R4 := Lib.hid (qroom_any w4 w.heap.size 3 [2] p2 hq)
  have g4 := hq.lt
  have g3 := Q3.out.lt
  have AP4 := Lib.hid (ho4.apart (p := p2) fun b h => (Q3.out.ring_lt h).2)
  clear ho4 hq hk Q3 B3 P4
  go_wp2_with (first
    | (go_at_call 15; refine L4.out.mono ?_; rintro e w' ⟨rfl, rfl⟩)
    | (go_at_call 16; refine R4.out.mono ?_; rintro e w5 ⟨rfl, hb⟩; have hq := Q4.out.next hb; have Q5 := Lib.hid hq; have O5 := Lib.hid (O4.out.below hb); have B5 := Lib.hid (B4.out.trans (hb.mono (Nat.le_of_lt g4))); have g5 := hq.lt; have hbs := hb.size;
        have A4 := Lib.hid (Below.refl w5.heap.size w5 |>.alloc (Nat.le_refl _) (.cells #[.int .u8 5, .int .u8 6] 5));
        have P5 := Lib.hid (qput_ok _ w.heap.size 3 [2] p2 (hq.next A4.out) (some ⟨w5.heap.size, 0, none⟩) [5, 6] 2 2 (lit2 w5 5 6 (by omega) (by omega)) rfl (by omega) (fun _ => ⟨by simp; omega, .inr (by
            intro e
            rcases hp : p2.map (·.block) with _ | b
            · rw [hp] at e; cases e
            · have := (hq.ring_lt hp).2; rw [hp] at e; simp at e; omega)⟩) (by simp));
        clear hb hq R4 L4 Q4 O4 B4)
    | (go_at_call 10; refine P5.out.mono ?_; rintro e w6 ⟨rfl, p6, hq, hk⟩))
  have hk6 := (QuK.of_below (p := p2) A4.out (Nat.le_of_lt g5)).trans hk
  have Q6 := Lib.hid hq
  have B6 := Lib.hid (B5.out.trans hk6.below)
  have O6 := Lib.hid (O5.out.kept hk6 g3 AP4.out)
  have AP6 := Lib.hid (hk6.apart AP4.out fun b h => (O5.out.block_lt h).2)
  have P7 := Lib.hid (qall_any w6 w.heap.size 3 _ p6 hq)
  have g6 := hq.lt
  clear hq hk hk6 Q5 B5 O5 AP4 A4 P5 hbs
  refine P7.out.mono ?_; rintro e w7 ⟨⟨r7, rfl, ho7⟩, hb⟩
  have Q7 := Lib.hid (Q6.out.next hb)
  have B7 := Lib.hid (B6.out.trans (hb.mono (Nat.le_of_lt g6)))
  have O7 := Lib.hid (O6.out.below hb)
  have X7 := Lib.hid ho7
  have AX7 := Lib.hid (ho7.apart (p := p6) fun b h => (Q6.out.ring_lt h).2)
  have P8 := Lib.hid (qclear_any w7 w.heap.size 3 _ p6 Q7.out)
  clear hb ho7 Q6 B6 O6 P7
  go_wp2_with fail
  refine P8.out.mono ?_; rintro e w8 ⟨rfl, hq, hk⟩
  have Q8 := Lib.hid hq
  have B8 := Lib.hid (B7.out.trans hk.below)
  have T8 : (convert 30 9 (.slice r4 1 1)).run Try.prog w8 = .ok (.string ⟨#[1]⟩) w8 := text1 ▸ run_text (O7.out.kept hk g3 AP6.out).bytes 1
  have S8 : (convert 30 9 (.slice r7 3 3)).run Try.prog w8 = .ok (.string ⟨#[2, 5, 6]⟩) w8 := text3 ▸ run_text (X7.out.kept hk g6 AX7.out).bytes 3
  have L8 := Lib.hid (qlen_any w8 w.heap.size 3 [] none hq)
  clear hq hk Q7 B7 O7 X7 AP6 AX7 P8
  go_wp2_with (first
    | (go_at_call 7; refine (qnew_bad _).mono ?_; rintro e w' ⟨rfl, rfl⟩)
    | (go_at_call 15; refine L8.out.mono ?_; rintro e w' ⟨rfl, rfl⟩))
  go_ret
  exact ⟨rfl, B8.out⟩
end Go.Proofs.Ytbgofccnhehodaa
