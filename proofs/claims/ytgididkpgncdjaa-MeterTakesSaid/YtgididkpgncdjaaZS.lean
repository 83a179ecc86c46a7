/- meter: Demands of a nil one; a list of numbers as an argument; sums. -/
import Derived.Test.YtgididkpgncdjaaZQ
import Derived.Test.YtgididkpgncdjaaZO
namespace Go.Proofs.Ytgididkpgncdjaa
open Go.ChangeShapes Go.WideShapes Go.ChangeAt Go.RowKit Go.Joins Go.Deep Go.Maps
set_option linter.unusedVariables false
set_option linter.unusedSimpArgs false
set_option maxRecDepth 100000

theorem mdemands_nil (w : World) : Calls Try.prog 19 #[.pointer none] w fun e w' => ∃ q cap, e = .returned (.slice q 0 cap) ∧ Below w.heap.size w w' := by
  have hmm := @run_makeMap Try.prog
  have hb1 := newB w (.map #[] 0)
  have hb2 := newB (w.alloc (.map #[] 0)) (.cells #[.map (some w.heap.size)] 60)
  have hm1 := (MapAt.fresh keyPfC elIntC w).next hb2
  have hg1 := Blk.new (w.alloc (.map #[] 0)) 60 [.map (some w.heap.size)]
  rw [sz_alloc] at hg1
  have g0 := hg1.cell 0 (by simp)
  simp only [List.getD_cons_zero] at g0
  have hb := hb1.trans (hb2.mono hb1.size)
  obtain ⟨U, hU⟩ : ∃ U, (w.alloc (.map #[] 0)).alloc (.cells #[.map (some w.heap.size)] 60) = U := ⟨_, rfl⟩
  rw [hU] at hm1 hb
  obtain ⟨D, hown, hheld⟩ : ∃ D, U.ownsMap Try.prog 25 (plainElem Try.prog 3) w.heap.size 0 D ∧ Held D [] := by
    obtain ⟨D, h1, _, h3⟩ := hm1
    exact ⟨D, h1, fun x hx => by rw [(h3 x hx).1]; simp⟩
  have hb3 := newB U (.cells #[.map (some w.heap.size)] 60)
  have hx3 := Blk.new U 60 [.map (some w.heap.size)]
  obtain ⟨W2, hW2⟩ : ∃ V, U.alloc (.cells #[.map (some w.heap.size)] 60) = V := ⟨_, rfl⟩
  have hs2 : W2.heap.size = U.heap.size + 1 := by rw [← hW2]; simp
  rw [hW2] at hb3 hx3
  have HSK := Lib.hid (sorted_keys U.heap.size w.heap.size 0 D [] hheld (fun p hp => by cases hp) W2 (by omega) (by omega) (by simp) (hx3.cell 0 (by simp)) (hW2 ▸ hown.alloc _))
  have HU := Lib.hid hU
  have HW2 := Lib.hid hW2
  have HB := Lib.hid (hb.trans (hb3.mono hb.size))
  clear hb hb1 hb2 hm1 hg1 hU hown hheld hb3 hx3 hW2 hs2
  go_enter Try.func19, Try.ntmps19
  go_wp2_with (first
    | (go_at_call 37; refine (meach_nil _ _).mono ?_; rintro e w' ⟨rfl, rfl⟩)
    | (go_at_call 40; refine (pfKeys_any _ _).mono ?_; rintro e w9 ⟨rfl, rfl⟩; rw [HU.out, HW2.out])
    | (go_at_call 39; refine HSK.out.mono ?_; rintro e W4 ⟨q, k, cap, ss, rfl, hk, hsrt, hb4⟩))
  have hss : ss = [] := by
    rcases ss with _ | ⟨x, t⟩
    · rfl
    · have := (hsrt.mem x).1 (by simp)
      cases this
  subst hss
  obtain rfl : 0 = k := hk
  have HB4 := Lib.hid (HB.out.trans (hb4.mono HB.out.size))
  clear hsrt hb4 g0 hmm
  refine wp_loop_rounds 1 ?_
  rw [rounds_succ]
  go_wp2_with fail
  go_ret
  exact ⟨_, _, rfl, HB4.out⟩
theorem rowInt : RowC 54 3 (fun n : Int => [.int .i64 n]) (fun n => (Lit.int .i64 n).wf = true) 0 (.int .i64 0) 1 8 where
  len x := rfl
  pos := by omega
  zs := rfl
  byl := by omega
  info := by kernel_rfl
  under := Try.underlying54
  elem := by kernel_rfl
  size w := by kernel_rfl
  one x u hu := by
    simp at hu
    subst hu
    rfl
abbrev NsAt (w : World) (p : Option Addr) (l : List Int) : Prop := LAt (fun n : Int => [Value.int .i64 n]) (fun n => (Lit.int .i64 n).wf = true) 0 1 w p l
structure NsArg (w : World) (x : Option Addr × List Int × Nat) : Prop where
  at_ : NsAt w x.1 x.2.1
  le : x.2.1.length ≤ x.2.2
  max : x.2.2 ≤ maxLen
theorem open_ints {H : Type} {enc : TypeId × Value → H} {w : World} {base b0 : Nat} {spare : Nat → Bool} {held : Bool} {r : Reach} {v : Value} {d : DataW H} {p : List MemPlace} (hv : Value.okWide Try.prog w r b0 54 v) (h : DataW.Trod enc Try.prog w base spare held 54 v d p) :
    ∃ x : Option Addr × List Int × Nat, v = .slice x.1 x.2.1.length x.2.2 ∧ NsArg w x := by
  obtain ⟨a0, len0, cap0, rfl⟩ := okWide_slice Try.underlying54 hv
  obtain ⟨fuel, hf⟩ := h
  obtain ⟨x, e, h1, _, h3, h4⟩ := open_listL rowInt inta_cells (okA := fun n => (Lit.int .i64 n).wf = true) (fun _ h => h) (fun fuel cs y hl h => by
    obtain ⟨c0, rfl⟩ : ∃ c0, cs = [c0] := by
      match cs, hl with
      | [c0], _ => exact ⟨c0, rfl⟩
    obtain ⟨a, e0, _, w0⟩ := DataW.trod_int Try.underlying3 h
    exact ⟨a, w0, e0⟩) (show DataW.trod enc Try.prog w base spare held fuel 54 [.slice a0 len0 cap0] = some (d, p) from hf)
  exact ⟨x, e, h1, h3, h4⟩
theorem near_sum {T c : Int} (hT : 0 ≤ T) (h0 : 0 ≤ c) (h1 : c ≤ 9007199254740991) : (9007199254740991 - near T < c → near (T + c) = 9007199254740991) ∧ (¬ 9007199254740991 - near T < c → near (T + c) = near T + c) := by
  unfold near
  constructor
  · intro h
    repeat' split at h
    all_goals (repeat' split) <;> omega
  · intro h
    repeat' split at h
    all_goals (repeat' split) <;> omega
theorem Lm.takeAs {w W : World} {m b : Nat} {V V' : Nat → Mv} (H : Lm w W m b V) (src seq : Int) (z : Option Addr) (L : List Ct) (n c : Nat) (hl : CtsAt W z L) (hn : L.length = n) (hm : n ≤ maxLen) (now : Int) (he : takeE V src seq L now = 0) (hv : takeV V src seq L now = V') :
    Calls Try.prog 12 #[.pointer (some ⟨m, 0, none⟩), .agg #[.int .i64 src, .int .i64 seq, .slice z n c], .int .i64 now] W fun e w' => e = .returned (.int .i64 0) ∧ Turns (fun x => x = b) W w' ∧ Lm w w' m b V' := by
  have h := H.take src seq z L n c hl hn hm now
  rw [he, hv] at h
  exact h
end Go.Proofs.Ytgididkpgncdjaa
