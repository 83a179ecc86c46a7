/- QueueOrders: the walk. -/
import Derived.Test.YtbgofccnhehodaaQ6
namespace Go.Proofs.Ytbgofccnhehodaa
open Go.RowKit

/-- A slice of bytes as a row's cell. -/
structure Bs where
  q : Option Addr
  ys : List Int
  c : Nat
/-- Such slices in memory. -/
def BssAt (w : World) (a : Option Addr) (ls : List Bs) : Prop :=
  (∀ (i : Nat) (m : Bs), ls[i]? = some m → BytesAt w m.q m.ys ∧ m.ys.length ≤ m.c ∧ m.c ≤ maxLen) ∧ (ls = [] ∨ ∃ b off, a = some ⟨b, off, none⟩ ∧ ∀ (i : Nat) (m : Bs), ls[i]? = some m → w.cell? ⟨b, off + i, none⟩ = some (.slice m.q m.ys.length m.c))
theorem BssAt.below {w w' : World} {a : Option Addr} {ls : List Bs} (h : BssAt w a ls) (hb : Below w.heap.size w w') : BssAt w' a ls :=
  ⟨fun i m hi => ⟨(h.1 i m hi).1.below hb, (h.1 i m hi).2⟩, h.2.imp id fun ⟨b, off, e, hc⟩ => ⟨b, off, e, fun i m hi => kept hb (hc i m hi)⟩⟩

theorem Apart.symm {p q : Option Addr} (h : Apart p q) (hn : p.map (·.block) ≠ none) : Apart q p := by
  rcases h with e | e
  · exact absurd e hn
  · exact .inr (Ne.symm e)
theorem Apart.comm {p q : Option Addr} (h : Apart p q) : Apart q p ∨ p.map (·.block) = none := by
  rcases h with e | e
  · exact .inr e
  · exact .inl (.inr (Ne.symm e))
theorem Apart.flip {p q : Option Addr} (h : Apart p q) : Apart q p := by
  rcases hq : q.map (·.block) with _ | b
  · exact .inl hq
  · rcases h with e | e
    · right; rw [hq, e]; simp
    · exact .inr (Ne.symm e)
theorem QuP.grown {w w' : World} {g room : Nat} {xs : List Int} {p r : Option Addr} (h : QuP w g room xs p) (hg : w.grownBy w' (r.map (·.block))) (ha : Apart r p) (hr : r.map (·.block) ≠ some g) : QuP w' g room xs p :=
  h.of_same fun b hl hb => hg.block b hl (by
    rcases hb with rfl | hb
    · exact Ne.symm hr
    · rcases ha with e | e
      · rw [e]; simp
      · rw [← hb]; exact Ne.symm e)

/-- A queue, and two slices of one's own beside it. -/
structure St (w : World) (B g room : Nat) (xs I O : List Int) (p pi po : Option Addr) (ci co : Nat) : Prop where
  q : QuP w g room xs p
  i : Own w B pi ci I
  o : Own w B po co O
  aip : Apart pi p
  aop : Apart po p
  aio : Apart pi po
  gB : g < B
  hB : B ≤ w.heap.size
section
variable {w w' : World} {B g room : Nat} {xs I O : List Int} {p pi po : Option Addr} {ci co : Nat}
theorem St.next (h : St w B g room xs I O p pi po ci co) (hb : Below w.heap.size w w') : St w' B g room xs I O p pi po ci co :=
  ⟨h.q.next hb, h.i.below hb, h.o.below hb, h.aip, h.aop, h.aio, h.gB, Nat.le_trans h.hB hb.size⟩
theorem St.turn (h : St w B g room xs I O p pi po ci co) {p' : Option Addr} {xs' : List Int} (hk : QuK w w' g p p') (hq : QuP w' g room xs' p') : St w' B g room xs' I O p' pi po ci co :=
  ⟨hq, h.i.kept hk h.gB h.aip, h.o.kept hk h.gB h.aop, hk.apart h.aip fun b hb => (h.i.block_lt hb).2, hk.apart h.aop fun b hb => (h.o.block_lt hb).2, h.aio, h.gB, Nat.le_trans h.hB hk.below.size⟩
theorem apart_new {w : World} {B : Nat} {q r : Option Addr} {c : Nat} {xs : List Int} (h : Own w B q c xs) (hr : r = some ⟨w.heap.size, 0, none⟩) : Apart q r := by
  rcases hq : q.map (·.block) with _ | b
  · exact .inl hq
  · right; intro e; have := (h.block_lt hq).2; rw [hq, hr] at e; simp at e; omega
theorem St.appI (h : St w B g room xs I O p pi po ci co) {pi' : Option Addr} {ci' : Nat} {I' : List Int} (hg : w.grownBy w' (pi.map (·.block)) ∧ (pi' = pi ∨ pi' = some ⟨w.heap.size, 0, none⟩)) (hi : Own w' B pi' ci' I') : St w' B g room xs I' O p pi' po ci' co := by
  obtain ⟨hg, hp⟩ := hg
  have hng : pi.map (·.block) ≠ some g := fun e => by have := (h.i.block_lt e).1; have := h.gB; omega
  refine ⟨h.q.grown hg h.aip hng, hi, h.o.grown hg h.aio.flip, ?_, h.aop, ?_, h.gB, Nat.le_trans h.hB hg.size⟩
  · rcases hp with rfl | rfl
    · exact h.aip
    · refine Apart.flip ?_
      rcases hq : p.map (·.block) with _ | b
      · exact .inl hq
      · right; intro e; have := (h.q.ring_lt hq).2; rw [hq] at e; simp at e; omega
  · rcases hp with rfl | rfl
    · exact h.aio
    · exact (apart_new h.o rfl).flip
theorem St.appO (h : St w B g room xs I O p pi po ci co) {po' : Option Addr} {co' : Nat} {O' : List Int} (hg : w.grownBy w' (po.map (·.block)) ∧ (po' = po ∨ po' = some ⟨w.heap.size, 0, none⟩)) (ho : Own w' B po' co' O') : St w' B g room xs I O' p pi po' ci co' := by
  obtain ⟨hg, hp⟩ := hg
  have hng : po.map (·.block) ≠ some g := fun e => by have := (h.o.block_lt e).1; have := h.gB; omega
  refine ⟨h.q.grown hg h.aop hng, h.i.grown hg h.aio, ho, h.aip, ?_, ?_, h.gB, Nat.le_trans h.hB hg.size⟩
  · rcases hp with rfl | rfl
    · exact h.aop
    · refine Apart.flip ?_
      rcases hq : p.map (·.block) with _ | b
      · exact .inl hq
      · right; intro e; have := (h.q.ring_lt hq).2; rw [hq] at e; simp at e; omega
  · rcases hp with rfl | rfl
    · exact h.aio
    · exact apart_new h.i rfl
end

theorem own_text {w : World} {B : Nat} {p : Option Addr} {c n : Nat} {xs : List Int} (h : Own w B p c xs) (hn : xs.length = n) : (convert 30 9 (.slice p n c)).run Try.prog w = .ok (.string (strOfNums xs)) w := by
  subst hn; exact run_text h.bytes c
theorem takeN_le (k : Int) (l : Nat) : takeN k l ≤ l := by unfold takeN; omega
theorem stay_turn {W wr w3 : World} {g : Nat} {p p3 : Option Addr} (h : ∀ b, b < W.heap.size → b ≠ g → wr.heap[b]? = W.heap[b]?) (hs : W.heap.size ≤ wr.heap.size) (hp : ∀ b, p.map (·.block) = some b → W.heap.size ≤ b) (hk : QuK wr w3 g p p3) :
    (∀ b, b < W.heap.size → b ≠ g → w3.heap[b]? = W.heap[b]?) ∧ W.heap.size ≤ w3.heap.size ∧ (∀ b, p3.map (·.block) = some b → W.heap.size ≤ b) := by
  refine ⟨fun b hb hne => by rw [hk.keep b (by omega) hne (fun e => by have := hp b e; omega), h b hb hne], Nat.le_trans hs hk.below.size, fun b hb => ?_⟩
  rcases hk.new with e | e
  · exact hp b (e ▸ hb)
  · have := e b hb; omega
theorem stay_app {W wr w3 : World} {g : Nat} (h : ∀ b, b < W.heap.size → b ≠ g → wr.heap[b]? = W.heap[b]?) (hk : Below W.heap.size wr w3) : ∀ b, b < W.heap.size → b ≠ g → w3.heap[b]? = W.heap[b]? :=
  fun b hb hne => by rw [hk.block b hb, h b hb hne]
theorem take_len (xs : List Int) (k : Int) (h : xs.length ≤ 1000) : (xs.take (takeN k xs.length)).length ≤ 1000 := by simp; omega

theorem qorders_out (w : World) (a : Option Addr) (n c : Nat) (k : Int) (hn : 100 < n ∨ k < 1) :
    Calls Try.prog 4 #[.slice a n c, .int .i64 k] w fun e w' => e = .returned (.bool true) ∧ Below w.heap.size w w' := by
  have HL := Lib.hid (qlives_any w)
  by_cases h1 : 100 < n
  · have t1 : decide (100 < (n : Int)) = true := by simp; omega
    go_enter Try.func4, Try.ntmps4
    go_wp2_with (go_at_call 9; refine HL.out.mono ?_; rintro e w1 ⟨rfl, hb⟩; have HB := Lib.hid hb; clear hb)
    go_ret
    exact ⟨rfl, HB.out⟩
  · have t1 : decide (100 < (n : Int)) = false := by simp; omega
    have t2 : decide (k < 1) = true := by simp; omega
    go_enter Try.func4, Try.ntmps4
    go_wp2_with (go_at_call 9; refine HL.out.mono ?_; rintro e w1 ⟨rfl, hb⟩; have HB := Lib.hid hb; clear hb)
    go_ret
    exact ⟨rfl, HB.out⟩

/-- Behind i of the slices: what was put is what came out, and what waits. -/
def OrdR (W : World) (B g n : Nat) (vi vo v : Value) (wr : World) : Prop :=
  ∃ (j : Nat) (xs I O : List Int) (p pi po : Option Addr) (ci co : Nat), j ≤ n ∧ v = .int .i64 j ∧ vi = .slice pi I.length ci ∧ vo = .slice po O.length co ∧ St wr B g 1000 xs I O p pi po ci co ∧ I = O ++ xs ∧ I.length ≤ 1000 * j ∧ (∀ b, p.map (·.block) = some b → B ≤ b) ∧ Below g W wr ∧ ∀ b, b < W.heap.size → b ≠ g → wr.heap[b]? = W.heap[b]?

set_option maxHeartbeats 4000000 in
theorem qorders_in (w : World) (a : Option Addr) (ls : List Bs) (n c : Nat) (k : Int) (hb : BssAt w a ls) (hn : ls.length = n) (h1 : n ≤ 100) (h2 : 1 ≤ k) :
    Calls Try.prog 4 #[.slice a n c, .int .i64 k] w fun e w' => e = .returned (.bool true) ∧ Below w.heap.size w w' := by
  have t1 : decide (100 < (n : Int)) = false := by simp; omega
  have t2 : decide (k < 1) = false := by simp; omega
  have HX := Lib.hid hb
  have HN := Lib.hid (qnew_ok 1000 w (by omega))
  have HNN := Lib.hid hn
  clear hb hn
  go_enter Try.func4, Try.ntmps4
  go_wp2_with fail
  refine HN.out.mono ?_; rintro e w1 ⟨rfl, hq, hb⟩
  have HL := Lib.hid (qlives_any w1)
  have Q1 := Lib.hid hq
  have B1 := Lib.hid hb
  clear HN hq hb
  go_wp2_with fail
  refine HL.out.mono ?_; rintro e w2 ⟨rfl, hb⟩
  have Q2 := Lib.hid (Q1.out.next hb)
  have g1 := Q1.out.lt
  have B2 := Lib.hid (B1.out.trans (hb.mono (Nat.le_of_lt g1)))
  have hsz := hb.size
  have X2 := Lib.hid (HX.out.below B2.out)
  have g2 : w.heap.size < w2.heap.size := by omega
  clear hb HL Q1 B1
  go_wp2_with fail
  go_loopw [7, 8, 9] (fun vi vo v wr => OrdR w2 w2.heap.size w.heap.size n vi vo v wr) (fun _ _ v _ => n - (intOf v).toNat)
  case atStart => exact ⟨0, [], [], [], none, none, none, 0, 0, Nat.zero_le _, rfl, rfl, rfl, ⟨Q2.out, Own.nil _ _, Own.nil _ _, .inl rfl, .inl rfl, .inl rfl, g2, Nat.le_refl _⟩, rfl, by simp, (fun b h => by cases h), Below.refl _ _, fun _ _ _ => rfl⟩
  case round =>
    obtain ⟨j, xs, I, O, p, pi, po, ci, co, hj, rfl, rfl, rfl, hst, hio, hil, hpB, hbw, hsame⟩ := hrel
    have HPB := Lib.hid hpB
    have HST := Lib.hid hst
    have HIO := Lib.hid hio
    have HIL := Lib.hid hil
    have HBW := Lib.hid hbw
    have HSM := Lib.hid hsame
    have hol : O.length + xs.length = I.length := by rw [hio, List.length_append]
    have hxl := hst.q.size.1
    obtain ⟨il, hill⟩ : ∃ il, I.length = il := ⟨_, rfl⟩
    obtain ⟨ol, holl⟩ : ∃ ol, O.length = ol := ⟨_, rfl⟩
    rw [hill] at hol hil ⊢
    rw [holl] at hol ⊢
    have HLI := Lib.hid hill
    have HLO := Lib.hid holl
    clear hst hio hbw hsame hill holl hpB
    by_cases hlt : j < n
    · obtain ⟨m, hm⟩ : ∃ m, ls[j]? = some m := ⟨_, List.getElem?_eq_getElem (by have := HNN.out; omega)⟩
      obtain ⟨b, off, rfl, hcells⟩ : ∃ b off, a = some ⟨b, off, none⟩ ∧ ∀ (i : Nat) (m : Bs), ls[i]? = some m → w2.cell? ⟨b, off + i, none⟩ = some (.slice m.q m.ys.length m.c) := by
        rcases X2.out.2 with rfl | h
        · simp at hm
        · exact h
      have hcell0 := hcells j m hm
      have hbl := World.block_lt_of_cell? w2 _ hcell0
      have hbg : b < w.heap.size := by
        rcases HX.out.2 with rfl | ⟨b', off', e, hc'⟩
        · simp at hm
        · cases e; exact World.block_lt_of_cell? w _ (hc' j m hm)
      obtain ⟨hy0, hyc, hym⟩ := X2.out.1 j m hm
      obtain ⟨hyw, _, _⟩ := HX.out.1 j m hm
      have hbb : ∀ b', b' < w.heap.size → wr.heap[b']? = w2.heap[b']? := fun b' h => HSM.out b' (by omega) (by omega)
      have hcw : wr.cell? ⟨b, off + j, none⟩ = some (.slice m.q m.ys.length m.c) := (World.cell?_of_block (w := w2) (a := ⟨b, off + j, none⟩) (hbb b hbg)).trans hcell0
      have hyr : 0 < m.ys.length → ∀ b', m.q.map (·.block) = some b' → b' < w.heap.size := fun h0 => hyw.lt h0
      have YW : BytesAt wr m.q m.ys := by
        rcases Nat.eq_zero_or_pos m.ys.length with h0 | h0
        · rw [List.eq_nil_of_length_eq_zero h0]; exact BytesAt.nil _ _
        · exact hy0.same fun b' h => hbb b' (hyr h0 b' h)
      have hsep : 0 < m.ys.length → m.q.map (·.block) ≠ some w.heap.size ∧ Apart m.q p := fun h0 => ⟨fun e => by have := hyr h0 _ e; omega, by
        rcases hq : m.q.map (·.block) with _ | b'
        · exact .inl hq
        · right; intro e; have := hyr h0 b' hq; have := (HST.out.q.ring_lt (e.symm.trans hq)).1; omega⟩
      obtain ⟨yq, ys, yc⟩ := m
      simp only at *
      obtain ⟨l, hl⟩ : ∃ l, ys.length = l := ⟨_, rfl⟩
      rw [hl] at hcw hyc hsep
      have HY := Lib.hid YW
      have HYL := Lib.hid hl
      have HSEP := Lib.hid hsep
      have HCW := Lib.hid hcw
      have HBG := Lib.hid hbg
      have hl40 : l ≤ 9223372036854775807 := by unfold maxLen at hym; omega
      clear hcells hcell0 hbl hy0 hyw hbb hyr YW hsep hm hl hym X2
      have hjlt : decide ((j : Int) < (n : Int)) = true := by simp; omega
      by_cases hfit : xs.length + l ≤ 1000
      · have P := Lib.hid (qput_ok wr w.heap.size 1000 xs p HST.out.q yq ys l yc HY.out HYL.out hyc HSEP.out hfit)
        go_wp2_with fail
        refine P.out.mono ?_; rintro e w3 ⟨rfl, p3, hq3, hk3⟩
        have S3 := Lib.hid (HST.out.turn hk3 hq3)
        have Y3 := Lib.hid (hk3.bytes HY.out (by rw [HYL.out]; exact HSEP.out))
        have K3 := Lib.hid (stay_turn HSM.out HBW.out.size HPB.out hk3)
        have B3 := Lib.hid (HBW.out.trans hk3.below)
        have hc3 : w3.cell? ⟨b, off + j, none⟩ = some (.slice yq l yc) := (World.cell?_of_block (w := wr) (a := ⟨b, off + j, none⟩) (hk3.keep b (by have := World.block_lt_of_cell? wr _ HCW.out; exact this) (by have := HBG.out; omega) (fun e => by have := HPB.out b e; have := HBG.out; omega))).trans HCW.out
        have hl1000 : l ≤ 1000 := by omega
        clear hq3 hk3 P hcw
        go_wp2_with (refine wpList_appo (o := ⟨some 49, _, _, _, _, _⟩) (by rfl) (.tmp 44) (.tmp 48) (by rfl) w2.heap.size pi ci I S3.out.i il HLI.out (by rfl) yq l yc ys Y3.out HYL.out (by rfl) (il + l) (by omega) (by omega) S3.out.hB ?_; intro pi4 ci4 w4 hO4 hB4 hG4; have S4 := Lib.hid (S3.out.appI hG4.out hO4.out); have M4 := Lib.hid (stay_app K3.out.1 hB4.out); have B4 := Lib.hid (B3.out.trans (hB4.out.mono (Nat.le_of_lt g2))); clear hO4 hB4 hG4 hc3)
        obtain ⟨ts, hts⟩ : ∃ ts, (xs ++ ys).take (takeN k (xs ++ ys).length) = ts := ⟨_, rfl⟩
        obtain ⟨ds, hds⟩ : ∃ ds, (xs ++ ys).drop (takeN k (xs ++ ys).length) = ds := ⟨_, rfl⟩
        have hjoin : ts ++ ds = xs ++ ys := by rw [← hts, ← hds, List.take_append_drop]
        have htl : ts.length ≤ 1000 := by rw [← hts]; exact take_len _ k (S4.out.q.size.1)
        have hlj : ts.length + ds.length = (xs ++ ys).length := by rw [← hjoin, List.length_append]
        obtain ⟨tl, htll⟩ : ∃ tl, ts.length = tl := ⟨_, rfl⟩
        have hTK := qtake_any _ w.heap.size 1000 (xs ++ ys) _ S4.out.q k
        rw [hts, hds] at hTK
        have TK := Lib.hid hTK
        have HJ := Lib.hid hjoin
        have HTL := Lib.hid htll
        rw [htll] at htl hlj
        clear hts hds hjoin htll hTK
        go_wp2_with (first
          | (go_at_call 12; refine TK.out.mono ?_; rintro e w5 ⟨⟨r5, rfl, ho5⟩, hq5, hk5⟩; rw [HTL.out] at ho5 ⊢; have S5 := Lib.hid (S4.out.turn hk5 hq5); have R5 := Lib.hid ho5.bytes; have K5 := Lib.hid (stay_turn M4.out (by have := B4.out.size; exact this) K3.out.2.2 hk5); have B5 := Lib.hid (B4.out.trans hk5.below); clear ho5 hq5 hk5)
          | (refine wpList_appo (o := ⟨some 54, _, _, _, _, _⟩) (by rfl) (.tmp 50) (.tmp 53) (by rfl) w2.heap.size po co O S5.out.o ol HLO.out (by rfl) r5 tl tl ts R5.out HTL.out (by rfl) (ol + tl) (by omega) (by omega) S5.out.hB ?_; intro po6 co6 w6 hO6 hB6 hG6))
        have S6 := Lib.hid (S5.out.appO hG6.out hO6.out)
        have M6 := Lib.hid (stay_app K5.out.1 hB6.out)
        have B6 := Lib.hid (B5.out.trans (hB6.out.mono (Nat.le_of_lt g2)))
        go_roundw
        case rel =>
          refine ⟨j + 1, ds, I ++ ys, O ++ ts, _, _, po6, _, co6, by omega, by go_num, by rw [List.length_append, HLI.out, HYL.out], by rw [List.length_append, HLO.out, HTL.out], S6.out, ?_, ?_, K5.out.2.2, B6.out, M6.out⟩
          · rw [List.append_assoc, HJ.out, ← List.append_assoc, ← HIO.out]
          · rw [List.length_append, HLI.out, HYL.out]; omega
        case measure => simp [intOf]; omega
      · have P := Lib.hid (qput_no wr w.heap.size 1000 xs p HST.out.q yq l yc (by omega))
        go_wp2_with fail
        refine P.out.mono ?_; rintro e w4 ⟨rfl, hb4⟩
        have S4 := Lib.hid (HST.out.next hb4)
        have M4 := Lib.hid (stay_app HSM.out (hb4.mono HBW.out.size))
        have B4 := Lib.hid (HBW.out.trans (hb4.mono (by have := HBW.out.size; omega)))
        clear hb4 P hcw
        obtain ⟨ts, hts⟩ : ∃ ts, (xs).take (takeN k (xs).length) = ts := ⟨_, rfl⟩
        obtain ⟨ds, hds⟩ : ∃ ds, (xs).drop (takeN k (xs).length) = ds := ⟨_, rfl⟩
        have hjoin : ts ++ ds = xs := by rw [← hts, ← hds, List.take_append_drop]
        have htl : ts.length ≤ 1000 := by rw [← hts]; exact take_len _ k (S4.out.q.size.1)
        have hlj : ts.length + ds.length = (xs).length := by rw [← hjoin, List.length_append]
        obtain ⟨tl, htll⟩ : ∃ tl, ts.length = tl := ⟨_, rfl⟩
        have hTK := qtake_any _ w.heap.size 1000 (xs) _ S4.out.q k
        rw [hts, hds] at hTK
        have TK := Lib.hid hTK
        have HJ := Lib.hid hjoin
        have HTL := Lib.hid htll
        rw [htll] at htl hlj
        clear hts hds hjoin htll hTK
        go_wp2_with (first
          | (go_at_call 12; refine TK.out.mono ?_; rintro e w5 ⟨⟨r5, rfl, ho5⟩, hq5, hk5⟩; rw [HTL.out] at ho5 ⊢; have S5 := Lib.hid (S4.out.turn hk5 hq5); have R5 := Lib.hid ho5.bytes; have K5 := Lib.hid (stay_turn M4.out (by have := B4.out.size; exact this) HPB.out hk5); have B5 := Lib.hid (B4.out.trans hk5.below); clear ho5 hq5 hk5)
          | (refine wpList_appo (o := ⟨some 54, _, _, _, _, _⟩) (by rfl) (.tmp 50) (.tmp 53) (by rfl) w2.heap.size po co O S5.out.o ol HLO.out (by rfl) r5 tl tl ts R5.out HTL.out (by rfl) (ol + tl) (by omega) (by omega) S5.out.hB ?_; intro po6 co6 w6 hO6 hB6 hG6))
        have S6 := Lib.hid (S5.out.appO hG6.out hO6.out)
        have M6 := Lib.hid (stay_app K5.out.1 hB6.out)
        have B6 := Lib.hid (B5.out.trans (hB6.out.mono (Nat.le_of_lt g2)))
        go_roundw
        case rel =>
          refine ⟨j + 1, ds, I, O ++ ts, _, _, po6, _, co6, by omega, by go_num, by rw [HLI.out], by rw [List.length_append, HLO.out, HTL.out], S6.out, ?_, ?_, K5.out.2.2, B6.out, M6.out⟩
          · rw [List.append_assoc, HJ.out, ← HIO.out]
          · rw [HLI.out]; omega
        case measure => simp [intOf]; omega
    · obtain rfl : j = n := by omega
      have hjlt : decide ((j : Int) < (j : Int)) = false := by simp
      have tk : takeN 1000 xs.length = xs.length := by unfold takeN; omega
      have hTK := qtake_any _ w.heap.size 1000 xs _ HST.out.q 1000
      rw [tk, List.take_length, List.drop_length] at hTK
      obtain ⟨xl, hxll⟩ : ∃ xl, xs.length = xl := ⟨_, rfl⟩
      have HXL := Lib.hid hxll
      rw [hxll] at hol hxl
      have TK := Lib.hid hTK
      clear hTK tk hxll
      go_wp2_with (first
        | (go_at_call 12; refine TK.out.mono ?_; rintro e w5 ⟨⟨r5, rfl, ho5⟩, hq5, hk5⟩; rw [HXL.out] at ho5 ⊢; have S5 := Lib.hid (HST.out.turn hk5 hq5); have R5 := Lib.hid ho5.bytes; have B5 := Lib.hid (HBW.out.trans hk5.below); clear ho5 hq5 hk5)
        | (refine wpList_appo (o := ⟨some 58, _, _, _, _, _⟩) (by rfl) (.tmp 55) (.tmp 57) (by rfl) w2.heap.size po co O S5.out.o ol HLO.out (by rfl) r5 xl xl xs R5.out HXL.out (by rfl) (ol + xl) (by omega) (by omega) S5.out.hB ?_; intro po6 co6 w6 hO6 hB6 hG6; have S6 := Lib.hid (S5.out.appO hG6.out hO6.out); have B6 := Lib.hid (B5.out.trans (hB6.out.mono (Nat.le_of_lt g2)));
            have T1 : (convert 30 9 (.slice pi il ci)).run Try.prog w6 = .ok (.string (strOfNums I)) w6 := own_text S6.out.i HLI.out;
            have T2 : (convert 30 9 (.slice po6 il co6)).run Try.prog w6 = .ok (.string (strOfNums I)) w6 := own_text (HIO.out ▸ S6.out.o) HLI.out;
            clear hO6 hB6 hG6)
        | (go_at_call 15; refine (qlen_any w6 w.heap.size 1000 [] _ S6.out.q).mono ?_; rintro e w' ⟨rfl, rfl⟩)
        | (go_at_call 16; refine (qroom_any w6 w.heap.size 1000 [] _ S6.out.q).mono ?_; rintro e w7 ⟨rfl, hb7⟩; have B7 := Lib.hid (B6.out.trans (hb7.mono (by have := B6.out.size; have := S6.out.gB; have := S6.out.hB; omega))); clear hb7))
      go_ret
      exact ⟨rfl, B2.out.trans (B7.out.mono (Nat.le_refl _))⟩
theorem qorders_walk (w : World) (x : Option Addr × List Bs × Nat) (hx : BssAt w x.1 x.2.1) (k : Int) (_ : (Lit.int .i64 k).wf = true) :
    Calls Try.prog 4 #[.slice x.1 x.2.1.length x.2.2, .int .i64 k] w fun e w' => e = .returned (.bool true) ∧ Below w.heap.size w w' := by
  by_cases h : 100 < x.2.1.length ∨ k < 1
  · exact qorders_out w _ _ _ k h
  · exact qorders_in w _ _ _ _ k hx rfl (by omega) (by omega)
end Go.Proofs.Ytbgofccnhehodaa
