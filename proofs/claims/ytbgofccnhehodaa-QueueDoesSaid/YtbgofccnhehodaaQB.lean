/- QueueDoes: the walk. -/
import Derived.Test.YtbgofccnhehodaaQA
namespace Go.Proofs.Ytbgofccnhehodaa
open Go.RowKit

/-- One call. -/
structure Opq where
  k : Int
  n : Int
  q : Option Addr
  ys : List Int
  c : Nat
/-- Such calls in memory. -/
def OpsAt (w : World) (a : Option Addr) (ls : List Opq) : Prop :=
  (∀ (i : Nat) (m : Opq), ls[i]? = some m → BytesAt w m.q m.ys ∧ m.ys.length ≤ m.c ∧ m.c ≤ maxLen) ∧ (ls = [] ∨ ∃ b off, a = some ⟨b, off, none⟩ ∧ ∀ (i : Nat) (m : Opq), ls[i]? = some m → w.cell? ⟨b, off + i * 3, none⟩ = some (.int .i64 m.k) ∧ w.cell? ⟨b, off + i * 3 + 1, none⟩ = some (.int .i64 m.n) ∧ w.cell? ⟨b, off + i * 3 + 2, none⟩ = some (.slice m.q m.ys.length m.c))
theorem OpsAt.below {w w' : World} {a : Option Addr} {ls : List Opq} (h : OpsAt w a ls) (hb : Below w.heap.size w w') : OpsAt w' a ls :=
  ⟨fun i m hi => ⟨(h.1 i m hi).1.below hb, (h.1 i m hi).2⟩, h.2.imp id fun ⟨b, off, e, hc⟩ => ⟨b, off, e, fun i m hi => ⟨kept hb (hc i m hi).1, kept hb (hc i m hi).2.1, kept hb (hc i m hi).2.2⟩⟩⟩

/-- The queue and the document's, side by side. -/
structure Du (w : World) (g h room : Nat) (xs zs : List Int) (p px : Option Addr) : Prop where
  q : QuP w g room xs p
  x : RqP w h room zs px
  gh : g < h
  sep : p.map (·.block) ≠ some h
  apx : Apart px p
section
variable {w w' : World} {g h room : Nat} {xs zs : List Int} {p px : Option Addr}
theorem RqP.p_lt (hq : RqP w h room zs px) {b : Nat} (hb : px.map (·.block) = some b) : h < b ∧ b < w.heap.size := by
  obtain ⟨cap, h1, h2⟩ := hq
  exact h2.block_lt hb
theorem RqP.of_same (hq : RqP w h room zs px) (hs : w.heap.size ≤ w'.heap.size) (hb : ∀ b, b < w.heap.size → b = h ∨ px.map (·.block) = some b → w'.heap[b]? = w.heap[b]?) : RqP w' h room zs px := by
  obtain ⟨cap, h1, h2⟩ := hq
  exact ⟨cap, h1.of_same (hb h h1.lt (.inl rfl)), h2.of_block hs fun b hp => hb b (h2.block_lt hp).2 (.inr hp)⟩
theorem Du.next (d : Du w g h room xs zs p px) (hb : Below w.heap.size w w') : Du w' g h room xs zs p px := ⟨d.q.next hb, d.x.next hb, d.gh, d.sep, d.apx⟩
theorem Du.turnQ (d : Du w g h room xs zs p px) {p' : Option Addr} {xs' : List Int} (hk : QuK w w' g p p') (hq : QuP w' g room xs' p') : Du w' g h room xs' zs p' px := by
  refine ⟨hq, d.x.of_same hk.below.size fun b hl hb => ?_, d.gh, ?_, hk.apart d.apx fun b hb => (d.x.p_lt hb).2⟩
  · rcases hb with rfl | hb
    · exact hk.keep b hl (by have := d.gh; omega) d.sep
    · refine hk.keep b hl (by have := (d.x.p_lt hb).1; have := d.gh; omega) fun e => ?_
      rcases d.apx with e2 | e2
      · rw [e2] at hb; cases hb
      · exact e2 (by rw [hb, e])
  · intro e
    rcases hk.new with e2 | e2
    · exact d.sep (e2 ▸ e)
    · have := e2 h e; have := d.x.lt; omega
theorem Du.turnX (d : Du w g h room xs zs p px) {px' : Option Addr} {zs' : List Int} (hk : RqK w w' h px px') (hx : RqP w' h room zs' px') : Du w' g h room xs zs' p px' := by
  refine ⟨d.q.of_same fun b hl hb => hk.keep b hl ?_, hx, d.gh, d.sep, ?_⟩
  · rcases hb with rfl | hb
    · have := d.gh; omega
    · intro e; exact d.sep (e ▸ hb)
  · rcases hk.new with rfl | e
    · exact d.apx
    · refine Apart.flip ?_
      rcases hp : p.map (·.block) with _ | b
      · exact .inl hp
      · right; intro e2; have := (d.q.ring_lt hp).2; have := e b (e2.symm.trans hp); omega
theorem Du.clearX (d : Du w g h room xs zs p px) : Du (w.setCell ⟨h, 0, none⟩ (.slice none 0 0)) g h room xs [] p none := by
  have hx := d.x
  obtain ⟨cap, h1, h2⟩ := hx
  exact d.turnX (px' := none) ⟨Below.setCell (B := h) (p := ⟨h, 0, none⟩) (Below.refl _ _) (Nat.le_refl _) _, fun b _ hne => Below.heap_setCell _ _ _ _ hne, .inr fun b hb => by cases hb⟩ ⟨0, h1.set 0 (.slice none 0 0), Own.nil _ _⟩
theorem Du.text (d : Du w g h room xs zs p px) : ∃ cap, w.cell? ⟨h, 0, none⟩ = some (.slice px zs.length cap) ∧ (convert 30 9 (.slice px zs.length cap)).run Try.prog w = .ok (.string (strOfNums zs)) w := by
  obtain ⟨cap, h1, h2⟩ := d.x
  exact ⟨cap, h1.cell 0 (by simp), run_text h2.bytes cap⟩
end
theorem piece_text {w : World} {B : Nat} {r : Option Addr} {c n : Nat} {xs : List Int} (h : Own w B r c xs) (hn : xs.length = n) : (convert 30 9 (.slice r n c)).run Try.prog w = .ok (.string (strOfNums xs)) w := own_text h hn

theorem Du.drew {w : World} {g h room : Nat} {xs zs : List Int} {p px : Option Addr} (d : Du w g h room xs zs p px) : Du w.drew g h room xs zs p px := d.next (Below.refl _ _).drew
/-- The document's bytes, as the law looks at them, in any later world that leaves them. -/
theorem xbox_drew {w : World} {g h room n : Nat} {xs zs : List Int} {p px : Option Addr} {cap : Nat} {S : ByteArray} (d : Du w g h room xs zs p px) (hn : zs.length = n) (hS : strOfNums zs = S) (hc : w.cell? ⟨h, 0, none⟩ = some (.slice px n cap)) :
    w.drew.cell? ⟨h, 0, none⟩ = some (.slice px n cap) ∧ (convert 30 9 (.slice px n cap)).run Try.prog w.drew = .ok (.string S) w.drew := by
  obtain ⟨cap', h1, h2⟩ := d.x
  have h0 := h1.cell 0 (by simp)
  rw [hc, hn] at h0
  obtain rfl : cap = cap' := by simpa using h0
  subst hn hS
  exact ⟨hc, run_text h2.drew.bytes cap⟩
theorem xbox_next {w w' : World} {g h room n : Nat} {xs zs : List Int} {p px : Option Addr} {cap : Nat} {S : ByteArray} (d : Du w g h room xs zs p px) (hn : zs.length = n) (hS : strOfNums zs = S)
    (hs : w.drew.cell? ⟨h, 0, none⟩ = some (.slice px n cap) ∧ (convert 30 9 (.slice px n cap)).run Try.prog w.drew = .ok (.string S) w.drew) (hb : Below w.drew.heap.size w.drew w') :
    w'.cell? ⟨h, 0, none⟩ = some (.slice px n cap) ∧ (convert 30 9 (.slice px n cap)).run Try.prog w' = .ok (.string S) w' := by
  obtain ⟨cap', h1, h2⟩ := d.drew.x
  have h0 := h1.cell 0 (by simp)
  rw [hs.1, hn] at h0
  obtain rfl : cap = cap' := by simpa using h0
  subst hn hS
  exact ⟨kept hb hs.1, run_text (h2.below hb).bytes cap⟩

/-- Behind some calls: both hold the same. -/
def DoR (w : World) (g h room n : Nat) (v : Value) (wr : World) : Prop :=
  ∃ (j : Nat) (xs : List Int) (p px : Option Addr), j ≤ n ∧ v = .int .i64 j ∧ Du wr g h room xs xs p px ∧ Below g w wr

theorem qdoes_out (w : World) (r : Int) (a : Option Addr) (n c : Nat) (hr : r < 0 ∨ 65536 < r) :
    Calls Try.prog 3 #[.int .i64 r, .slice a n c] w fun e w' => e = .returned (.bool true) ∧ Below w.heap.size w w' := by
  have HL := Lib.hid (qlives_any w)
  have HN := Lib.hid (qnew_no r w hr)
  have HR := Lib.hid (rnew_no r w hr)
  go_enter Try.func3, Try.ntmps3
  go_wp2_with (first
    | (go_at_call 7; refine HN.out.mono ?_; rintro e w1 ⟨rfl, rfl⟩)
    | (go_at_call 8; refine HR.out.mono ?_; rintro e w1 ⟨rfl, rfl⟩)
    | (go_at_call 9; refine HL.out.mono ?_; rintro e w1 ⟨rfl, hb⟩; have HB := Lib.hid hb; clear hb))
  go_loopw [8] (fun v wr => v = .int .i64 0 ∧ Below w.heap.size w wr) (fun _ _ => 0)
  case atStart => exact ⟨rfl, HB.out⟩
  case round =>
    obtain ⟨rfl, hB⟩ := hrel
    have HB2 := Lib.hid hB
    clear hB
    by_cases h0 : n = 0
    · subst h0
      go_wp2_with fail
      go_ret
      exact ⟨rfl, HB2.out⟩
    · have t0 : decide ((0 : Int) < (n : Int)) = true := by simp; omega
      go_wp2_with fail
      go_ret
      exact ⟨rfl, HB2.out⟩

set_option maxRecDepth 100000 in
set_option maxHeartbeats 8000000 in
theorem qdoes_in (w : World) (r : Nat) (a : Option Addr) (ls : List Opq) (n c : Nat) (hb : OpsAt w a ls) (hn : ls.length = n) (hr : r ≤ 65536) :
    Calls Try.prog 3 #[.int .i64 (r : Int), .slice a n c] w fun e w' => e = .returned (.bool true) ∧ Below w.heap.size w w' := by
  have HX := Lib.hid hb
  have HN := Lib.hid (qnew_ok r w hr)
  have HNN := Lib.hid hn
  clear hb hn
  go_enter Try.func3, Try.ntmps3
  go_wp2_with fail
  refine HN.out.mono ?_; rintro e w1 ⟨rfl, hq, hb⟩
  have HR := Lib.hid (rnew_ok r w1 hr)
  have Q1 := Lib.hid hq
  have B1 := Lib.hid hb
  have g1 := hq.lt
  clear HN hq hb
  go_wp2_with fail
  refine HR.out.mono ?_; rintro e w2 ⟨rfl, hx, hb⟩
  have HL := Lib.hid (qlives_any w2)
  have D2 : Du w2 w.heap.size w1.heap.size r [] [] none none := ⟨Q1.out.next hb, hx, g1, by simp, .inl rfl⟩
  have B2 := Lib.hid (B1.out.trans (hb.mono (Nat.le_of_lt g1)))
  have g2 := hx.lt
  have DD2 := Lib.hid D2
  clear HR hx hb D2 Q1 B1
  go_wp2_with fail
  refine HL.out.mono ?_; rintro e w3 ⟨rfl, hb⟩
  have D3 := Lib.hid (DD2.out.next hb)
  have B3 := Lib.hid (B2.out.trans (hb.mono (by omega)))
  have g3 := hb.size
  clear hb HL DD2 B2
  go_wp2_with fail
  go_loopw [8, 9] (fun v _ wr => DoR w w.heap.size w1.heap.size r n v wr) (fun v _ _ => n - (intOf v).toNat)
  case atStart => exact ⟨0, [], none, none, Nat.zero_le _, rfl, D3.out, B3.out⟩
  case round =>
    obtain ⟨j, xs, p, px, hj, rfl, hd, hbw⟩ := hrel
    have HD := Lib.hid hd
    have HB := Lib.hid hbw
    have hxl := hd.q.size.1
    have hgw : w.heap.size < wr.heap.size := hd.q.lt
    have hhw : w1.heap.size < wr.heap.size := hd.x.lt
    clear hd hbw
    by_cases hend : n ≤ j ∨ 200 ≤ j
    · by_cases hlt : j < n
      · have t1 : decide ((j : Int) < (n : Int)) = true := by simp; omega
        have t2 : decide ((j : Int) < 200) = false := by simp; omega
        go_wp2_with fail
        go_ret
        exact ⟨rfl, HB.out⟩
      · have t1 : decide ((j : Int) < (n : Int)) = false := by simp; omega
        go_wp2_with fail
        go_ret
        exact ⟨rfl, HB.out⟩
    · have hlt : j < n := by omega
      have t1 : decide ((j : Int) < (n : Int)) = true := by simp; omega
      have t2 : decide ((j : Int) < 200) = true := by simp; omega
      obtain ⟨m, hm⟩ : ∃ m, ls[j]? = some m := ⟨_, List.getElem?_eq_getElem (by have := HNN.out; omega)⟩
      obtain ⟨b, off, rfl, hcells⟩ : ∃ b off, a = some ⟨b, off, none⟩ ∧ ∀ (i : Nat) (m : Opq), ls[i]? = some m → w.cell? ⟨b, off + i * 3, none⟩ = some (.int .i64 m.k) ∧ w.cell? ⟨b, off + i * 3 + 1, none⟩ = some (.int .i64 m.n) ∧ w.cell? ⟨b, off + i * 3 + 2, none⟩ = some (.slice m.q m.ys.length m.c) := by
        rcases HX.out.2 with rfl | h
        · simp at hm
        · exact h
      obtain ⟨hc0, hc1, hc2⟩ := hcells j m hm
      have hbg := World.block_lt_of_cell? w _ hc0
      obtain ⟨hy0, hyc, hym⟩ := HX.out.1 j m hm
      obtain ⟨ok, on, yq, ys, yc⟩ := m
      dsimp only at hc0 hc1 hc2 hy0 hyc hym
      have CE := Lib.hid (fun (u : World) (hu : Below w.heap.size w u) => And.intro (kept hu hc0) (And.intro (kept hu hc1) (kept hu hc2)))
      have YE := Lib.hid (fun (u : World) (hu : Below w.heap.size w u) => hy0.below hu)
      have hyl := hy0.lt
      obtain ⟨l, hl⟩ : ∃ l, ys.length = l := ⟨_, rfl⟩
      rw [hl] at CE hyc hyl
      have HYL := Lib.hid hl
      have HSEP := Lib.hid (fun (h0 : 0 < l) => show yq.map (·.block) ≠ some w.heap.size ∧ Apart yq p from ⟨fun e => by have := hyl h0 _ e; omega, by
        rcases hq : yq.map (·.block) with _ | b'
        · exact .inl hq
        · right; intro e; have := hyl h0 b' hq; have := (HD.out.q.ring_lt (e.symm.trans hq)).1; omega⟩)
      have hl40 : l ≤ 9223372036854775807 := by unfold maxLen at hym; omega
      clear hcells hc0 hc1 hc2 hy0 hyl hl hm
      obtain ⟨c0, c1, c2⟩ := CE.out wr HB.out
      by_cases hbig : 70000 < l
      · have t3 : decide ((70000 : Int) < (l : Int)) = true := by simp; omega
        go_wp2_with fail
        go_roundw
        case rel => exact ⟨j + 1, xs, p, px, by omega, by go_num, HD.out, HB.out⟩
        case measure => simp [intOf]; omega
      · have t3 : decide ((70000 : Int) < (l : Int)) = false := by simp; omega
        by_cases k1 : ok = 1
        · subst k1
          have HDD := Lib.hid HD.out.drew
          have HBD := Lib.hid (HB.out.trans (Below.refl _ _).drew)
          have hS1 : wr.drew.cell? ⟨b, off + j * 3 + 2, none⟩ = some (.slice yq l yc) := c2
          go_wp2_with fail
          clear c0 c1 c2
          by_cases hfit : xs.length + l ≤ r
          · have P1 := Lib.hid (qput_ok wr.drew w.heap.size r xs p HDD.out.q yq ys l yc (YE.out _ HBD.out) HYL.out hyc HSEP.out hfit)
            go_region_held_law (fun w' => w'.cell? ⟨b, off + j * 3 + 2, none⟩ = some (.slice yq l yc)) (with_reducible assumption) (first
              | (go_at_call 10; refine P1.out.mono ?_; rintro e w4 ⟨rfl, p4, hq4, hk4⟩; have D4 := Lib.hid (HDD.out.turnQ hk4 hq4); have B4 := Lib.hid (HBD.out.trans hk4.below); have hS4 := (CE.out w4 B4.out).2.2; have P2 := Lib.hid (rput_ok w4 w1.heap.size r xs px D4.out.x hr yq ys l yc (YE.out _ B4.out) HYL.out hfit))
              | (go_at_call 11; refine P2.out.mono ?_; rintro e w5 ⟨rfl, px5, hx5, hk5⟩; have D5 := Lib.hid (D4.out.turnX hk5 hx5); have B5 := Lib.hid (B4.out.trans (hk5.below.mono (Nat.le_of_lt D4.out.gh))); have hS5 := (CE.out w5 B5.out).2.2))
            clear hS1 hS4 hS5 P1 P2
            go_wp2_with fail
            obtain ⟨xcap, hxc, hxt⟩ := D5.out.text
            obtain ⟨xl, hxll⟩ : ∃ xl, (xs ++ ys).length = xl := ⟨_, rfl⟩
            have HXL := Lib.hid hxll
            have PL := Lib.hid (qlen_any w5.drew w.heap.size r (xs ++ ys) p4 (D5.out.q.drew))
            have PR := Lib.hid (qroom_any w5.drew w.heap.size r (xs ++ ys) p4 (D5.out.q.drew))
            have hxlr := D5.out.q.size.1
            rw [hxll] at hxc hxt PL PR hxlr
            have hwr : IntKind.i64.wrap ((r : Int) - xl) = (r : Int) - xl := by rw [IntKind.wrap_i64]; omega
            obtain ⟨S, hSS⟩ : ∃ S, strOfNums (xs ++ ys) = S := ⟨_, rfl⟩
            have HSS := Lib.hid hSS
            rw [hSS] at hxt
            have hS : w5.drew.cell? ⟨w1.heap.size, 0, none⟩ = some (.slice px5 xl xcap) ∧ (convert 30 9 (.slice px5 xl xcap)).run Try.prog w5.drew = .ok (.string S) w5.drew := xbox_drew D5.out HXL.out HSS.out hxc
            clear hxll hSS hxt hxc
            clear HX HNN D3 B3 CE YE HYL HSEP
            try clear HDD HBD
            try clear D4 B4
            try clear HTK HZ HKK O4 T4 T5 T6
            try clear HZL
            go_region_held_law (fun w' => w'.cell? ⟨w1.heap.size, 0, none⟩ = some (.slice px5 xl xcap) ∧ (convert 30 9 (.slice px5 xl xcap)).run Try.prog w' = .ok (.string S) w') (with_reducible assumption) (first
              | (go_at_call 15; refine PL.out.mono ?_; rintro e w' ⟨rfl, rfl⟩)
              | (go_at_call 16; refine PR.out.mono ?_; rintro e w6 ⟨rfl, hb6⟩; have hS6 := xbox_next D5.out HXL.out HSS.out hS hb6; have PA := Lib.hid (qall_any w6 w.heap.size r (xs ++ ys) p4 ((D5.out.q.drew).next hb6)))
              | (go_at_call 17; refine PA.out.mono ?_; rintro e w7 ⟨⟨r7, rfl, ho7⟩, hb7⟩; rw [HXL.out] at ho7 ⊢; have hS7 := xbox_next D5.out HXL.out HSS.out hS (hb6.trans (hb7.mono hb6.size)); have T7 : (convert 30 9 (.slice r7 xl xl)).run Try.prog w7 = .ok (.string S) w7 := HSS.out ▸ own_text ho7 HXL.out))
            have D7 := (D5.out.drew.next hb6).next hb7
            have B7 := (((B5.out.trans (Below.refl _ _).drew).trans (hb6.mono (Nat.le_of_lt (D5.out.drew.q.lt)))).trans (hb7.mono (Nat.le_of_lt (D5.out.drew.next hb6).q.lt)))
            go_wp2_with fail
            go_roundw
            case rel => exact ⟨j + 1, _, _, _, by omega, by go_num, D7, B7⟩
            case measure => simp [intOf]; omega
          · have P1 := Lib.hid (qput_no wr.drew w.heap.size r xs p HDD.out.q yq l yc (by omega))
            go_region_held_law (fun w' => w'.cell? ⟨b, off + j * 3 + 2, none⟩ = some (.slice yq l yc)) (with_reducible assumption) (first
              | (go_at_call 10; refine P1.out.mono ?_; rintro e w4 ⟨rfl, hb4⟩; have D4 := Lib.hid (HDD.out.next hb4); have B4 := Lib.hid (HBD.out.trans (hb4.mono (Nat.le_of_lt hgw))); have hS4 := (CE.out w4 B4.out).2.2; have P2 := Lib.hid (rput_no w4 w1.heap.size r xs px D4.out.x hr hxl yq l yc (by omega) (by omega)))
              | (go_at_call 11; refine P2.out.mono ?_; rintro e w5 ⟨rfl, hb5⟩; have D5 := Lib.hid (D4.out.next hb5); have B5 := Lib.hid (B4.out.trans (hb5.mono (Nat.le_of_lt D4.out.q.lt))); have hS5 := (CE.out w5 B5.out).2.2))
            clear hS1 hS4 hS5 P1 P2
            go_wp2_with fail
            obtain ⟨xcap, hxc, hxt⟩ := D5.out.text
            obtain ⟨xl, hxll⟩ : ∃ xl, (xs).length = xl := ⟨_, rfl⟩
            have HXL := Lib.hid hxll
            have PL := Lib.hid (qlen_any w5.drew w.heap.size r (xs) p (D5.out.q.drew))
            have PR := Lib.hid (qroom_any w5.drew w.heap.size r (xs) p (D5.out.q.drew))
            have hxlr := D5.out.q.size.1
            rw [hxll] at hxc hxt PL PR hxlr
            have hwr : IntKind.i64.wrap ((r : Int) - xl) = (r : Int) - xl := by rw [IntKind.wrap_i64]; omega
            obtain ⟨S, hSS⟩ : ∃ S, strOfNums (xs) = S := ⟨_, rfl⟩
            have HSS := Lib.hid hSS
            rw [hSS] at hxt
            have hS : w5.drew.cell? ⟨w1.heap.size, 0, none⟩ = some (.slice px xl xcap) ∧ (convert 30 9 (.slice px xl xcap)).run Try.prog w5.drew = .ok (.string S) w5.drew := xbox_drew D5.out HXL.out HSS.out hxc
            clear hxll hSS hxt hxc
            clear HX HNN D3 B3 CE YE HYL HSEP
            try clear HDD HBD
            try clear D4 B4
            try clear HTK HZ HKK O4 T4 T5 T6
            try clear HZL
            go_region_held_law (fun w' => w'.cell? ⟨w1.heap.size, 0, none⟩ = some (.slice px xl xcap) ∧ (convert 30 9 (.slice px xl xcap)).run Try.prog w' = .ok (.string S) w') (with_reducible assumption) (first
              | (go_at_call 15; refine PL.out.mono ?_; rintro e w' ⟨rfl, rfl⟩)
              | (go_at_call 16; refine PR.out.mono ?_; rintro e w6 ⟨rfl, hb6⟩; have hS6 := xbox_next D5.out HXL.out HSS.out hS hb6; have PA := Lib.hid (qall_any w6 w.heap.size r (xs) p ((D5.out.q.drew).next hb6)))
              | (go_at_call 17; refine PA.out.mono ?_; rintro e w7 ⟨⟨r7, rfl, ho7⟩, hb7⟩; rw [HXL.out] at ho7 ⊢; have hS7 := xbox_next D5.out HXL.out HSS.out hS (hb6.trans (hb7.mono hb6.size)); have T7 : (convert 30 9 (.slice r7 xl xl)).run Try.prog w7 = .ok (.string S) w7 := HSS.out ▸ own_text ho7 HXL.out))
            have D7 := (D5.out.drew.next hb6).next hb7
            have B7 := (((B5.out.trans (Below.refl _ _).drew).trans (hb6.mono (Nat.le_of_lt (D5.out.drew.q.lt)))).trans (hb7.mono (Nat.le_of_lt (D5.out.drew.next hb6).q.lt)))
            go_wp2_with fail
            go_roundw
            case rel => exact ⟨j + 1, _, _, _, by omega, by go_num, D7, B7⟩
            case measure => simp [intOf]; omega
        · have e1 : (ok == 1) = false := by simp [k1]
          by_cases k2 : ok = 2
          · subst k2
            have HDD := Lib.hid HD.out.drew
            have HBD := Lib.hid (HB.out.trans (Below.refl _ _).drew)
            have hS1 : wr.drew.cell? ⟨b, off + j * 3 + 1, none⟩ = some (.int .i64 on) := c1
            obtain ⟨k, hk⟩ : ∃ k, takeN on xs.length = k := ⟨_, rfl⟩
            have hkl : k ≤ xs.length := by rw [← hk]; exact takeN_le _ _
            have HTK := Lib.hid (show (xs.take k).length = k by simp; omega)
            obtain ⟨Z, hZ⟩ : ∃ Z, strOfNums (xs.take k) = Z := ⟨_, rfl⟩
            have HZ := Lib.hid hZ
            have hp1 := qtake_any wr.drew w.heap.size r xs p HDD.out.q on
            rw [hk] at hp1
            have P1 := Lib.hid hp1
            have HKK := Lib.hid hk
            clear hk hZ hp1
            go_wp2_with fail
            clear c0 c1 c2
            go_region_held_law (fun w' => w'.cell? ⟨b, off + j * 3 + 1, none⟩ = some (.int .i64 on)) (with_reducible assumption) (first
              | (go_at_call 12; refine P1.out.mono ?_; rintro e w4 ⟨⟨r4, rfl, ho4⟩, hq4, hk4⟩; rw [HTK.out] at ho4 ⊢; have D4 := Lib.hid (HDD.out.turnQ hk4 hq4); have B4 := Lib.hid (HBD.out.trans hk4.below); have hS4 := (CE.out w4 B4.out).2.1; have P2 := Lib.hid (rtake_any w4 w1.heap.size r xs px D4.out.x (by omega) on); have T4 : (convert 30 9 (.slice r4 k k)).run Try.prog w4 = .ok (.string Z) w4 := HZ.out ▸ own_text ho4 HTK.out; have O4 := Lib.hid ho4)
              | (go_at_call 13; refine P2.out.mono ?_; rintro e w5 ⟨⟨r5, c5, rfl, ho5⟩, px5, hx5, hk5⟩; rw [HKK.out] at ho5 hx5 ⊢; have D5 := Lib.hid (D4.out.turnX hk5 hx5); have B5 := Lib.hid (B4.out.trans (hk5.below.mono (Nat.le_of_lt D4.out.gh))); have hS5 := (CE.out w5 B5.out).2.1; have T5 : (convert 30 9 (.slice r5 k c5)).run Try.prog w5 = .ok (.string Z) w5 := HZ.out ▸ own_text ho5 HTK.out; have T6 : (convert 30 9 (.slice r4 k k)).run Try.prog w5 = .ok (.string Z) w5 := HZ.out ▸ own_text (O4.out.of_block hk5.below.size fun b' hb' => hk5.keep b' (O4.out.block_lt hb').2 (by have := (O4.out.block_lt hb').1; have := D4.out.x.lt; have : wr.drew.heap.size = wr.heap.size := rfl; omega)) HTK.out))
            all_goals
              clear hS1 hS4 hS5 P1 P2
              go_wp2_with fail
              obtain ⟨xcap, hxc, hxt⟩ := D5.out.text
              obtain ⟨xl, hxll⟩ : ∃ xl, (xs.drop k).length = xl := ⟨_, rfl⟩
              have HXL := Lib.hid hxll
              have PL := Lib.hid (qlen_any w5.drew w.heap.size r (xs.drop k) p (D5.out.q.drew))
              have PR := Lib.hid (qroom_any w5.drew w.heap.size r (xs.drop k) p (D5.out.q.drew))
              have hxlr := D5.out.q.size.1
              rw [hxll] at hxc hxt PL PR hxlr
              have hwr : IntKind.i64.wrap ((r : Int) - xl) = (r : Int) - xl := by rw [IntKind.wrap_i64]; omega
              obtain ⟨S, hSS⟩ : ∃ S, strOfNums (xs.drop k) = S := ⟨_, rfl⟩
              have HSS := Lib.hid hSS
              rw [hSS] at hxt
              have hS : w5.drew.cell? ⟨w1.heap.size, 0, none⟩ = some (.slice px5 xl xcap) ∧ (convert 30 9 (.slice px5 xl xcap)).run Try.prog w5.drew = .ok (.string S) w5.drew := xbox_drew D5.out HXL.out HSS.out hxc
              clear hxll hSS hxt hxc
              clear HX HNN D3 B3 CE YE HYL HSEP
              try clear HDD HBD
              try clear D4 B4
              try clear HTK HZ HKK O4 T4 T5 T6
              try clear HZL
              go_region_held_law (fun w' => w'.cell? ⟨w1.heap.size, 0, none⟩ = some (.slice px5 xl xcap) ∧ (convert 30 9 (.slice px5 xl xcap)).run Try.prog w' = .ok (.string S) w') (with_reducible assumption) (first
                | (go_at_call 15; refine PL.out.mono ?_; rintro e w' ⟨rfl, rfl⟩)
                | (go_at_call 16; refine PR.out.mono ?_; rintro e w6 ⟨rfl, hb6⟩; have hS6 := xbox_next D5.out HXL.out HSS.out hS hb6; have PA := Lib.hid (qall_any w6 w.heap.size r (xs.drop k) p ((D5.out.q.drew).next hb6)))
                | (go_at_call 17; refine PA.out.mono ?_; rintro e w7 ⟨⟨r7, rfl, ho7⟩, hb7⟩; rw [HXL.out] at ho7 ⊢; have hS7 := xbox_next D5.out HXL.out HSS.out hS (hb6.trans (hb7.mono hb6.size)); have T7 : (convert 30 9 (.slice r7 xl xl)).run Try.prog w7 = .ok (.string S) w7 := HSS.out ▸ own_text ho7 HXL.out))
              have D7 := (D5.out.drew.next hb6).next hb7
              have B7 := (((B5.out.trans (Below.refl _ _).drew).trans (hb6.mono (Nat.le_of_lt (D5.out.drew.q.lt)))).trans (hb7.mono (Nat.le_of_lt (D5.out.drew.next hb6).q.lt)))
              go_wp2_with fail
              go_roundw
              case rel => exact ⟨j + 1, _, _, _, by omega, by go_num, D7, B7⟩
              case measure => simp [intOf]; omega
          · have e2 : (ok == 2) = false := by simp [k2]
            by_cases k3 : ok = 3
            · subst k3
              obtain ⟨zcap, hzc, _⟩ := HD.out.text
              obtain ⟨zl, hzl⟩ : ∃ zl, xs.length = zl := ⟨_, rfl⟩
              rw [hzl] at hzc
              obtain ⟨xc', hx1, hx2⟩ := HD.out.x
              have f0 := hx1.f 0
              have D4 := Lib.hid (Du.clearX HD.out)
              have P5 := Lib.hid (qclear_any _ w.heap.size r xs p D4.out.q)
              rw [hzl] at P5
              have HZL := Lib.hid hzl
              clear hx1 hx2 hzl
              go_wp2_with (go_at_call 14; refine P5.out.mono ?_; rintro e w5 ⟨rfl, hq5, hk5⟩; have D5 := Lib.hid (D4.out.turnQ hk5 hq5); have B5 := Lib.hid ((HB.out.setCell (p := ⟨w1.heap.size, 0, none⟩) (Nat.le_of_lt g1) (.slice none 0 0)).trans hk5.below); clear hq5 hk5)
              clear c0 c1 c2 hzc f0 P5

              obtain ⟨xcap, hxc, hxt⟩ := D5.out.text
              obtain ⟨xl, hxll⟩ : ∃ xl, (([] : List Int)).length = xl := ⟨_, rfl⟩
              have HXL := Lib.hid hxll
              have PL := Lib.hid (qlen_any w5.drew w.heap.size r (([] : List Int)) none (D5.out.q.drew))
              have PR := Lib.hid (qroom_any w5.drew w.heap.size r (([] : List Int)) none (D5.out.q.drew))
              have hxlr := D5.out.q.size.1
              rw [hxll] at hxc hxt PL PR hxlr
              have hwr : IntKind.i64.wrap ((r : Int) - xl) = (r : Int) - xl := by rw [IntKind.wrap_i64]; omega
              obtain ⟨S, hSS⟩ : ∃ S, strOfNums (([] : List Int)) = S := ⟨_, rfl⟩
              have HSS := Lib.hid hSS
              rw [hSS] at hxt
              have hS : w5.drew.cell? ⟨w1.heap.size, 0, none⟩ = some (.slice none xl xcap) ∧ (convert 30 9 (.slice none xl xcap)).run Try.prog w5.drew = .ok (.string S) w5.drew := xbox_drew D5.out HXL.out HSS.out hxc
              clear hxll hSS hxt hxc
              clear HX HNN D3 B3 CE YE HYL HSEP
              try clear HDD HBD
              try clear D4 B4
              try clear HTK HZ HKK O4 T4 T5 T6
              try clear HZL
              go_region_held_law (fun w' => w'.cell? ⟨w1.heap.size, 0, none⟩ = some (.slice none xl xcap) ∧ (convert 30 9 (.slice none xl xcap)).run Try.prog w' = .ok (.string S) w') (with_reducible assumption) (first
                | (go_at_call 15; refine PL.out.mono ?_; rintro e w' ⟨rfl, rfl⟩)
                | (go_at_call 16; refine PR.out.mono ?_; rintro e w6 ⟨rfl, hb6⟩; have hS6 := xbox_next D5.out HXL.out HSS.out hS hb6; have PA := Lib.hid (qall_any w6 w.heap.size r (([] : List Int)) none ((D5.out.q.drew).next hb6)))
                | (go_at_call 17; refine PA.out.mono ?_; rintro e w7 ⟨⟨r7, rfl, ho7⟩, hb7⟩; rw [HXL.out] at ho7 ⊢; have hS7 := xbox_next D5.out HXL.out HSS.out hS (hb6.trans (hb7.mono hb6.size)); have T7 : (convert 30 9 (.slice r7 xl xl)).run Try.prog w7 = .ok (.string S) w7 := HSS.out ▸ own_text ho7 HXL.out))
              have D7 := (D5.out.drew.next hb6).next hb7
              have B7 := (((B5.out.trans (Below.refl _ _).drew).trans (hb6.mono (Nat.le_of_lt (D5.out.drew.q.lt)))).trans (hb7.mono (Nat.le_of_lt (D5.out.drew.next hb6).q.lt)))
              go_wp2_with fail
              go_roundw
              case rel => exact ⟨j + 1, _, _, _, by omega, by go_num, D7, B7⟩
              case measure => simp [intOf]; omega
            · have e3 : (ok == 3) = false := by simp [k3]
              go_wp2_with fail
              clear c0 c1 c2
              obtain ⟨xcap, hxc, hxt⟩ := HD.out.text
              obtain ⟨xl, hxll⟩ : ∃ xl, (xs).length = xl := ⟨_, rfl⟩
              have HXL := Lib.hid hxll
              have PL := Lib.hid (qlen_any wr.drew w.heap.size r (xs) p (HD.out.q.drew))
              have PR := Lib.hid (qroom_any wr.drew w.heap.size r (xs) p (HD.out.q.drew))
              have hxlr := HD.out.q.size.1
              rw [hxll] at hxc hxt PL PR hxlr
              have hwr : IntKind.i64.wrap ((r : Int) - xl) = (r : Int) - xl := by rw [IntKind.wrap_i64]; omega
              obtain ⟨S, hSS⟩ : ∃ S, strOfNums (xs) = S := ⟨_, rfl⟩
              have HSS := Lib.hid hSS
              rw [hSS] at hxt
              have hS : wr.drew.cell? ⟨w1.heap.size, 0, none⟩ = some (.slice px xl xcap) ∧ (convert 30 9 (.slice px xl xcap)).run Try.prog wr.drew = .ok (.string S) wr.drew := xbox_drew HD.out HXL.out HSS.out hxc
              clear hxll hSS hxt hxc
              clear HX HNN D3 B3 CE YE HYL HSEP
              try clear HDD HBD
              try clear D4 B4
              try clear HTK HZ HKK O4 T4 T5 T6
              try clear HZL
              go_region_held_law (fun w' => w'.cell? ⟨w1.heap.size, 0, none⟩ = some (.slice px xl xcap) ∧ (convert 30 9 (.slice px xl xcap)).run Try.prog w' = .ok (.string S) w') (with_reducible assumption) (first
                | (go_at_call 15; refine PL.out.mono ?_; rintro e w' ⟨rfl, rfl⟩)
                | (go_at_call 16; refine PR.out.mono ?_; rintro e w6 ⟨rfl, hb6⟩; have hS6 := xbox_next HD.out HXL.out HSS.out hS hb6; have PA := Lib.hid (qall_any w6 w.heap.size r (xs) p ((HD.out.q.drew).next hb6)))
                | (go_at_call 17; refine PA.out.mono ?_; rintro e w7 ⟨⟨r7, rfl, ho7⟩, hb7⟩; rw [HXL.out] at ho7 ⊢; have hS7 := xbox_next HD.out HXL.out HSS.out hS (hb6.trans (hb7.mono hb6.size)); have T7 : (convert 30 9 (.slice r7 xl xl)).run Try.prog w7 = .ok (.string S) w7 := HSS.out ▸ own_text ho7 HXL.out))
              have D7 := (HD.out.drew.next hb6).next hb7
              have B7 := (((HB.out.trans (Below.refl _ _).drew).trans (hb6.mono (Nat.le_of_lt (HD.out.drew.q.lt)))).trans (hb7.mono (Nat.le_of_lt (HD.out.drew.next hb6).q.lt)))
              go_wp2_with fail
              go_roundw
              case rel => exact ⟨j + 1, _, _, _, by omega, by go_num, D7, B7⟩
              case measure => simp [intOf]; omega
end Go.Proofs.Ytbgofccnhehodaa
