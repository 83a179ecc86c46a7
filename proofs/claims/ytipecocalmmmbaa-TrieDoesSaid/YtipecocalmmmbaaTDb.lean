/- trie: each, things, Within at bool. -/
import Derived.Test.YtipecocalmmmbaaT6b
namespace Go.Proofs.Ytipecocalmmmbaa
open Go.RowKit Go.Shelf
set_option linter.unusedVariables false
set_option linter.unusedSimpArgs false

attribute [local go_sem] Oper.semAt_some
attribute [local go_sem, local simp] wide_fn
attribute [local go_sem] encPN encMT

theorem each_nil_bool (n : Nat) (f : Value) (W : World) : CallsIn Fence.wide n Try.prog 64 #[.pointer none, f] W fun e W' => e = .returned (.bool true) ∧ W' = W := by
  refine callsIn_of_wp Try.func64 rfl trivial ?_ rfl
  simp only [Try.ntmps64, List.size_toArray, List.length_cons, List.length_nil, Nat.reduceAdd, Nat.reduceSub, Array.replicate_succ, Array.replicate_zero, List.push_toArray, List.append_toArray, List.nil_append, List.cons_append]
  gi_wp2
  go_ret
  exact ⟨rfl, rfl⟩
set_option maxRecDepth 100000 in
set_option maxHeartbeats 8000000 in
theorem each_bool (w : World) (B t r : Nat) (s : Int) (N : Int → Nat → Option Nat) (L : List TE) (S : Nat → Prop) (M : Nat) (h : EaS TRb NDb THb w B t r s N L S M) (l K : Nat) (J Jx : List (MT L) → World → Prop)
    (hY : ∀ m pre (x : MT L) W, J pre W → pre.length < K → YieldAt Fence.wide m Try.prog l #[.pointer (some ⟨x.1.g, 0, none⟩)] W fun e W' =>
      (e = .returned (.bool true) ∧ J (pre ++ [x]) W' ∧ KpX S M W W') ∨ (e = .returned (.bool false) ∧ Jx (pre ++ [x]) W')) :
    ∀ (k d : Nat), d + k = 33 → ∀ (x : Int) (n : Nat) (pre : List (MT L)) (W : World), KpX S M w W → J pre W → pre.length + (subA L x d).length ≤ K →
      CallsIn Fence.wide n Try.prog 64 #[optP (N x d), .func (.yield l) #[] #[]] W fun e W' =>
        (e = .returned (.bool true) ∧ J (pre ++ subA L x d) W' ∧ KpX S M w W') ∨ (e = .returned (.bool false) ∧ ∃ q, q <+: subA L x d ∧ Jx (pre ++ q) W')
  | k, d, hd, x, n, pre, W, hk, hj, hlen => by
    rcases hN : N x d with _ | b
    · rw [optP_none]
      refine (each_nil_bool n _ W).mono ?_
      rintro e W' ⟨rfl, rfl⟩
      exact .inl ⟨rfl, by rw [h.tr.sub_none hN, List.append_nil]; exact hj, hk⟩
    · obtain ⟨k, rfl⟩ : ∃ k', k = k' + 1 := ⟨k - 1, by have := (h.tr.fit _ _ _ hN).d32; omega⟩
      have ihl := each_bool w B t r s N L S M h l K J Jx hY k (d + 1) (by omega) x
      have ihr := each_bool w B t r s N L S M h l K J Jx hY k (d + 1) (by omega) (x + pw d)
      rw [optP_some]
      obtain ⟨c0, c1, c2⟩ := h.cells hk hN
      have hsub := h.tr.sub_some hN
      obtain ⟨A1, hA1⟩ : ∃ A, subA L x (d + 1) = A := ⟨_, rfl⟩
      obtain ⟨A2, hA2⟩ : ∃ A, subA L (x + pw d) (d + 1) = A := ⟨_, rfl⟩
      obtain ⟨A0, hA0⟩ : ∃ A, subA L x d = A := ⟨_, rfl⟩
      rw [hA1] at ihl
      rw [hA2] at ihr
      rw [hA0] at hlen ⊢
      rw [hA0, hA1, hA2] at hsub
      have hcc : ∀ W', KpX S M w W' → W'.cell? ⟨b, 1, none⟩ = some (optP (N x (d + 1))) ∧ W'.cell? ⟨b, 2, none⟩ = some (optP (N (x + pw d) (d + 1))) := fun W' hk' => (h.cells hk' hN).2
      obtain ⟨v1, hv1⟩ : ∃ v, optP (N x (d + 1)) = v := ⟨_, rfl⟩
      obtain ⟨v2, hv2⟩ : ∃ v, optP (N (x + pw d) (d + 1)) = v := ⟨_, rfl⟩
      rw [hv1] at ihl c1
      rw [hv2] at ihr c2
      rw [hv1, hv2] at hcc
      have HL := Lib.hid (show ∀ (pre1 : List (MT L)) (W1 : World), KpX S M w W1 → J pre1 W1 → pre1.length + A1.length ≤ K → CallsIn Fence.wide (n - 1) Try.prog 64 #[v1, .func (.yield l) #[] #[]] W1 fun e W2 =>
          (e = .returned (.bool true) ∧ J (pre1 ++ A1) W2 ∧ KpX S M w W2 ∧ W2.cell? ⟨b, 2, none⟩ = some v2) ∨ (e = .returned (.bool false) ∧ ∃ q, q <+: A1 ∧ Jx (pre1 ++ q) W2) from
        fun pre1 W1 h1 h2 h3 => (ihl (n - 1) pre1 W1 h1 h2 h3).mono fun e W2 h => h.elim (fun ⟨he, hj, hk⟩ => .inl ⟨he, hj, hk, (hcc W2 hk).2⟩) .inr)
      have HR := Lib.hid (fun (pre1 : List (MT L)) (W1 : World) (h1 : KpX S M w W1) (h2 : J pre1 W1) (h3 : pre1.length + A2.length ≤ K) => ihr (n - 1) pre1 W1 h1 h2 h3)
      have hdd : ∀ k : Nat, (Fence.wide.depth.isSome = true → 1 ≤ k) := fun k h => by cases h
      clear ihl ihr
      rcases hat : atT L x d with _ | e
      · rw [hat] at c0 hsub
        change W.cell? ⟨b, 0, none⟩ = some (.pointer none) at c0
        have HS := Lib.hid (show A0 = A1 ++ A2 from mt_ext (by rw [List.map_append]; simpa using hsub))
        have HC1 := Lib.hid (HL.out pre W hk hj (by have := congrArg List.length HS.out; rw [List.length_append] at this; omega))
        have HLN := Lib.hid (show pre.length + A1.length + A2.length ≤ K by have := congrArg List.length HS.out; rw [List.length_append] at this; omega)
        clear hsub hat hcc hlen HL hv1 hv2 hA0 hA1 hA2 hj hk hN
        refine callsIn_of_wp Try.func64 rfl trivial ?_ rfl
        simp only [Try.ntmps64, List.size_toArray, List.length_cons, List.length_nil, Nat.reduceAdd, Nat.reduceSub, Array.replicate_succ, Array.replicate_zero, List.push_toArray, List.append_toArray, List.nil_append, List.cons_append]
        gi_wp2_with (first
          | ((try refine ⟨hdd _, ?_⟩); gi_at_call 64; refine HC1.out.mono ?_; clear HC1; rintro e W2 (⟨rfl, hj2, hk2, c2'⟩ | ⟨rfl, q, hq, hx2⟩))
          | ((try refine ⟨hdd _, ?_⟩); gi_at_call 64; refine (HR.out _ _ hk2 hj2 (by rw [List.length_append]; exact HLN.out)).mono ?_; rintro e W3 (⟨rfl, hj3, hk3⟩ | ⟨rfl, q, hq, hx3⟩)))
        · go_ret
          exact .inl ⟨rfl, by rw [HS.out, ← List.append_assoc]; exact hj3, hk3⟩
        · go_ret
          exact .inr ⟨rfl, A1 ++ q, by rw [HS.out]; exact (List.prefix_append_right_inj A1).2 hq, by rw [← List.append_assoc]; exact hx3⟩
        · first | go_ret | (refine ⟨fun _ h => (by cases h), ?_⟩; gi_wp2; go_ret) | (gi_wp2; go_ret)
          exact .inr ⟨rfl, q, by rw [HS.out]; exact hq.trans (List.prefix_append _ _), hx2⟩
      · rw [hat] at c0 hsub
        change W.cell? ⟨b, 0, none⟩ = some (.pointer (some ⟨e.g, 0, none⟩)) at c0
        obtain ⟨xe, hxe⟩ : ∃ xe : MT L, xe.1 = e := ⟨⟨e, (atT_some hat).1⟩, rfl⟩
        have HS := Lib.hid (show A0 = [xe] ++ (A1 ++ A2) from mt_ext (by rw [List.map_append, List.map_append, hsub]; simp [hxe]))
        have HLN := Lib.hid (show pre.length + 1 + A1.length + A2.length ≤ K by have := congrArg List.length HS.out; rw [List.length_append, List.length_append] at this; simp at this; omega)
        have hy := (hY (n - 1) pre xe W hj (by have := HLN.out; omega)).mono (R' := fun e W1 => (e = .returned (.bool true) ∧ J (pre ++ [xe]) W1 ∧ KpX S M w W1 ∧ W1.cell? ⟨b, 1, none⟩ = some v1) ∨ (e = .returned (.bool false) ∧ Jx (pre ++ [xe]) W1))
          (fun e W1 h => h.elim (fun ⟨he, hj, hk1⟩ => .inl ⟨he, hj, kpX_t hk hk1, (hcc W1 (kpX_t hk hk1)).1⟩) .inr)
        rw [hxe] at hy
        obtain ⟨eg, heg⟩ : ∃ g, e.g = g := ⟨_, rfl⟩
        rw [heg] at c0 hy
        obtain ⟨fn, tmps, assign, body, hy, hRR⟩ := hy
        clear hsub hat hcc hlen hv1 hv2 hA0 hA1 hA2 hj hk hN c1 c2 hxe heg
        refine callsIn_of_wp Try.func64 rfl trivial ?_ rfl
        simp only [Try.ntmps64, List.size_toArray, List.length_cons, List.length_nil, Nat.reduceAdd, Nat.reduceSub, Array.replicate_succ, Array.replicate_zero, List.push_toArray, List.append_toArray, List.nil_append, List.cons_append]
        gi_wp2_with (first
          | ((try refine ⟨hdd _, ?_⟩); refine hRR.mono ?_; clear hRR; rintro e W1 (⟨rfl, hj1, hk1, c1'⟩ | ⟨rfl, hx1⟩))
          | ((try refine ⟨hdd _, ?_⟩); gi_at_call 64; refine (HL.out _ _ hk1 hj1 (by have := HLN.out; rw [List.length_append]; simp; omega)).mono ?_; clear HL; rintro e W2 (⟨rfl, hj2, hk2, c2'⟩ | ⟨rfl, q, hq, hx2⟩))
          | ((try refine ⟨hdd _, ?_⟩); gi_at_call 64; refine (HR.out _ _ hk2 hj2 (by have := HLN.out; rw [List.length_append, List.length_append]; simp; omega)).mono ?_; rintro e W3 (⟨rfl, hj3, hk3⟩ | ⟨rfl, q, hq, hx3⟩)))
        · go_ret
          exact .inl ⟨rfl, by rw [HS.out, ← List.append_assoc, ← List.append_assoc]; exact hj3, hk3⟩
        · go_ret
          exact .inr ⟨rfl, [xe] ++ (A1 ++ q), by rw [HS.out]; exact (List.prefix_append_right_inj [xe]).2 ((List.prefix_append_right_inj A1).2 hq), by rw [← List.append_assoc, ← List.append_assoc]; exact hx3⟩
        · first | go_ret | (refine ⟨fun _ h => (by cases h), ?_⟩; gi_wp2; go_ret) | (gi_wp2; go_ret)
          exact .inr ⟨rfl, [xe] ++ q, by rw [HS.out]; exact (List.prefix_append_right_inj [xe]).2 (hq.trans (List.prefix_append _ _)), by rw [← List.append_assoc]; exact hx2⟩
        · first | go_ret | (refine ⟨fun _ h => (by cases h), ?_⟩; gi_wp2; go_ret) | (gi_wp2; go_ret)
          exact .inr ⟨rfl, [xe], by rw [HS.out]; exact List.prefix_append _ _, hx1⟩
/-- 'things': the node is boxed. -/
theorem things_bool (w : World) (p : Option Addr) :
    Calls Try.prog 50 #[.pointer p] w fun e w' => e = .returned (.func (.func 63) #[] #[.pointer (some ⟨w.heap.size, 0, none⟩)]) ∧ w' = w.alloc (.cells #[.pointer p] 87) := by
  go_enter Try.func50, Try.ntmps50
  go_wp2
  go_ret
  exact ⟨rfl, rfl⟩
set_option maxRecDepth 100000 in
set_option maxHeartbeats 4000000 in
theorem things1_bool (n : Nat) (w : World) (B t r : Nat) (s : Int) (N : Int → Nat → Option Nat) (L : List TE) (S : Nat → Prop) (M : Nat) (h : EaS TRb NDb THb w B t r s N L S M) (hM : M ≤ w.heap.size) (x : Int) (d : Nat) (hd : d ≤ 33) (Bn : Nat) (hB : w.cell? ⟨Bn, 0, none⟩ = some (optP (N x d))) :
    SeqStopsK Fence.wide n Try.prog 63 #[.pointer (some ⟨Bn, 0, none⟩)] (encMT (L := L)) (KpX S M) (fun ys => ys = subA L x d) (fun ys => ys <+: subA L x d) (subA L x d).length w := fun l J Jx W hW hJ hJx hY h0 => by
  have hE : EaS TRb NDb THb W B t r s N L S M := ⟨h.tr.below hW, h.inM⟩
  have hc : W.cell? ⟨Bn, 0, none⟩ = some (optP (N x d)) := kept hW hB
  have HE := Lib.hid (each_bool W B t r s N L S M hE l (subA L x d).length J Jx (fun m pre y U hj hl => YieldAt.wide m (hY pre y U hj hl)) (33 - d) d (by omega) x (n - 1) [] W (KpX.refl _ _ _) h0 (by simp))
  have hdd : ∀ k : Nat, (Fence.wide.depth.isSome = true → 1 ≤ k) := fun k h => by cases h
  obtain ⟨v, hv⟩ : ∃ v, optP (N x d) = v := ⟨_, rfl⟩
  rw [hv] at hc HE
  clear h hM hB hW hJ hJx hY h0 hE hv
  refine callsIn_of_wp Try.func63 rfl trivial ?_ rfl
  simp only [Try.ntmps63, List.size_toArray, List.length_cons, List.length_nil, Nat.reduceAdd, Nat.reduceSub, Array.replicate_succ, Array.replicate_zero, List.push_toArray, List.append_toArray, List.nil_append, List.cons_append]
  gi_wp2_with ((try refine ⟨hdd _, ?_⟩); gi_at_call 64; refine HE.out.mono ?_; clear HE; rintro e W1 (⟨rfl, hj1, _⟩ | ⟨rfl, q, hq, hx⟩))
  · go_end0
    exact ⟨⟨_, rfl⟩, .inl ⟨_, rfl, by simpa using hj1⟩⟩
  · go_end0
    exact ⟨⟨_, rfl⟩, .inr ⟨q, hq, by simpa using hx⟩⟩
set_option maxRecDepth 100000 in
set_option maxHeartbeats 8000000 in
theorem within_bool (w : World) (B t r : Nat) (s : Int) (N : Int → Nat → Option Nat) (L : List TE) (h : TrAt TRb NDb THb w B t r s N L) (a n : Int) (a0 : 0 ≤ a) (a1 : a < 4294967296) (hl : L.length ≤ 1000000) :
    Calls Try.prog 27 #[.pointer (some ⟨t, 0, none⟩), .agg #[.int .u32 a, .int .i64 n]] w fun e w' => ∃ (ps : List (Int × Int)) (q : Option Addr) (c : Nat), ps = (L.filter (fun e => withinP a n e.a e.n)).map tkey ∧ e = .returned (.slice q ps.length c) ∧ w'.ownsRow w.heap.size 32 2 (.slice q ps.length c) ps.length (pcells ps) ∧ Below w.heap.size w w' := by
  refine (callsIn_wide (n := 6)).1 ?_
  have hdd : ∀ k : Nat, (Fence.wide.depth.isSome = true → 1 ≤ k) := fun k h => by cases h
  obtain ⟨x, d, hd, hat, hsub⟩ := sub_of h a n
  have HAT := Lib.hid (fun (U : World) (hU : Below w.heap.size w U) => at_bool U B t r s N L (h.below hU) a n a0 a1)
  rw [hat] at HAT
  have HE := Lib.hid (show EaS TRb NDb THb w B t r s N L (fun _ => False) w.heap.size from ⟨h, fun k hk => ⟨by
    rcases hk with hk | ⟨e, he, rfl⟩
    · exact h.inLt hk
    · exact (h.thing e he).2.1.lt, id⟩⟩)
  have hlen := Nat.le_trans (subA_le L x d) hl
  have HSUB := Lib.hid hsub
  have HL := Lib.hid hlen
  have HD := Lib.hid hd
  have HH := Lib.hid h
  obtain ⟨P, hP⟩ : ∃ P, w.heap.size = P := ⟨_, rfl⟩
  obtain ⟨V, hV⟩ : ∃ V, (w.alloc (.cells #[.int .u32 a, .int .i64 n] 32)).alloc (.cells #[.slice none 0 0] 41) = V := ⟨_, rfl⟩
  have hB : Below w.heap.size w V := by rw [← hV]; exact two_below _ _ _
  have hp : Blk V P 32 [.int .u32 a, .int .i64 n] := by rw [← hV, ← hP]; exact (Blk.new w 32 [.int .u32 a, .int .i64 n]).alloc _
  have hr : Blk V (P + 1) 41 [.slice none 0 0] := by
    have := Blk.new (w.alloc (.cells #[.int .u32 a, .int .i64 n] 32)) 41 [.slice none 0 0]
    rw [sz_alloc, hP] at this
    rw [← hV]; exact this
  have p0 : V.cell? ⟨P, 0, none⟩ = some (.int .u32 a) := hp.cell 0 (by simp)
  have p1 : V.cell? ⟨P, 1, none⟩ = some (.int .i64 n) := hp.cell 1 (by simp)
  have HV := Lib.hid hV
  have HP := Lib.hid hP
  have HALL := Lib.hid (show Below w.heap.size w V ∧ Blk V (P + 1) 41 [.slice none 0 0] from ⟨hB, hr⟩)
  clear hV hP hB hp hr hat hsub hlen hd h hl
  refine callsIn_of_wp_marks Try.func27 rfl trivial ?_ rfl
  simp only [Try.ntmps27, List.size_toArray, List.length_cons, List.length_nil, Nat.reduceAdd, Nat.reduceSub, Array.replicate_succ, Array.replicate_zero, List.push_toArray, List.append_toArray, List.nil_append, List.cons_append]
  gi_wp2_with fail
  rw [HV.out, HP.out]
  refine (callsIn_wide.2 (HAT.out V HALL.out.1)).mono ?_
  rintro e w1 ⟨rfl, hb⟩
  have HAL1 := Lib.hid (show Below w.heap.size w w1 ∧ Blk w1 (P + 1) 41 [.slice none 0 0] from ⟨HALL.out.1.trans (hb.mono HALL.out.1.size), HALL.out.2.next hb⟩)
  clear hb p0 p1
  obtain ⟨pp, hpp⟩ : ∃ p : Option Addr, optP (N x d) = .pointer p := ⟨_, rfl⟩
  rw [hpp]
  gi_wp2_with fail
  refine (callsIn_wide.2 (things_bool w1 pp)).mono ?_
  obtain ⟨Bn, hBn⟩ : ∃ X, w1.heap.size = X := ⟨_, rfl⟩
  obtain ⟨V2, hV2⟩ : ∃ V, w1.alloc (.cells #[.pointer pp] 87) = V := ⟨_, rfl⟩
  have hB2 : Below w1.heap.size w1 V2 := by rw [← hV2]; exact newB _ _
  have hbn : Blk V2 Bn 87 [.pointer pp] := by rw [← hV2, ← hBn]; exact Blk.new w1 87 [.pointer pp]
  have hbc : V2.cell? ⟨Bn, 0, none⟩ = some (optP (N x d)) := by rw [hpp]; exact hbn.cell 0 (by simp)
  have HAL2 := Lib.hid (show Below w.heap.size w V2 ∧ Blk V2 (P + 1) 41 [.slice none 0 0] from ⟨HAL1.out.1.trans (hB2.mono HAL1.out.1.size), HAL1.out.2.next hB2⟩)
  have HE2 := Lib.hid (show EaS TRb NDb THb V2 B t r s N L (fun _ => False) w.heap.size from ⟨HE.out.tr.below HAL2.out.1, HE.out.inM⟩)
  rintro e w2 ⟨rfl, rfl⟩
  rw [hV2, hBn]
  clear hB2 hbn hV2 hBn hpp
  have HBC := Lib.hid hbc
  clear hbc
  gi_wp2_with fail
  refine wpIn_rangeFunc_ownF rfl (by omega) (gf := 63) (lb := #[.pointer (some ⟨Bn, 0, none⟩)]) rfl trivial (enters_of Try.func63 (by kernel_rfl) rfl)
    (things1_bool _ V2 B t r s N L (fun _ => False) w.heap.size HE2.out HAL2.out.1.size x d HD.out Bn HBC.out) kpX_t (kpX_b HAL2.out.1.size) (Below.refl _ _) (fun _ => rfl)
    (fun pre W => (∃ v, Blk W (P + 1) 41 [v] ∧ W.ownsRow w.heap.size 32 2 v pre.length (pcells (pre.map (fun e => tkey e.1))) ∧ (v = .slice none 0 0 ↔ pre = [])) ∧ Below w.heap.size w W)
    (fun _ _ _ => False)
    ?hI ?hIx ?h0 ?a₁ ?assign ?body ?done ?stop
  case hI =>
    rintro s A C row ⟨⟨v, hv, hr, hn⟩, hB⟩ hg hr'
    exact ⟨⟨v, hv.own hg (fun r e => (hr' r e).2), row_own hr hg (fun r e => (hr' r e).2), hn⟩, hB.grown hg hB.size (fun k e => Nat.le_trans HAL2.out.1.size (hr' k e).1)⟩
  case hIx => intro c s A C row hs; exact hs.elim
  case h0 => exact ⟨⟨.slice none 0 0, HAL2.out.2, World.ownsRow_nil _ _ _ _, by simp⟩, HAL2.out.1⟩
  case assign =>
    intro l x W K hK
    gi_wp2
    exact hK
  case body =>
    rintro l pre ⟨⟨xa, xn, xv, xg⟩, hx⟩ W ⟨⟨v, hv, hr, hn⟩, hB⟩ hlt
    obtain ⟨p, c, rfl⟩ := row_form hr
    have hg := (HE.out.tr.thing _ hx).2.1.below hB (HE.out.tr.thing _ hx).2.1.lt
    dsimp only at hg
    have r0 : W.cell? ⟨P + 1, 0, none⟩ = some (.slice p pre.length c) := hv.cell 0 (by simp)
    have f0 : W.frozen? ⟨P + 1, 0, none⟩ = false := hv.f 0
    have g0 : W.cell? ⟨xg, 0, none⟩ = some (.int .u32 xa) := hg.cell 0 (by simp)
    have g1 : W.cell? ⟨xg, 1, none⟩ = some (.int .i64 xn) := hg.cell 1 (by simp)
    obtain ⟨k, hk⟩ : ∃ k, pre.length = k := ⟨_, rfl⟩
    obtain ⟨i0, hi, hz0, hz1, hz2⟩ := info_parts infoPfx
    obtain ⟨U, hU⟩ : ∃ U, (W.alloc (.cells #[.int .u32 xa, .int .i64 xn] 32)).drew = U := ⟨_, rfl⟩
    have hUb : Blk U W.heap.size 32 [.int .u32 xa, .int .i64 xn] := by rw [← hU]; exact (Blk.new W 32 [.int .u32 xa, .int .i64 xn]).drew
    have hrow : U.ownsRow w.heap.size 32 2 (.slice p k c) k (pcells (pre.map (fun e => tkey e.1))) := by rw [← hU, ← hk]; exact World.ownsRow.drew (hr.alloc _)
    have hkb : k < 1000000 := by have := HL.out; omega
    obtain ⟨v', w', hrun, q1, q2, q3⟩ := run_append_own (P := Try.prog) (w := U) w.heap.size 41 41 32 i0 (.agg #[.int .u32 0, .int .i64 0]) 2 16 Try.underlying41 hi hz0 hz1 hz2 rfl (by omega) _ k _ hrow ⟨W.heap.size, 0, none⟩ 1 1 [.int .u32 xa, .int .i64 xn] rfl
      (fun j u hj => by
        match j, hj with
        | 0, hj => injection hj with hj; subst hj; exact hUb.cell 0 (by simp)
        | 1, hj => injection hj with hj; subst hj; exact hUb.cell 1 (by simp)
        | j + 2, hj => cases hj) (by intro u hu; simp at hu; rcases hu with rfl | rfl <;> rfl) (by unfold maxLen; omega) (by omega) (by rw [← hU]; exact Nat.le_trans hB.size (by simp))
    have hUv : Blk U (P + 1) 41 [.slice p k c] := by rw [← hU, ← hk]; exact (hv.alloc _).drew
    have hne := row_ne hrow hUv (by decide)
    have hwv : Blk w' (P + 1) 41 [.slice p k c] := hUv.of_same (q2.block _ hUv.lt (fun e => hne e.symm))
    obtain ⟨p', c', rfl⟩ := row_form q1
    have s0 : w'.cell? ⟨P + 1, 0, none⟩ = some (.slice p k c) := hwv.cell 0 (by simp)
    have sf : w'.frozen? ⟨P + 1, 0, none⟩ = false := hwv.f 0
    have hBU : Below w.heap.size w U := by rw [← hU]; exact (hB.alloc hB.size _).drew
    have hBW' : Below w.heap.size w w' := hBU.grown q2 hBU.size (fun g e => by
      rcases hrow.2 with ⟨h1, _⟩ | ⟨g', cap, cur, h1, hb', _⟩
      · rw [h1] at e; simp [Value.ownBlock] at e
      · rw [h1] at e
        have : g' = g := by simpa [Value.ownBlock] using e
        omega)
    have HF := Lib.hid (show KeepsOthers W (w'.setCell ⟨P + 1, 0, none⟩ (.slice p' (k + 1) c')) ∧ KpX (fun _ => False) w.heap.size W (w'.setCell ⟨P + 1, 0, none⟩ (.slice p' (k + 1) c')) ∧
        (∃ v, Blk (w'.setCell ⟨P + 1, 0, none⟩ (.slice p' (k + 1) c')) (P + 1) 41 [v] ∧ (w'.setCell ⟨P + 1, 0, none⟩ (.slice p' (k + 1) c')).ownsRow w.heap.size 32 2 v (pre ++ [(⟨⟨xa, xn, xv, xg⟩, hx⟩ : MT L)]).length (pcells ((pre ++ [(⟨⟨xa, xn, xv, xg⟩, hx⟩ : MT L)]).map (fun e => tkey e.1))) ∧ (v = .slice none 0 0 ↔ pre ++ [(⟨⟨xa, xn, xv, xg⟩, hx⟩ : MT L)] = [])) ∧ Below w.heap.size w (w'.setCell ⟨P + 1, 0, none⟩ (.slice p' (k + 1) c')) from by
      have hPB : w.heap.size ≤ P + 1 := by have := HP.out; omega
      have hBS := hBW'.setCell (p := ⟨P + 1, 0, none⟩) hPB (.slice p' (k + 1) c')
      have hne' := row_ne q1 hwv (by decide)
      refine ⟨?_, ⟨?_, fun i hi _ => (hBS.block i hi).trans (hB.block i hi).symm⟩, ⟨.slice p' (k + 1) c', hwv.set 0 _, ?_, by simp⟩, hBS⟩
      · have k1 : KeepsOthers W U := by rw [← hU]; exact KeepsOthers.trans (KeepsOthers.alloc W _) ⟨Nat.le_refl _, fun _ _ h _ => h⟩
        refine (k1.trans (KeepsOthers.of_grownBy q2 fun j o e ho => ?_)).trans (KeepsOthers.setCell _ _ _)
        rcases hrow.2 with ⟨h1, _⟩ | ⟨g', cap, cur, h1, _, hgb, _⟩
        · rw [h1] at e; simp [Value.ownBlock] at e
        · rw [h1] at e
          have : g' = j := by simpa [Value.ownBlock] using e
          subst this
          rw [hgb] at ho; cases ho; rfl
      · have h1 : W.heap.size ≤ U.heap.size := by rw [← hU]; simp
        have h2 := q2.size
        simp [World.setCell]; omega
      · rw [List.length_append, List.map_append, hk]
        show World.ownsRow _ _ _ _ _ (k + 1) (pcells (pre.map (fun e => tkey e.1) ++ [(xa, xn)]))
        rw [pcells_snoc]
        exact q1.kept (KeepsOthersGrown w' _ _) (.inr (fun e => hne' e)))
    rw [hk] at r0
    clear hv hr hn hB hlt hg hi hz0 hz1 hz2 hUb hrow q1 q2 q3 hUv hne hwv hBU hBW'
    subst hU
    have r0a := kept (newB W (.cells #[.int .u32 xa, .int .i64 xn] 32)) r0
    have HRUN := Lib.hid hrun
    clear hrun
    gi_wp2
    refine wpIn_region_any (by kernel_rfl) ?_
    change wpAnyIn _ _ _ _ _ _ _ _ _ (World.drew _)
    refine wpAnyIn_ready (rs := [0, 1]) (by kernel_rfl) (by simp) ?_
    refine AllReadyIn.cons rfl (fun K hK => ?_) ?_
    · go_simp
      refine hK _ _ ?_
      clear hK K
      refine wpAnyIn_ready (rs := [1]) (by kernel_rfl) (by simp) ?_
      refine AllReadyIn.cons rfl (fun K hK => ?_) ?_
      · go_simp
        refine hK _ _ ?_
        clear hK K
        refine wpAnyIn_ready (rs := [2]) (by kernel_rfl) (by simp) ?_
        refine AllReadyIn.cons rfl (fun K hK => ?_) ?_
        · go_simp
          refine hK _ _ ?_
          clear hK K
          refine wpAnyIn_ready (rs := [3]) (by kernel_rfl) (by simp) ?_
          refine AllReadyIn.cons rfl (fun K hK => ?_) ?_
          · go_simp
            refine hK _ _ ?_
            clear hK K
            refine wpAnyIn_ready (rs := [4]) (by kernel_rfl) (by simp) ?_
            refine AllReadyIn.cons rfl (fun K hK => ?_) ?_
            · go_simp
              refine hK _ _ ?_
              clear hK K
              refine wpAnyIn_ready (rs := [5]) (by kernel_rfl) (by simp) ?_
              refine AllReadyIn.cons rfl (fun K hK => ?_) ?_
              · go_simp
                refine hK _ _ ?_
                clear hK K
                refine wpAnyIn_ready (rs := [6]) (by kernel_rfl) (by simp) ?_
                refine AllReadyIn.cons rfl (fun K hK => ?_) ?_
                · refine stepIn_append rfl (.tmp 12) (.tmp 17) rfl _ _ rfl rfl _ _ HRUN.out ?_
                  go_simp
                  refine hK _ _ ?_
                  clear hK K
                  refine wpAnyIn_ready (rs := [7]) (by kernel_rfl) (by simp) ?_
                  refine AllReadyIn.cons rfl (fun K hK => ?_) ?_
                  · go_simp
                    refine hK _ _ ?_
                    clear hK K
                    refine wpAnyIn_done (by kernel_rfl) ?_ _
                    gi_wp2
                    exact HF.out
                  exact AllReadyIn.nil
                exact AllReadyIn.nil
              exact AllReadyIn.nil
            exact AllReadyIn.nil
          exact AllReadyIn.nil
        exact AllReadyIn.nil
      exact AllReadyIn.nil
    refine AllReadyIn.cons rfl (fun K hK => ?_) ?_
    · go_simp
      refine hK _ _ ?_
      clear hK K
      refine wpAnyIn_ready (rs := [0, 2]) (by kernel_rfl) (by simp) ?_
      refine AllReadyIn.cons rfl (fun K hK => ?_) ?_
      · go_simp
        refine hK _ _ ?_
        clear hK K
        refine wpAnyIn_ready (rs := [2]) (by kernel_rfl) (by simp) ?_
        refine AllReadyIn.cons rfl (fun K hK => ?_) ?_
        · go_simp
          refine hK _ _ ?_
          clear hK K
          refine wpAnyIn_ready (rs := [3]) (by kernel_rfl) (by simp) ?_
          refine AllReadyIn.cons rfl (fun K hK => ?_) ?_
          · go_simp
            refine hK _ _ ?_
            clear hK K
            refine wpAnyIn_ready (rs := [4]) (by kernel_rfl) (by simp) ?_
            refine AllReadyIn.cons rfl (fun K hK => ?_) ?_
            · go_simp
              refine hK _ _ ?_
              clear hK K
              refine wpAnyIn_ready (rs := [5]) (by kernel_rfl) (by simp) ?_
              refine AllReadyIn.cons rfl (fun K hK => ?_) ?_
              · go_simp
                refine hK _ _ ?_
                clear hK K
                refine wpAnyIn_ready (rs := [6]) (by kernel_rfl) (by simp) ?_
                refine AllReadyIn.cons rfl (fun K hK => ?_) ?_
                · refine stepIn_append rfl (.tmp 12) (.tmp 17) rfl _ _ rfl rfl _ _ HRUN.out ?_
                  go_simp
                  refine hK _ _ ?_
                  clear hK K
                  refine wpAnyIn_ready (rs := [7]) (by kernel_rfl) (by simp) ?_
                  refine AllReadyIn.cons rfl (fun K hK => ?_) ?_
                  · go_simp
                    refine hK _ _ ?_
                    clear hK K
                    refine wpAnyIn_done (by kernel_rfl) ?_ _
                    gi_wp2
                    exact HF.out
                  exact AllReadyIn.nil
                exact AllReadyIn.nil
              exact AllReadyIn.nil
            exact AllReadyIn.nil
          exact AllReadyIn.nil
        exact AllReadyIn.nil
      refine AllReadyIn.cons rfl (fun K hK => ?_) ?_
      · go_simp
        refine hK _ _ ?_
        clear hK K
        refine wpAnyIn_ready (rs := [0, 3]) (by kernel_rfl) (by simp) ?_
        refine AllReadyIn.cons rfl (fun K hK => ?_) ?_
        · go_simp
          refine hK _ _ ?_
          clear hK K
          refine wpAnyIn_ready (rs := [3]) (by kernel_rfl) (by simp) ?_
          refine AllReadyIn.cons rfl (fun K hK => ?_) ?_
          · go_simp
            refine hK _ _ ?_
            clear hK K
            refine wpAnyIn_ready (rs := [4]) (by kernel_rfl) (by simp) ?_
            refine AllReadyIn.cons rfl (fun K hK => ?_) ?_
            · go_simp
              refine hK _ _ ?_
              clear hK K
              refine wpAnyIn_ready (rs := [5]) (by kernel_rfl) (by simp) ?_
              refine AllReadyIn.cons rfl (fun K hK => ?_) ?_
              · go_simp
                refine hK _ _ ?_
                clear hK K
                refine wpAnyIn_ready (rs := [6]) (by kernel_rfl) (by simp) ?_
                refine AllReadyIn.cons rfl (fun K hK => ?_) ?_
                · refine stepIn_append rfl (.tmp 12) (.tmp 17) rfl _ _ rfl rfl _ _ HRUN.out ?_
                  go_simp
                  refine hK _ _ ?_
                  clear hK K
                  refine wpAnyIn_ready (rs := [7]) (by kernel_rfl) (by simp) ?_
                  refine AllReadyIn.cons rfl (fun K hK => ?_) ?_
                  · go_simp
                    refine hK _ _ ?_
                    clear hK K
                    refine wpAnyIn_done (by kernel_rfl) ?_ _
                    gi_wp2
                    exact HF.out
                  exact AllReadyIn.nil
                exact AllReadyIn.nil
              exact AllReadyIn.nil
            exact AllReadyIn.nil
          exact AllReadyIn.nil
        refine AllReadyIn.cons rfl (fun K hK => ?_) ?_
        · go_simp
          refine hK _ _ ?_
          clear hK K
          refine wpAnyIn_ready (rs := [0, 4]) (by kernel_rfl) (by simp) ?_
          refine AllReadyIn.cons rfl (fun K hK => ?_) ?_
          · go_simp
            refine hK _ _ ?_
            clear hK K
            refine wpAnyIn_ready (rs := [4]) (by kernel_rfl) (by simp) ?_
            refine AllReadyIn.cons rfl (fun K hK => ?_) ?_
            · go_simp
              refine hK _ _ ?_
              clear hK K
              refine wpAnyIn_ready (rs := [5]) (by kernel_rfl) (by simp) ?_
              refine AllReadyIn.cons rfl (fun K hK => ?_) ?_
              · go_simp
                refine hK _ _ ?_
                clear hK K
                refine wpAnyIn_ready (rs := [6]) (by kernel_rfl) (by simp) ?_
                refine AllReadyIn.cons rfl (fun K hK => ?_) ?_
                · refine stepIn_append rfl (.tmp 12) (.tmp 17) rfl _ _ rfl rfl _ _ HRUN.out ?_
                  go_simp
                  refine hK _ _ ?_
                  clear hK K
                  refine wpAnyIn_ready (rs := [7]) (by kernel_rfl) (by simp) ?_
                  refine AllReadyIn.cons rfl (fun K hK => ?_) ?_
                  · go_simp
                    refine hK _ _ ?_
                    clear hK K
                    refine wpAnyIn_done (by kernel_rfl) ?_ _
                    gi_wp2
                    exact HF.out
                  exact AllReadyIn.nil
                exact AllReadyIn.nil
              exact AllReadyIn.nil
            exact AllReadyIn.nil
          refine AllReadyIn.cons rfl (fun K hK => ?_) ?_
          · go_simp
            refine hK _ _ ?_
            clear hK K
            refine wpAnyIn_ready (rs := [0, 5]) (by kernel_rfl) (by simp) ?_
            refine AllReadyIn.cons rfl (fun K hK => ?_) ?_
            · go_simp
              refine hK _ _ ?_
              clear hK K
              refine wpAnyIn_ready (rs := [5]) (by kernel_rfl) (by simp) ?_
              refine AllReadyIn.cons rfl (fun K hK => ?_) ?_
              · go_simp
                refine hK _ _ ?_
                clear hK K
                refine wpAnyIn_ready (rs := [6]) (by kernel_rfl) (by simp) ?_
                refine AllReadyIn.cons rfl (fun K hK => ?_) ?_
                · refine stepIn_append rfl (.tmp 12) (.tmp 17) rfl _ _ rfl rfl _ _ HRUN.out ?_
                  go_simp
                  refine hK _ _ ?_
                  clear hK K
                  refine wpAnyIn_ready (rs := [7]) (by kernel_rfl) (by simp) ?_
                  refine AllReadyIn.cons rfl (fun K hK => ?_) ?_
                  · go_simp
                    refine hK _ _ ?_
                    clear hK K
                    refine wpAnyIn_done (by kernel_rfl) ?_ _
                    gi_wp2
                    exact HF.out
                  exact AllReadyIn.nil
                exact AllReadyIn.nil
              exact AllReadyIn.nil
            refine AllReadyIn.cons rfl (fun K hK => ?_) ?_
            · go_simp
              refine hK _ _ ?_
              clear hK K
              refine wpAnyIn_ready (rs := [0]) (by kernel_rfl) (by simp) ?_
              refine AllReadyIn.cons rfl (fun K hK => ?_) ?_
              · go_simp
                refine hK _ _ ?_
                clear hK K
                refine wpAnyIn_ready (rs := [6]) (by kernel_rfl) (by simp) ?_
                refine AllReadyIn.cons rfl (fun K hK => ?_) ?_
                · refine stepIn_append rfl (.tmp 12) (.tmp 17) rfl _ _ rfl rfl _ _ HRUN.out ?_
                  go_simp
                  refine hK _ _ ?_
                  clear hK K
                  refine wpAnyIn_ready (rs := [7]) (by kernel_rfl) (by simp) ?_
                  refine AllReadyIn.cons rfl (fun K hK => ?_) ?_
                  · go_simp
                    refine hK _ _ ?_
                    clear hK K
                    refine wpAnyIn_done (by kernel_rfl) ?_ _
                    gi_wp2
                    exact HF.out
                  exact AllReadyIn.nil
                exact AllReadyIn.nil
              exact AllReadyIn.nil
            exact AllReadyIn.nil
          exact AllReadyIn.nil
        exact AllReadyIn.nil
      exact AllReadyIn.nil
    exact AllReadyIn.nil
  case done =>
    rintro D ys W hD rfl ⟨⟨v, hv, hr, hn⟩, hB⟩ hK
    obtain ⟨p, c, rfl⟩ := row_form hr
    have r0 : W.cell? ⟨P + 1, 0, none⟩ = some (.slice p (subA L x d).length c) := hv.cell 0 (by simp)
    have HF := Lib.hid (show W.ownsRow w.heap.size 32 2 (.slice p (subA L x d).length c) (subA L x d).length (pcells ((subA L x d).map (fun e => tkey e.1))) ∧ Below w.heap.size w W from ⟨hr, hB⟩)
    obtain ⟨z, hz⟩ : ∃ z, (subA L x d).length = z := ⟨_, rfl⟩
    have HZ := Lib.hid hz
    rw [hz] at r0 HF
    clear hv hr hn hB hz
    gi_wp2
    refine ⟨by simp, .inl ⟨_, _, rfl, run_takeDeferred hK, ?_⟩⟩
    refine ⟨_, results_tmp rfl _ _ _, (subA L x d).map (fun e => tkey e.1), p, c, HSUB.out, ?_, ?_, ?_⟩
    · rw [List.length_map, HZ.out]; rfl
    · rw [List.length_map, HZ.out]
      exact row_own HF.out.1 (grownBy_putObj' _ D (.deferred none)) (fun r e => by cases e; exact ⟨_, hK, rfl⟩)
    · exact HF.out.2.trans (belowK_b (w := w) (Nat.le_refl _) _ D _ _ (Nat.le_trans HAL2.out.1.size hD) hK rfl rfl)
  case stop =>
    rintro D c pre W hD _ h _
    exact h.elim
end Go.Proofs.Ytipecocalmmmbaa
