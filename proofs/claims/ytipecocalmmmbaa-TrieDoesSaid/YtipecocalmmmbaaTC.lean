/- trie: those below a node, as an iterator tells them. -/
import Derived.Test.YtipecocalmmmbaaTB
namespace Go.Proofs.Ytipecocalmmmbaa
open Go.RowKit Go.Shelf
set_option linter.unusedVariables false
set_option linter.unusedSimpArgs false

attribute [local go_sem] Oper.semAt_some
attribute [local go_sem, local simp] wide_fn

theorem RoundIn.wide {m m' : Nat} {P : Program} {l : Nat} {f : FuncId} {tmps : Array Value} {assign body : Code} {w : World} {R : Ending → World → Prop} (h : RoundIn Fence.wide m P l f tmps assign body w R) : RoundIn Fence.wide m' P l f tmps assign body w R :=
  ⟨h.1, fun c cs _ => h.2 c cs (room_wide _)⟩
theorem YieldAt.wide {m : Nat} (m' : Nat) {P : Program} {l : Nat} {args : Array Value} {W : World} {R : Ending → World → Prop} (h : YieldAt Fence.wide m P l args W R) : YieldAt Fence.wide m' P l args W R := by
  obtain ⟨fn, tmps, assign, body, hy, hR⟩ := h
  exact ⟨fn, tmps, assign, body, hy, RoundIn.wide hR⟩
/-- A thing of the list. -/
abbrev MT (L : List TE) : Type := { e : TE // e ∈ L }
/-- Those below a node. -/
def subA (L : List TE) (x : Int) (d : Nat) : List (MT L) := L.attach.filter (fun e => inSub x d e.1)
theorem subA_val (L : List TE) (x : Int) (d : Nat) : (subA L x d).map (·.1) = L.filter (inSub x d) := by
  unfold subA
  have h := List.filter_map (f := fun e : MT L => e.1) (p := inSub x d) (l := L.attach)
  rw [show L.attach.map (fun e : MT L => e.1) = L from List.attach_map_subtype_val L] at h
  rw [h]; rfl
theorem mt_ext {L : List TE} : ∀ {xs ys : List (MT L)}, xs.map (·.1) = ys.map (·.1) → xs = ys
  | [], [], _ => rfl
  | [], _ :: _, h => by cases h
  | _ :: _, [], h => by cases h
  | x :: xs, y :: ys, h => by
    injection h with h1 h2
    rw [Subtype.ext h1, mt_ext h2]
theorem TrAt.sub_none {TR ND TH : TypeId} {w : World} {B t r : Nat} {s : Int} {N : Int → Nat → Option Nat} {L : List TE} (h : TrAt TR ND TH w B t r s N L) {x : Int} {d : Nat} (hn : N x d = none) : subA L x d = [] := by
  apply mt_ext
  rw [subA_val]
  show L.filter (inSub x d) = []
  rw [List.filter_eq_nil_iff]
  intro e he hi
  obtain ⟨h1, h2⟩ := of_decide_eq_true hi
  have ho := h.tl.ok e he
  obtain ⟨c, hc⟩ := (h.thing e he).1
  have hnd := ho.node
  have e1 : mk e.a ((e.n.toNat : Nat) : Int) = e.a := hnd.1.eq
  obtain ⟨c', hc'⟩ := h.upto ho.a0 ho.a1 (j := e.n.toNat) (by rw [e1]; exact hc) hnd.1.d32 (d := d) (by omega)
  rw [h2, hn] at hc'; cases hc'
theorem TrAt.sub_some {TR ND TH : TypeId} {w : World} {B t r : Nat} {s : Int} {N : Int → Nat → Option Nat} {L : List TE} (h : TrAt TR ND TH w B t r s N L) {x : Int} {d b : Nat} (hb : N x d = some b) :
    (subA L x d).map (·.1) = (atT L x d).toList ++ ((subA L x (d + 1)).map (·.1) ++ (subA L (x + pw d) (d + 1)).map (·.1)) := by
  have hf := h.fit _ _ _ hb
  rw [subA_val, subA_val, subA_val]
  by_cases h31 : d ≤ 31
  · exact sub_split h.tl hf h31
  · obtain rfl : d = 32 := by have := hf.d32; omega
    have hno : ∀ y, L.filter (inSub y (32 + 1)) = [] := fun y => by
      rw [List.filter_eq_nil_iff]
      intro e he hi
      obtain ⟨h1, h2⟩ := of_decide_eq_true hi
      have := (h.tl.ok e he).node
      have := this.1.d32
      omega
    rw [hno, hno, sub_last h.tl hf]; simp
/-- What the walk through the nodes reads. -/
structure EaS (TR ND TH : TypeId) (w : World) (B t r : Nat) (s : Int) (N : Int → Nat → Option Nat) (L : List TE) (S : Nat → Prop) (M : Nat) : Prop where
  intro ::
  tr : TrAt TR ND TH w B t r s N L
  inM : ∀ k, (TrIn t N k ∨ ∃ e ∈ L, e.g = k) → k < M ∧ ¬ S k
theorem EaS.cells {TR ND TH : TypeId} {w w' : World} {B t r : Nat} {s : Int} {N : Int → Nat → Option Nat} {L : List TE} {S : Nat → Prop} {M : Nat} (h : EaS TR ND TH w B t r s N L S M) (hk : KpX S M w w') {x : Int} {d b : Nat} (hb : N x d = some b) :
    w'.cell? ⟨b, 0, none⟩ = some (optP ((atT L x d).map TE.g)) ∧ w'.cell? ⟨b, 1, none⟩ = some (optP (N x (d + 1))) ∧ w'.cell? ⟨b, 2, none⟩ = some (optP (N (x + pw d) (d + 1))) := by
  obtain ⟨hM, hS⟩ := h.inM b (.inl (.inr ⟨_, _, hb⟩))
  have := hk.blk (h.tr.node _ _ _ hb) hM hS
  exact ⟨this.cell 0 (by simp), this.cell 1 (by simp), this.cell 2 (by simp)⟩
theorem each_nil_int (n : Nat) (f : Value) (W : World) : CallsIn Fence.wide n Try.prog 61 #[.pointer none, f] W fun e W' => e = .returned (.bool true) ∧ W' = W := by
  refine callsIn_of_wp Try.func61 rfl trivial ?_ rfl
  simp only [Try.ntmps61, List.size_toArray, List.length_cons, List.length_nil, Nat.reduceAdd, Nat.reduceSub, Array.replicate_succ, Array.replicate_zero, List.push_toArray, List.append_toArray, List.nil_append, List.cons_append]
  gi_wp2
  go_ret
  exact ⟨rfl, rfl⟩
set_option maxRecDepth 100000 in
set_option maxHeartbeats 8000000 in
theorem each_int (w : World) (B t r : Nat) (s : Int) (N : Int → Nat → Option Nat) (L : List TE) (S : Nat → Prop) (M : Nat) (h : EaS TRi NDi THi w B t r s N L S M) (l K : Nat) (J Jx : List (MT L) → World → Prop)
    (hY : ∀ m pre (x : MT L) W, J pre W → pre.length < K → YieldAt Fence.wide m Try.prog l #[.pointer (some ⟨x.1.g, 0, none⟩)] W fun e W' =>
      (e = .returned (.bool true) ∧ J (pre ++ [x]) W' ∧ KpX S M W W') ∨ (e = .returned (.bool false) ∧ Jx (pre ++ [x]) W')) :
    ∀ (k d : Nat), d + k = 33 → ∀ (x : Int) (n : Nat) (pre : List (MT L)) (W : World), KpX S M w W → J pre W → pre.length + (subA L x d).length ≤ K →
      CallsIn Fence.wide n Try.prog 61 #[optP (N x d), .func (.yield l) #[] #[]] W fun e W' =>
        (e = .returned (.bool true) ∧ J (pre ++ subA L x d) W' ∧ KpX S M w W') ∨ (e = .returned (.bool false) ∧ ∃ q, q <+: subA L x d ∧ Jx (pre ++ q) W')
  | k, d, hd, x, n, pre, W, hk, hj, hlen => by
    rcases hN : N x d with _ | b
    · rw [optP_none]
      refine (each_nil_int n _ W).mono ?_
      rintro e W' ⟨rfl, rfl⟩
      exact .inl ⟨rfl, by rw [h.tr.sub_none hN, List.append_nil]; exact hj, hk⟩
    · obtain ⟨k, rfl⟩ : ∃ k', k = k' + 1 := ⟨k - 1, by have := (h.tr.fit _ _ _ hN).d32; omega⟩
      have ihl := each_int w B t r s N L S M h l K J Jx hY k (d + 1) (by omega) x
      have ihr := each_int w B t r s N L S M h l K J Jx hY k (d + 1) (by omega) (x + pw d)
      rw [optP_some]
      obtain ⟨c0, c1, c2⟩ := h.cells hk hN
      have hsub := h.tr.sub_some hN
      obtain ⟨A1, hA1⟩ : ∃ A, subA L x (d + 1) = A := ⟨_, rfl⟩
      obtain ⟨A2, hA2⟩ : ∃ A, subA L (x + pw d) (d + 1) = A := ⟨_, rfl⟩
      obtain ⟨A0, hA0⟩ : ∃ A, subA L x d = A := ⟨_, rfl⟩
      rw [hA1] at ihl
      rw [hA2] at ihr
      rw [hA0] at hlen ⊢
      rw [hA0, hA1, hA2] at hsub
      have hcc : ∀ W', KpX S M w W' → W'.cell? ⟨b, 1, none⟩ = some (optP (N x (d + 1))) ∧ W'.cell? ⟨b, 2, none⟩ = some (optP (N (x + pw d) (d + 1))) := fun W' hk' => (h.cells hk' hN).2
      obtain ⟨v1, hv1⟩ : ∃ v, optP (N x (d + 1)) = v := ⟨_, rfl⟩
      obtain ⟨v2, hv2⟩ : ∃ v, optP (N (x + pw d) (d + 1)) = v := ⟨_, rfl⟩
      rw [hv1] at ihl c1
      rw [hv2] at ihr c2
      rw [hv1, hv2] at hcc
      have HL := Lib.hid (show ∀ (pre1 : List (MT L)) (W1 : World), KpX S M w W1 → J pre1 W1 → pre1.length + A1.length ≤ K → CallsIn Fence.wide (n - 1) Try.prog 61 #[v1, .func (.yield l) #[] #[]] W1 fun e W2 =>
          (e = .returned (.bool true) ∧ J (pre1 ++ A1) W2 ∧ KpX S M w W2 ∧ W2.cell? ⟨b, 2, none⟩ = some v2) ∨ (e = .returned (.bool false) ∧ ∃ q, q <+: A1 ∧ Jx (pre1 ++ q) W2) from
        fun pre1 W1 h1 h2 h3 => (ihl (n - 1) pre1 W1 h1 h2 h3).mono fun e W2 h => h.elim (fun ⟨he, hj, hk⟩ => .inl ⟨he, hj, hk, (hcc W2 hk).2⟩) .inr)
      have HR := Lib.hid (fun (pre1 : List (MT L)) (W1 : World) (h1 : KpX S M w W1) (h2 : J pre1 W1) (h3 : pre1.length + A2.length ≤ K) => ihr (n - 1) pre1 W1 h1 h2 h3)
      have hdd : ∀ k : Nat, (Fence.wide.depth.isSome = true → 1 ≤ k) := fun k h => by cases h
      clear ihl ihr
      rcases hat : atT L x d with _ | e
      · rw [hat] at c0 hsub
        change W.cell? ⟨b, 0, none⟩ = some (.pointer none) at c0
        have HS := Lib.hid (show A0 = A1 ++ A2 from mt_ext (by rw [List.map_append]; simpa using hsub))
        have HC1 := Lib.hid (HL.out pre W hk hj (by have := congrArg List.length HS.out; rw [List.length_append] at this; omega))
        have HLN := Lib.hid (show pre.length + A1.length + A2.length ≤ K by have := congrArg List.length HS.out; rw [List.length_append] at this; omega)
        clear hsub hat hcc hlen HL hv1 hv2 hA0 hA1 hA2 hj hk hN
        refine callsIn_of_wp Try.func61 rfl trivial ?_ rfl
        simp only [Try.ntmps61, List.size_toArray, List.length_cons, List.length_nil, Nat.reduceAdd, Nat.reduceSub, Array.replicate_succ, Array.replicate_zero, List.push_toArray, List.append_toArray, List.nil_append, List.cons_append]
        gi_wp2_with (first
          | ((try refine ⟨hdd _, ?_⟩); gi_at_call 61; refine HC1.out.mono ?_; clear HC1; rintro e W2 (⟨rfl, hj2, hk2, c2'⟩ | ⟨rfl, q, hq, hx2⟩))
          | ((try refine ⟨hdd _, ?_⟩); gi_at_call 61; refine (HR.out _ _ hk2 hj2 (by rw [List.length_append]; exact HLN.out)).mono ?_; rintro e W3 (⟨rfl, hj3, hk3⟩ | ⟨rfl, q, hq, hx3⟩)))
        · go_ret
          exact .inl ⟨rfl, by rw [HS.out, ← List.append_assoc]; exact hj3, hk3⟩
        · go_ret
          exact .inr ⟨rfl, A1 ++ q, by rw [HS.out]; exact (List.prefix_append_right_inj A1).2 hq, by rw [← List.append_assoc]; exact hx3⟩
        · first | go_ret | (refine ⟨fun _ h => (by cases h), ?_⟩; gi_wp2; go_ret) | (gi_wp2; go_ret)
          exact .inr ⟨rfl, q, by rw [HS.out]; exact hq.trans (List.prefix_append _ _), hx2⟩
      · rw [hat] at c0 hsub
        change W.cell? ⟨b, 0, none⟩ = some (.pointer (some ⟨e.g, 0, none⟩)) at c0
        obtain ⟨xe, hxe⟩ : ∃ xe : MT L, xe.1 = e := ⟨⟨e, (atT_some hat).1⟩, rfl⟩
        have HS := Lib.hid (show A0 = [xe] ++ (A1 ++ A2) from mt_ext (by rw [List.map_append, List.map_append, hsub]; simp [hxe]))
        have HLN := Lib.hid (show pre.length + 1 + A1.length + A2.length ≤ K by have := congrArg List.length HS.out; rw [List.length_append, List.length_append] at this; simp at this; omega)
        have hy := (hY (n - 1) pre xe W hj (by have := HLN.out; omega)).mono (R' := fun e W1 => (e = .returned (.bool true) ∧ J (pre ++ [xe]) W1 ∧ KpX S M w W1 ∧ W1.cell? ⟨b, 1, none⟩ = some v1) ∨ (e = .returned (.bool false) ∧ Jx (pre ++ [xe]) W1))
          (fun e W1 h => h.elim (fun ⟨he, hj, hk1⟩ => .inl ⟨he, hj, kpX_t hk hk1, (hcc W1 (kpX_t hk hk1)).1⟩) .inr)
        rw [hxe] at hy
        obtain ⟨eg, heg⟩ : ∃ g, e.g = g := ⟨_, rfl⟩
        rw [heg] at c0 hy
        obtain ⟨fn, tmps, assign, body, hy, hRR⟩ := hy
        clear hsub hat hcc hlen hv1 hv2 hA0 hA1 hA2 hj hk hN c1 c2 hxe heg
        refine callsIn_of_wp Try.func61 rfl trivial ?_ rfl
        simp only [Try.ntmps61, List.size_toArray, List.length_cons, List.length_nil, Nat.reduceAdd, Nat.reduceSub, Array.replicate_succ, Array.replicate_zero, List.push_toArray, List.append_toArray, List.nil_append, List.cons_append]
        gi_wp2_with (first
          | ((try refine ⟨hdd _, ?_⟩); refine hRR.mono ?_; clear hRR; rintro e W1 (⟨rfl, hj1, hk1, c1'⟩ | ⟨rfl, hx1⟩))
          | ((try refine ⟨hdd _, ?_⟩); gi_at_call 61; refine (HL.out _ _ hk1 hj1 (by have := HLN.out; rw [List.length_append]; simp; omega)).mono ?_; clear HL; rintro e W2 (⟨rfl, hj2, hk2, c2'⟩ | ⟨rfl, q, hq, hx2⟩))
          | ((try refine ⟨hdd _, ?_⟩); gi_at_call 61; refine (HR.out _ _ hk2 hj2 (by have := HLN.out; rw [List.length_append, List.length_append]; simp; omega)).mono ?_; rintro e W3 (⟨rfl, hj3, hk3⟩ | ⟨rfl, q, hq, hx3⟩)))
        · go_ret
          exact .inl ⟨rfl, by rw [HS.out, ← List.append_assoc, ← List.append_assoc]; exact hj3, hk3⟩
        · go_ret
          exact .inr ⟨rfl, [xe] ++ (A1 ++ q), by rw [HS.out]; exact (List.prefix_append_right_inj [xe]).2 ((List.prefix_append_right_inj A1).2 hq), by rw [← List.append_assoc, ← List.append_assoc]; exact hx3⟩
        · first | go_ret | (refine ⟨fun _ h => (by cases h), ?_⟩; gi_wp2; go_ret) | (gi_wp2; go_ret)
          exact .inr ⟨rfl, [xe] ++ q, by rw [HS.out]; exact (List.prefix_append_right_inj [xe]).2 (hq.trans (List.prefix_append _ _)), by rw [← List.append_assoc]; exact hx2⟩
        · first | go_ret | (refine ⟨fun _ h => (by cases h), ?_⟩; gi_wp2; go_ret) | (gi_wp2; go_ret)
          exact .inr ⟨rfl, [xe], by rw [HS.out]; exact List.prefix_append _ _, hx1⟩
/-- 'things': the node is boxed. -/
theorem things_int (w : World) (p : Option Addr) :
    Calls Try.prog 46 #[.pointer p] w fun e w' => e = .returned (.func (.func 60) #[] #[.pointer (some ⟨w.heap.size, 0, none⟩)]) ∧ w' = w.alloc (.cells #[.pointer p] 57) := by
  go_enter Try.func46, Try.ntmps46
  go_wp2
  go_ret
  exact ⟨rfl, rfl⟩
def encMT {L : List TE} (x : MT L) : Array Value := #[.pointer (some ⟨x.1.g, 0, none⟩)]
set_option maxRecDepth 100000 in
set_option maxHeartbeats 4000000 in
theorem things1_int (n : Nat) (w : World) (B t r : Nat) (s : Int) (N : Int → Nat → Option Nat) (L : List TE) (S : Nat → Prop) (M : Nat) (h : EaS TRi NDi THi w B t r s N L S M) (hM : M ≤ w.heap.size) (x : Int) (d : Nat) (hd : d ≤ 33) (Bn : Nat) (hB : w.cell? ⟨Bn, 0, none⟩ = some (optP (N x d))) :
    SeqStopsK Fence.wide n Try.prog 60 #[.pointer (some ⟨Bn, 0, none⟩)] (encMT (L := L)) (KpX S M) (fun ys => ys = subA L x d) (fun ys => ys <+: subA L x d) (subA L x d).length w := fun l J Jx W hW hJ hJx hY h0 => by
  have hE : EaS TRi NDi THi W B t r s N L S M := ⟨h.tr.below hW, h.inM⟩
  have hc : W.cell? ⟨Bn, 0, none⟩ = some (optP (N x d)) := kept hW hB
  have HE := Lib.hid (each_int W B t r s N L S M hE l (subA L x d).length J Jx (fun m pre y U hj hl => YieldAt.wide m (hY pre y U hj hl)) (33 - d) d (by omega) x (n - 1) [] W (KpX.refl _ _ _) h0 (by simp))
  have hdd : ∀ k : Nat, (Fence.wide.depth.isSome = true → 1 ≤ k) := fun k h => by cases h
  obtain ⟨v, hv⟩ : ∃ v, optP (N x d) = v := ⟨_, rfl⟩
  rw [hv] at hc HE
  clear h hM hB hW hJ hJx hY h0 hE hv
  refine callsIn_of_wp Try.func60 rfl trivial ?_ rfl
  simp only [Try.ntmps60, List.size_toArray, List.length_cons, List.length_nil, Nat.reduceAdd, Nat.reduceSub, Array.replicate_succ, Array.replicate_zero, List.push_toArray, List.append_toArray, List.nil_append, List.cons_append]
  gi_wp2_with ((try refine ⟨hdd _, ?_⟩); gi_at_call 61; refine HE.out.mono ?_; clear HE; rintro e W1 (⟨rfl, hj1, _⟩ | ⟨rfl, q, hq, hx⟩))
  · go_end0
    exact ⟨⟨_, rfl⟩, .inl ⟨_, rfl, by simpa using hj1⟩⟩
  · go_end0
    exact ⟨⟨_, rfl⟩, .inr ⟨q, hq, by simpa using hx⟩⟩
end Go.Proofs.Ytipecocalmmmbaa
