/- hop: the document's Sort. -/
import Derived.Test.YtlkpalaakncicaaWS
import Derived.Test.YtlkpalaakncicaaWN
import Derived.Test.YtlkpalaakncicaaWE
namespace Go.Proofs.Ytlkpalaakncicaa
open Go.RowKit
set_option linter.unusedVariables false
set_option linter.unusedSimpArgs false
set_option maxRecDepth 100000

/-- What is out so far, of the first j. -/
def SoI (w : World) (l : List Ifc) (n : Nat) (vo vi : Value) (wr : World) : Prop :=
  ∃ (j : Nat) (os : List Ifc) (po : Option Addr) (m co : Nat), j ≤ n ∧ vi = .int .i64 j ∧ vo = .slice po m co ∧ os.length = m ∧ m ≤ co ∧ os.Pairwise (fun x y : Ifc => x.id < y.id) ∧ (l.take j).Perm os ∧ IfsAt wr po os ∧ Below w.heap.size w wr
theorem ins_sorted {os : List Ifc} (hs : os.Pairwise (fun x y : Ifc => x.id < y.id)) (x : Ifc) (k : Nat) (hk : k ≤ os.length) (hlow : ∀ i, i < k → (os.getD i Ifc.zero).id < x.id) (hstop : k = os.length ∨ ¬ (os.getD k Ifc.zero).id < x.id) (hne : ∀ y ∈ os, y.id ≠ x.id) : ((os.take k ++ [x]) ++ os.drop k).Pairwise (fun x y : Ifc => x.id < y.id) := by
  have hd : ∀ y ∈ os.drop k, x.id < y.id := by
    rcases hstop with h | h
    · rw [List.drop_eq_nil_of_le (by omega)]; intro y hy; cases hy
    · by_cases hkl : k < os.length
      · have hdk := List.drop_eq_getElem_cons hkl
        have hg : os.getD k Ifc.zero = os[k] := by simp [List.getD, hkl]
        rw [hg] at h
        have hx : x.id < os[k].id := by
          have := hne os[k] (List.getElem_mem hkl)
          omega
        have hp := hs.drop (i := k)
        rw [hdk, List.pairwise_cons] at hp
        rw [hdk]
        intro y hy
        rcases List.mem_cons.1 hy with rfl | hy
        · exact hx
        · have := hp.1 y hy; omega
      · rw [List.drop_eq_nil_of_le (by omega)]; intro y hy; cases hy
  have ht : ∀ y ∈ os.take k, y.id < x.id := by
    intro y hy
    obtain ⟨i, hi, rfl⟩ := List.getElem_of_mem hy
    rw [List.length_take] at hi
    have := hlow i (by omega)
    rw [List.getElem_take]
    simpa [List.getD, show i < os.length by omega] using this
  have h0 : (os.take k ++ os.drop k).Pairwise (fun x y : Ifc => x.id < y.id) := by rw [List.take_append_drop]; exact hs
  rw [List.pairwise_append] at h0
  rw [List.append_assoc, List.pairwise_append]
  refine ⟨h0.1, ?_, ?_⟩
  · rw [List.singleton_append, List.pairwise_cons]; exact ⟨hd, h0.2.1⟩
  · intro a ha b hb
    rcases List.mem_append.1 hb with hb | hb
    · rw [List.mem_singleton.1 hb]; exact ht a ha
    · exact h0.2.2 a ha b hb
theorem ins_perm {l os : List Ifc} {j : Nat} (hj : j < l.length) (hp : (l.take j).Perm os) (k : Nat) : (l.take (j + 1)).Perm ((os.take k ++ [l.getD j Ifc.zero]) ++ os.drop k) := by
  rw [List.take_add_one, show l[j]?.toList = [l.getD j Ifc.zero] by simp [List.getD, hj]]
  have h1 : (os.take k ++ [l.getD j Ifc.zero] ++ os.drop k).Perm ((os.take k ++ os.drop k) ++ [l.getD j Ifc.zero]) := by
    rw [List.append_assoc, List.append_assoc]
    exact List.Perm.append_left _ List.perm_append_comm
  rw [List.take_append_drop] at h1
  exact (hp.append_right _).trans h1.symm
theorem run_cutI_hm (w : World) (p : Option Addr) (L cap : Nat) (I : Int) (i : Nat) (hI : I = i) (hi : i ≤ cap) :
    (Instr.slice 22 (.slice p L cap) none (some (.int .i64 I)) (some (.int .i64 I))).run Try.prog w = .ok (.slice p i i) w := by
  subst hI
  rw [run_slice_hm (ht := ifsl_elem) (h0 := by omega) (h2 := by omega) (h3 := by omega), ifsl_size]
  simp only [Result.andThen, sliced, Int.toNat_natCast, Nat.zero_mul, Nat.sub_zero]
  congr 2
  split
  · rfl
  · rcases p with _ | ⟨b, o, s⟩
    · rfl
    · rw [Option.map_some]
      unfold Addr.add
      split <;> simp_all
theorem step_appFullI {ops : Array Oper} {o : Oper} {a : Act} {w : World} {K : Act → World → Prop} {Q : Exit → Act → World → Prop} {E : Prop} (hgd : o.guard = none) (s x : Operand)
    (ho : o.op = .call { callee := .builtin .append, args := #[s, x], argTypes := #[22, 22] })
    (p : Option Addr) (n : Nat) (l : List Ifc) (h1 : IfsAt w p l) (hn : l.length = n) (hs : a.eval s = .slice p n n)
    (q : Option Addr) (m c : Nat) (ys : List Ifc) (hy : IfsAt w q ys) (hm : ys.length = m) (hx : a.eval x = .slice q m c) (hm0 : 0 < m) (hn1 : n ≤ 100000) (hm1 : m ≤ 100000) (z : Nat) (hz : w.heap.size = z)
    (h : ∀ C w', Hid (IfsOwn w' z (some ⟨z, 0, none⟩) (n + m) C (l ++ ys)) → Hid (Below z w w') → K (a.put o.dst (.slice (some ⟨z, 0, none⟩) (n + m) C)) w') :
    if Region.wanted o (yielded ops a.tmps) = true then Oper.wp Try.prog o a w K Q else E := by
  have hw : Region.wanted o (yielded ops a.tmps) = true := by simp [Region.wanted, hgd]
  rw [if_pos hw]
  subst hz
  obtain ⟨C, w', hr, h2, h3⟩ := run_appFullI w o.type p l n h1 hn hn1 q c m ys hy hm hm0 hm1
  unfold Oper.wp execOp
  simp only [ho, resolve, invoke, builtin, Sem.run_bind, Sem.run_pure, Result.andThen_ok, List.map_toArray, List.map_cons, List.map_nil, hs, hx, hr]
  exact h C w' (Lib.hid h2) (Lib.hid h3)
theorem ifs_belowS {V w5 : World} {n : Nat} {p : Option Addr} {l : List Ifc} (hs : V.heap.size = n) (h : IfsAt V p l) (hb : Below n V w5) : IfsAt w5 p l := by
  subst hs; exact h.below hb
theorem sz_allocDI (w : World) (o : Obj) : (w.alloc o).drew.heap.size = w.heap.size + 1 := sz_alloc w o
theorem box5I {V w5 : World} {b o0 o1 o2 o3 o4 n : Nat} {v0 v1 v2 v3 v4 : Option Value} (hlt : b < n) (hb : Below n V w5) (h : V.cell? ⟨b, o0, none⟩ = v0 ∧ V.cell? ⟨b, o1, none⟩ = v1 ∧ V.cell? ⟨b, o2, none⟩ = v2 ∧ V.cell? ⟨b, o3, none⟩ = v3 ∧ V.cell? ⟨b, o4, none⟩ = v4) : w5.cell? ⟨b, o0, none⟩ = v0 ∧ w5.cell? ⟨b, o1, none⟩ = v1 ∧ w5.cell? ⟨b, o2, none⟩ = v2 ∧ w5.cell? ⟨b, o3, none⟩ = v3 ∧ w5.cell? ⟨b, o4, none⟩ = v4 :=
  ⟨(hb.cell (p := ⟨b, o0, none⟩) hlt).trans h.1, (hb.cell (p := ⟨b, o1, none⟩) hlt).trans h.2.1, (hb.cell (p := ⟨b, o2, none⟩) hlt).trans h.2.2.1, (hb.cell (p := ⟨b, o3, none⟩) hlt).trans h.2.2.2.1, (hb.cell (p := ⟨b, o4, none⟩) hlt).trans h.2.2.2.2⟩
theorem sz_leI {V w5 : World} {n : Nat} (hs : V.heap.size = n) (h : V.heap.size ≤ w5.heap.size) : n ≤ w5.heap.size := by omega
theorem so_below {w W w3 V w5 w6 : World} (h1 : Below w.heap.size w W) (h2 : Below W.heap.size W w3) (h3 : Below w3.heap.size w3 V) (h4 : Below (w3.heap.size + 1) V w5) (h5 : Below (w3.heap.size + 1) w5 w6) : Below w.heap.size w w6 := by
  have s1 := h1.size
  have s2 := h2.size
  exact (((h1.trans (h2.mono s1)).trans (h3.mono (by omega))).trans (h4.mono (by omega))).trans (h5.mono (by omega))
theorem so_next {w w6 : World} {l os : List Ifc} {n j m k c6 : Nat} {x : Ifc} {p6 : Option Addr} {B : Nat} (hnd : l.Nodup) (hap : Apart l) (hlt : j < n) (hn : l.length = n) (hm : os.length = m) (hx : l.getD j Ifc.zero = x) (hs : os.Pairwise (fun x y : Ifc => x.id < y.id)) (hp : (l.take j).Perm os) (hkm : k ≤ m) (hlow : ∀ i, i < k → (os.getD i Ifc.zero).id < x.id) (hstop : k = os.length ∨ x.id ≤ (os.getD k Ifc.zero).id)
    (ho : IfsOwn w6 B p6 (m + 1) c6 ((os.take k ++ [x]) ++ os.drop k)) (hb : Below w.heap.size w w6) : SoI w l n (.slice p6 (m + 1) c6) (.int .i64 ((j : Int) + 1)) w6 := by
  have hxl : x ∈ l := by rw [← hx]; simp [List.getD, show j < l.length by omega]
  have hjx : l[j]? = some x := by rw [← hx]; simp [List.getD, show j < l.length by omega]
  have hne : ∀ y ∈ os, y.id ≠ x.id := by
    intro y hy e
    have hy2 := (hp.mem_iff).2 hy
    have hyl := List.mem_of_mem_take hy2
    have h1 := hap y hyl
    have h2 := hap x hxl
    rw [e, h2] at h1
    have e2 : x = y := Option.some.inj h1
    subst e2
    have hjl : j < l.length := by omega
    have hje : l[j] = x := by
      have := hjx
      rw [List.getElem?_eq_getElem hjl] at this
      exact Option.some.inj this
    have hsp := hnd
    rw [← List.take_append_drop j l, List.nodup_append] at hsp
    exact hsp.2.2 x hy2 x (by rw [List.drop_eq_getElem_cons hjl, hje]; exact List.mem_cons_self) rfl
  refine ⟨j + 1, _, p6, m + 1, c6, by omega, rfl, rfl, ho.len, ho.cap.1, ins_sorted hs x k (by omega) hlow (hstop.imp id Int.not_lt.2) hne, ?_, ho.at, hb⟩
  have := ins_perm (l := l) (by omega) hp k
  rw [hx] at this
  exact this
set_option maxHeartbeats 8000000 in
theorem rsortI_any (p : Option Addr) (l : List Ifc) (n c : Nat) (w : World) (hl : IfsAt w p l) (hn : l.length = n) (hok : okIfs l = true) :
    Calls Try.prog 17 #[.slice p n c] w fun e w' => ∃ q k cap ss, e = .returned (.slice q k cap) ∧ ss.length = k ∧ k ≤ cap ∧ l.Perm ss ∧ ss.Pairwise (fun x y : Ifc => x.id < y.id) ∧ IfsAt w' q ss ∧ Below w.heap.size w w' := by
  have hap := okIfs_apart hok
  have h256 := ((okIfs_iff l).1 hok).1
  rw [hn] at h256
  have hnd := okIfs_nodup hok
  have HL := Lib.hid hl
  have HN := Lib.hid hn
  have HAP := Lib.hid hap
  have HND := Lib.hid hnd
  clear hl hn hap hnd hok
  go_enter Try.func17, Try.ntmps17
  go_wp2_with fail
  go_loopw [3, 4, 5, 6] (fun vo vi _ _ wr => SoI w l n vo vi wr) (fun _ vi _ _ _ => n - (intOf vi).toNat)
  case atStart => exact ⟨0, [], none, 0, 0, Nat.zero_le _, rfl, rfl, rfl, Nat.le_refl _, List.Pairwise.nil, by simp, IfsAt.nil _ _, Below.refl _ _⟩
  case round =>
    obtain ⟨j, os, po, m, co, hj, rfl, rfl, hm, hco, hsrt, hpm, hat, hbw⟩ := hrel
    have hmj : m ≤ 256 := by have := hpm.length_eq; rw [List.length_take] at this; have := HN.out; omega
    have HM := Lib.hid hm
    have HCO := Lib.hid hco
    have HSRT := Lib.hid hsrt
    have HPM := Lib.hid hpm
    have HAT := Lib.hid hat
    have HB := Lib.hid hbw
    clear hm hco hsrt hpm hat
    by_cases hlt : j < n
    · have t1 : decide ((j : Int) < (n : Int)) = true := decide_eq_true (by omega)
      have hxi := HL.out.ok (l.getD j Ifc.zero) (by simp [List.getD, show j < l.length by rw [HN.out]; exact hlt])
      obtain ⟨b, off, rfl, e0, e1, e2, e3, e4⟩ := if_cell (HL.out.below hbw) HN.out hlt
      obtain ⟨x, hx⟩ : ∃ x, l.getD j Ifc.zero = x := ⟨_, rfl⟩
      rw [hx] at e0 e1 e2 e3 e4 hxi
      have HXI := Lib.hid hxi
      have HX := Lib.hid hx
      obtain ⟨xi, xr, xa, xn, xc⟩ := x
      dsimp only at e0 e1 e2 e3 e4
      have HE0 := Lib.hid e0
      clear hbw hx hxi e0 e1 e2 e3 e4
      obtain ⟨wo, hwo⟩ : ∃ wo, wo = wr := ⟨_, rfl⟩
      subst hwo
      go_wp2_with fail
      go_loopw [5] (fun vk wi => ∃ k : Nat, vk = .int .i64 k ∧ k ≤ m ∧ (∀ i, i < k → (os.getD i Ifc.zero).id < xi) ∧ Below wo.heap.size wo wi) (fun vk _ => m - (intOf vk).toNat)
      case atStart => exact ⟨0, rfl, Nat.zero_le _, fun i hi => by omega, Below.refl _ _⟩
      case round =>
        obtain ⟨k, rfl, hkm, hlow, hbi⟩ := hrel
        have HBI := Lib.hid hbi
        have c0 := kept hbi HE0.out
        have k0 : (0 : Int) ≤ (k : Int) := by omega
        have j0 : (0 : Int) ≤ (j : Int) := by omega
        have hjn : (j : Int) < (n : Int) := by omega
        by_cases hk : k < m
        · have t2 : decide ((k : Int) < (m : Int)) = true := decide_eq_true (by omega)
          have hkI : (k : Int) < (m : Int) := by omega
          obtain ⟨bo, oo, rfl, y0, _, _, _, _⟩ := if_cell (HAT.out.below hbi) HM.out hk
          obtain ⟨y, hy⟩ : ∃ y, os.getD k Ifc.zero = y := ⟨_, rfl⟩
          rw [hy] at y0
          have HY := Lib.hid hy
          obtain ⟨yi, yr, ya, yn, yc⟩ := y
          dsimp only at y0
          clear hy hbi
          by_cases hly : yi < xi
          · have t3 : decide (yi < xi) = true := decide_eq_true hly
            go_wp2_with fail
            go_quiet (fail)
            go_wp2_with fail
            go_roundw
            case rel => exact ⟨k + 1, by go_num, by omega, fun i hi => by
              rcases Nat.lt_or_ge i k with h | h
              · exact hlow i h
              · obtain rfl : i = k := by omega
                rw [HY.out]; exact hly, HBI.out.trans (below_dN _ _ _)⟩
            case measure => simp [intOf]; omega
          · have t3 : decide (yi < xi) = false := decide_eq_false hly
            go_wp2_with fail
            go_quiet (fail)
            clear y0 c0
            obtain ⟨W, hWW⟩ : ∃ W, wr.drewN nq = W := ⟨_, rfl⟩
            have hh1 : Below wo.heap.size wo W := hWW ▸ (HBI.out.trans (below_dN _ _ _))
            rw [hWW]
            have hh2 := HB.out.trans (hh1.mono HB.out.size)
            have HAT2 := Lib.hid (HAT.out.below hh1)
            obtain ⟨b9, o9, hpo9, d0, d1, d2, d3, d4⟩ := if_cell (HL.out.below hh2) HN.out hlt
            simp only [Option.some.injEq, Addr.mk.injEq, and_true] at hpo9
            obtain ⟨rfl, rfl⟩ := hpo9
            rw [HX.out] at d0 d1 d2 d3 d4
            dsimp only at d0 d1 d2 d3 d4
            have HBW := Lib.hid hh2
            have HLOW := Lib.hid hlow
            have HSTOP := Lib.hid (show k = os.length ∨ xi ≤ (os.getD k Ifc.zero).id from .inr (by rw [HY.out]; omega))
            obtain ⟨Q1, rc1, hdr⟩ := cutI_l W (some ⟨bo, oo, none⟩) os m co k HAT2.out HM.out hkm HCO.out
            have HDR := Lib.hid (hdr.below (newB W (.cells #[] 34)))
            have OL := Lib.hid (IfsOwn.lit0 W W.heap.size (Nat.le_refl _))
            have rc2 := fun u => run_cutI_hm u (some ⟨bo, oo, none⟩) m co (k : Int) k rfl (by have := HCO.out; omega)
            clear hWW hdr
            go_wp2_with (at_builtin; refine wpList_appnsI (o := ⟨some 36, _, _, _, _, _⟩) (by rfl) (.tmp 32) (.tmp 35) (by rfl) W.heap.size (some ⟨W.heap.size, 0, none⟩) 0 0 [] OL.out (by rfl) Q1 (m - k) (co - k) (os.drop k) HDR.out (by have := HM.out; simp; omega) (by rfl) (m - k) (by omega) (by omega) (by simp) ?_; intro p3 c3 w3 hO3 hB3)
            have h3b := (newB W (.cells #[] 34)).trans hB3.out
            have HW3 := Lib.hid h3b
            have hO3' := hO3.out
            rw [List.nil_append] at hO3'
            have hS : w3.drew.cell? ⟨b, off + j * 5, none⟩ = some (.int .i64 xi) ∧ w3.drew.cell? ⟨b, off + j * 5 + 1, none⟩ = some (.int .i64 xr) ∧ w3.drew.cell? ⟨b, off + j * 5 + 2, none⟩ = some (.int .u32 xa) ∧ w3.drew.cell? ⟨b, off + j * 5 + 3, none⟩ = some (.int .i64 xn) ∧ w3.drew.cell? ⟨b, off + j * 5 + 4, none⟩ = some (.int .i64 xc) := ⟨kept h3b.drew d0, kept h3b.drew d1, kept h3b.drew d2, kept h3b.drew d3, kept h3b.drew d4⟩
            have hbA : Below w3.heap.size w3 (w3.alloc (.cells #[.int .i64 xi, .int .i64 xr, .int .u32 xa, .int .i64 xn, .int .i64 xc] 34)).drew := (newB w3 _).drew
            have hbWA := h3b.trans (hbA.mono h3b.size)
            have hSA : (w3.alloc (.cells #[.int .i64 xi, .int .i64 xr, .int .u32 xa, .int .i64 xn, .int .i64 xc] 34)).drew.cell? ⟨b, off + j * 5, none⟩ = some (.int .i64 xi) ∧ (w3.alloc (.cells #[.int .i64 xi, .int .i64 xr, .int .u32 xa, .int .i64 xn, .int .i64 xc] 34)).drew.cell? ⟨b, off + j * 5 + 1, none⟩ = some (.int .i64 xr) ∧ (w3.alloc (.cells #[.int .i64 xi, .int .i64 xr, .int .u32 xa, .int .i64 xn, .int .i64 xc] 34)).drew.cell? ⟨b, off + j * 5 + 2, none⟩ = some (.int .u32 xa) ∧ (w3.alloc (.cells #[.int .i64 xi, .int .i64 xr, .int .u32 xa, .int .i64 xn, .int .i64 xc] 34)).drew.cell? ⟨b, off + j * 5 + 3, none⟩ = some (.int .i64 xn) ∧ (w3.alloc (.cells #[.int .i64 xi, .int .i64 xr, .int .u32 xa, .int .i64 xn, .int .i64 xc] 34)).drew.cell? ⟨b, off + j * 5 + 4, none⟩ = some (.int .i64 xc) := ⟨kept hbWA d0, kept hbWA d1, kept hbWA d2, kept hbWA d3, kept hbWA d4⟩
            have HSA := Lib.hid hSA
            have HBL := Lib.hid (show b < w3.heap.size + 1 from Nat.lt_succ_of_lt (World.block_lt_of_cell? w3 _ (kept h3b d0)))
            have HTK := Lib.hid (((HAT2.out.take k).below h3b).below hbA)
            have HXN := Lib.hid (show IfsAt (w3.alloc (.cells #[.int .i64 xi, .int .i64 xr, .int .u32 xa, .int .i64 xn, .int .i64 xc] 34)).drew (some ⟨w3.heap.size, 0, none⟩) [⟨xi, xr, xa, xn, xc⟩] from ((IfsOwn.lit w3 w3.heap.size [(⟨xi, xr, xa, xn, xc⟩ : Ifc)] (fun y hy => by simp at hy; subst hy; exact HXI.out) (Nat.le_refl _) (by unfold maxLen; simp)).at).below (Below.refl _ _).drew)
            have HRS := Lib.hid (hO3'.at.below hbA)
            have HTL := Lib.hid (show (os.take k).length = k by have := HM.out; rw [List.length_take]; omega)
            have HDL := Lib.hid (show (os.drop k).length = m - k by have := HM.out; rw [List.length_drop]; omega)
            have HK5 := Lib.hid (show k ≤ 100000 by omega)
            have HM5 := Lib.hid (show m + 1 ≤ 3518437208883 by omega)
            clear d0 d1 d2 d3 d4 hSA h3b hO3 hO3' hB3 HDR OL rc1 hh1 hh2 hbA hbWA
            go_wp2_with fail
            go_region_held_law (fun w' => w'.cell? ⟨b, off + j * 5, none⟩ = some (.int .i64 xi) ∧ w'.cell? ⟨b, off + j * 5 + 1, none⟩ = some (.int .i64 xr) ∧ w'.cell? ⟨b, off + j * 5 + 2, none⟩ = some (.int .u32 xa) ∧ w'.cell? ⟨b, off + j * 5 + 3, none⟩ = some (.int .i64 xn) ∧ w'.cell? ⟨b, off + j * 5 + 4, none⟩ = some (.int .i64 xc)) (first | with_reducible assumption | exact HSA.out) (first
              | (refine step_appFullI (o := ⟨some 46, _, _, _, _, _⟩) (by rfl) (.tmp 40) (.tmp 45) (by rfl) (some ⟨bo, oo, none⟩) k (os.take k) HTK.out HTL.out (by rfl) (some ⟨w3.heap.size, 0, none⟩) 1 1 [⟨xi, xr, xa, xn, xc⟩] HXN.out rfl (by rfl) (by omega) HK5.out (by omega) (w3.heap.size + 1) (sz_allocDI w3 _) ?_; intro C5 w5 hO5 hB5; have hS5 := box5I HBL.out hB5.out HSA.out; have HR5 := Lib.hid (ifs_belowS (sz_allocDI w3 _) HRS.out hB5.out))
              | (refine step_appnsJ (o := ⟨some 48, _, _, _, _, _⟩) (by rfl) (.tmp 46) (.tmp 47) (by rfl) (w3.heap.size + 1) (some ⟨w3.heap.size + 1, 0, none⟩) (k + 1) C5 (os.take k ++ [⟨xi, xr, xa, xn, xc⟩]) hO5.out (by rfl) p3 (m - k) c3 (os.drop k) HR5.out HDL.out (by rfl) (m + 1) (by omega) HM5.out (sz_leI (sz_allocDI w3 _) hB5.out.size) ?_; intro p6 c6 w6 hO6 hB6; have hS6 := box5I HBL.out hB6.out hS5))
            go_wp2_with fail
            go_roundw
            case rel => exact so_next HND.out HAP.out hlt HN.out HM.out HX.out HSRT.out HPM.out hkm HLOW.out HSTOP.out hO6.out (so_below HBW.out HW3.out ((newB w3 _).drew) hB5.out hB6.out)
            case measure => simp [intOf]; omega
        · obtain rfl : k = m := by omega
          have t2 : decide ((k : Int) < (k : Int)) = false := by simp
          clear hbi c0
          go_wp2_with fail
          go_quiet (fail)
          obtain ⟨W, hWW⟩ : ∃ W, wr.drewN nq = W := ⟨_, rfl⟩
          have hh1 : Below wo.heap.size wo W := hWW ▸ (HBI.out.trans (below_dN _ _ _))
          rw [hWW]
          have hh2 := HB.out.trans (hh1.mono HB.out.size)
          have HAT2 := Lib.hid (HAT.out.below hh1)
          obtain ⟨b9, o9, hpo9, d0, d1, d2, d3, d4⟩ := if_cell (HL.out.below hh2) HN.out hlt
          simp only [Option.some.injEq, Addr.mk.injEq, and_true] at hpo9
          obtain ⟨rfl, rfl⟩ := hpo9
          rw [HX.out] at d0 d1 d2 d3 d4
          dsimp only at d0 d1 d2 d3 d4
          have HBW := Lib.hid hh2
          have HLOW := Lib.hid hlow
          have HSTOP := Lib.hid (show k = os.length ∨ xi ≤ (os.getD k Ifc.zero).id from .inl HM.out.symm)
          obtain ⟨Q1, rc1, hdr⟩ := cutI_l W po os k co k HAT2.out HM.out hkm HCO.out
          have HDR := Lib.hid (hdr.below (newB W (.cells #[] 34)))
          have OL := Lib.hid (IfsOwn.lit0 W W.heap.size (Nat.le_refl _))
          have rc2 := fun u => run_cutI_hm u po k co (k : Int) k rfl (by have := HCO.out; omega)
          clear hWW hdr
          go_wp2_with (at_builtin; refine wpList_appnsI (o := ⟨some 36, _, _, _, _, _⟩) (by rfl) (.tmp 32) (.tmp 35) (by rfl) W.heap.size (some ⟨W.heap.size, 0, none⟩) 0 0 [] OL.out (by rfl) Q1 0 (co - k) (os.drop k) HDR.out (by have := HM.out; simp; omega) (by rfl) 0 (by omega) (by omega) (by simp) ?_; intro p3 c3 w3 hO3 hB3)
          have h3b := (newB W (.cells #[] 34)).trans hB3.out
          have HW3 := Lib.hid h3b
          have hO3' := hO3.out
          rw [List.nil_append] at hO3'
          have hS : w3.drew.cell? ⟨b, off + j * 5, none⟩ = some (.int .i64 xi) ∧ w3.drew.cell? ⟨b, off + j * 5 + 1, none⟩ = some (.int .i64 xr) ∧ w3.drew.cell? ⟨b, off + j * 5 + 2, none⟩ = some (.int .u32 xa) ∧ w3.drew.cell? ⟨b, off + j * 5 + 3, none⟩ = some (.int .i64 xn) ∧ w3.drew.cell? ⟨b, off + j * 5 + 4, none⟩ = some (.int .i64 xc) := ⟨kept h3b.drew d0, kept h3b.drew d1, kept h3b.drew d2, kept h3b.drew d3, kept h3b.drew d4⟩
          have hbA : Below w3.heap.size w3 (w3.alloc (.cells #[.int .i64 xi, .int .i64 xr, .int .u32 xa, .int .i64 xn, .int .i64 xc] 34)).drew := (newB w3 _).drew
          have hbWA := h3b.trans (hbA.mono h3b.size)
          have hSA : (w3.alloc (.cells #[.int .i64 xi, .int .i64 xr, .int .u32 xa, .int .i64 xn, .int .i64 xc] 34)).drew.cell? ⟨b, off + j * 5, none⟩ = some (.int .i64 xi) ∧ (w3.alloc (.cells #[.int .i64 xi, .int .i64 xr, .int .u32 xa, .int .i64 xn, .int .i64 xc] 34)).drew.cell? ⟨b, off + j * 5 + 1, none⟩ = some (.int .i64 xr) ∧ (w3.alloc (.cells #[.int .i64 xi, .int .i64 xr, .int .u32 xa, .int .i64 xn, .int .i64 xc] 34)).drew.cell? ⟨b, off + j * 5 + 2, none⟩ = some (.int .u32 xa) ∧ (w3.alloc (.cells #[.int .i64 xi, .int .i64 xr, .int .u32 xa, .int .i64 xn, .int .i64 xc] 34)).drew.cell? ⟨b, off + j * 5 + 3, none⟩ = some (.int .i64 xn) ∧ (w3.alloc (.cells #[.int .i64 xi, .int .i64 xr, .int .u32 xa, .int .i64 xn, .int .i64 xc] 34)).drew.cell? ⟨b, off + j * 5 + 4, none⟩ = some (.int .i64 xc) := ⟨kept hbWA d0, kept hbWA d1, kept hbWA d2, kept hbWA d3, kept hbWA d4⟩
          have HSA := Lib.hid hSA
          have HBL := Lib.hid (show b < w3.heap.size + 1 from Nat.lt_succ_of_lt (World.block_lt_of_cell? w3 _ (kept h3b d0)))
          have HTK := Lib.hid (((HAT2.out.take k).below h3b).below hbA)
          have HXN := Lib.hid (show IfsAt (w3.alloc (.cells #[.int .i64 xi, .int .i64 xr, .int .u32 xa, .int .i64 xn, .int .i64 xc] 34)).drew (some ⟨w3.heap.size, 0, none⟩) [⟨xi, xr, xa, xn, xc⟩] from ((IfsOwn.lit w3 w3.heap.size [(⟨xi, xr, xa, xn, xc⟩ : Ifc)] (fun y hy => by simp at hy; subst hy; exact HXI.out) (Nat.le_refl _) (by unfold maxLen; simp)).at).below (Below.refl _ _).drew)
          have HRS := Lib.hid (hO3'.at.below hbA)
          have HTL := Lib.hid (show (os.take k).length = k by have := HM.out; rw [List.length_take]; omega)
          have HDL := Lib.hid (show (os.drop k).length = 0 by have := HM.out; rw [List.length_drop]; omega)
          have HK5 := Lib.hid (show k ≤ 100000 by omega)
          have HM5 := Lib.hid (show k + 1 ≤ 3518437208883 by omega)
          clear d0 d1 d2 d3 d4 hSA h3b hO3 hO3' hB3 HDR OL rc1 hh1 hh2 hbA hbWA
          go_wp2_with fail
          go_region_held_law (fun w' => w'.cell? ⟨b, off + j * 5, none⟩ = some (.int .i64 xi) ∧ w'.cell? ⟨b, off + j * 5 + 1, none⟩ = some (.int .i64 xr) ∧ w'.cell? ⟨b, off + j * 5 + 2, none⟩ = some (.int .u32 xa) ∧ w'.cell? ⟨b, off + j * 5 + 3, none⟩ = some (.int .i64 xn) ∧ w'.cell? ⟨b, off + j * 5 + 4, none⟩ = some (.int .i64 xc)) (first | with_reducible assumption | exact HSA.out) (first
            | (refine step_appFullI (o := ⟨some 46, _, _, _, _, _⟩) (by rfl) (.tmp 40) (.tmp 45) (by rfl) po k (os.take k) HTK.out HTL.out (by rfl) (some ⟨w3.heap.size, 0, none⟩) 1 1 [⟨xi, xr, xa, xn, xc⟩] HXN.out rfl (by rfl) (by omega) HK5.out (by omega) (w3.heap.size + 1) (sz_allocDI w3 _) ?_; intro C5 w5 hO5 hB5; have hS5 := box5I HBL.out hB5.out HSA.out; have HR5 := Lib.hid (ifs_belowS (sz_allocDI w3 _) HRS.out hB5.out))
            | (refine step_appnsJ (o := ⟨some 48, _, _, _, _, _⟩) (by rfl) (.tmp 46) (.tmp 47) (by rfl) (w3.heap.size + 1) (some ⟨w3.heap.size + 1, 0, none⟩) (k + 1) C5 (os.take k ++ [⟨xi, xr, xa, xn, xc⟩]) hO5.out (by rfl) p3 0 c3 (os.drop k) HR5.out HDL.out (by rfl) (k + 1) (by omega) HM5.out (sz_leI (sz_allocDI w3 _) hB5.out.size) ?_; intro p6 c6 w6 hO6 hB6; have hS6 := box5I HBL.out hB6.out hS5))
          go_wp2_with fail
          go_roundw
          case rel => exact so_next HND.out HAP.out hlt HN.out HM.out HX.out HSRT.out HPM.out hkm HLOW.out HSTOP.out hO6.out (so_below HBW.out HW3.out ((newB w3 _).drew) hB5.out hB6.out)
          case measure => simp [intOf]; omega
    · obtain rfl : j = n := by omega
      have t1 : decide ((j : Int) < (j : Int)) = false := by simp
      go_wp2_with fail
      go_ret
      have hp := HPM.out
      rw [List.take_of_length_le (by rw [HN.out]; exact Nat.le_refl _)] at hp
      exact ⟨po, m, co, os, rfl, HM.out, HCO.out, hp, HSRT.out, HAT.out, HB.out⟩
end Go.Proofs.Ytlkpalaakncicaa
