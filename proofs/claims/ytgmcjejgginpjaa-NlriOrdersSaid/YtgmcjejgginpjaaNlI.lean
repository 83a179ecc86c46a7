/- The document's own Sort: the walk. -/
import Derived.Test.YtgmcjejgginpjaaNlH
namespace Go.Proofs.Ytgmcjejgginpjaa
open Go.RowKit Go.Sort Go.Shelf

theorem step_appNewN {ops : Array Oper} {o : Oper} {a : Act} {w : World} {K : Act → World → Prop} {Q : Exit → Act → World → Prop} {E : Prop} (hgd : o.guard = none) (s x : Operand)
    (ho : o.op = .call { callee := .builtin .append, args := #[s, x], argTypes := #[22, 22] })
    (p : Option Addr) (l : List Nl) (n : Nat) (hl : NlsAt w p l) (hn : l.length = n) (hn1 : n ≤ 100000) (hs : a.eval s = .slice p n n)
    (g : Nat) (y : Nl) (hy : InAddr y) (hx : a.eval x = .slice (some ⟨g, 0, none⟩) 1 1) (hc : Blk w g 41 (nlC y)) (z : Nat) (hz : w.heap.size = z)
    (h : ∀ C w', Hid (NlsOwn w' z (some ⟨z, 0, none⟩) (n + 1) C (l ++ [y])) → Hid (Below z w w') → K (a.put o.dst (.slice (some ⟨z, 0, none⟩) (n + 1) C)) w') :
    if Region.wanted o (yielded ops a.tmps) = true then Oper.wp Try.prog o a w K Q else E := by
  have hw : Region.wanted o (yielded ops a.tmps) = true := by simp [Region.wanted, hgd]
  rw [if_pos hw]
  subst hz
  obtain ⟨C, w', hr, h2, h3⟩ := run_appNewN w o.type p l n hl hn hn1 g y hy hc
  unfold Oper.wp execOp
  simp only [ho, resolve, invoke, builtin, Sem.run_bind, Sem.run_pure, Result.andThen_ok, List.map_toArray, List.map_cons, List.map_nil, hs, hx, hr]
  exact h C w' (Lib.hid h2) (Lib.hid h3)
theorem step_appnsN {ops : Array Oper} {o : Oper} {a : Act} {w : World} {K : Act → World → Prop} {Q : Exit → Act → World → Prop} {E : Prop} (hgd : o.guard = none) (s x : Operand)
    (ho : o.op = .call { callee := .builtin .append, args := #[s, x], argTypes := #[22, 22] })
    (B : Nat) (q : Option Addr) (n cap : Nat) (l : List Nl) (hown : NlsOwn w B q n cap l) (hs : a.eval s = .slice q n cap)
    (p : Option Addr) (m c : Nat) (ys : List Nl) (hy : NlsAt w p ys) (hm : ys.length = m) (hx : a.eval x = .slice p m c) (t : Nat) (ht : n + m = t) (h40 : t ≤ 1099511627776) (hB : B ≤ w.heap.size)
    (h : ∀ q' cap' w', Hid (NlsOwn w' B q' t cap' (l ++ ys)) → Hid (Below B w w') → K (a.put o.dst (.slice q' t cap')) w') :
    if Region.wanted o (yielded ops a.tmps) = true then Oper.wp Try.prog o a w K Q else E := by
  have hw : Region.wanted o (yielded ops a.tmps) = true := by simp [Region.wanted, hgd]
  rw [if_pos hw]
  subst ht
  obtain ⟨q', cap', w', hr, h2, h3⟩ := run_appnsN w o.type B q n cap l hown p c m ys hy hm h40 hB
  unfold Oper.wp execOp
  simp only [ho, resolve, invoke, builtin, Sem.run_bind, Sem.run_pure, Result.andThen_ok, List.map_toArray, List.map_cons, List.map_nil, hs, hx, hr]
  exact h q' cap' w' (Lib.hid h2) (Lib.hid h3)

/-! Pieces of such a list. -/
def cutN (p : Option Addr) (cap i : Nat) : Option Addr := if cap = i then p else p.map (·.add (i * 3))
theorem sizeN3 (w : World) : (sizeOf (Try.prog.elem 22)).run Try.prog w = .ok 3 w := by
  have he : Try.prog.elem 22 = 41 := by kernel_rfl
  rw [he]
  exact nl_sizeOf w
theorem under_elemN : Try.prog.underlying 22 = some (.slice (Try.prog.elem 22)) := by kernel_rfl
theorem run_cutN_l (w : World) (p : Option Addr) (L cap : Nat) (I : Int) (i : Nat) (hI : I = i) (hi : i ≤ L) :
    (Instr.slice 22 (.slice p L cap) (some (.int .i64 I)) none none).run Try.prog w = .ok (.slice (cutN p cap i) (L - i) (cap - i)) w := by
  subst hI
  rw [run_slice_l (ht := under_elemN) (h0 := by omega) (h1 := by omega), sizeN3]
  simp [Result.andThen, sliced, cutN]
theorem addr_add0 (a : Addr) : a.add 0 = a := by
  obtain ⟨b, o, s⟩ := a
  unfold Addr.add; split <;> simp_all
theorem run_cutN_hm (w : World) (p : Option Addr) (L cap : Nat) (I : Int) (i : Nat) (hI : I = i) (hi : i ≤ cap) :
    (Instr.slice 22 (.slice p L cap) none (some (.int .i64 I)) (some (.int .i64 I))).run Try.prog w = .ok (.slice p i i) w := by
  subst hI
  rw [run_slice_hm (ht := under_elemN) (h0 := by omega) (h2 := by omega) (h3 := by omega), sizeN3]
  simp only [Result.andThen, sliced, Int.toNat_natCast, Nat.zero_mul, Nat.sub_zero]
  congr 2
  split
  · rfl
  · rcases p with _ | a
    · rfl
    · rw [Option.map_some, addr_add0]
theorem NlsAt.cutl {w : World} {p : Option Addr} {l : List Nl} (h : NlsAt w p l) (cap i : Nat) (hi : i ≤ l.length) (hc : l.length ≤ cap) : NlsAt w (cutN p cap i) (l.drop i) := by
  have hd : ∀ k, (l.drop i).getD k Nl.none = l.getD (i + k) Nl.none := fun k => by simp [List.getD, List.getElem?_drop]
  refine ⟨fun k hk => ?_, ?_⟩
  · rw [hd]; exact h.addr (i + k) (by simp at hk; omega)
  · by_cases e : i = l.length
    · left; rw [e]; simp
    · right
      rcases h.at_ with rfl | ⟨b, off, rfl, hcl⟩
      · simp at hi; simp [hi] at e
      · refine ⟨b, off + i * 3, ?_, fun k hk => ?_⟩
        · unfold cutN; rw [if_neg (by omega), Option.map_some, add_litN]
        · rw [hd]
          have := hcl (i + k) (by simp at hk; omega)
          rwa [show off + (i + k) * 3 = off + i * 3 + k * 3 by omega] at this
theorem NlsAt.takel {w : World} {p : Option Addr} {l : List Nl} (h : NlsAt w p l) (k : Nat) : NlsAt w p (l.take k) := by
  have hd : ∀ i, i < (l.take k).length → (l.take k).getD i Nl.none = l.getD i Nl.none := fun i hi => by
    have : i < k := by simp at hi; omega
    simp [List.getD, List.getElem?_take_of_lt this]
  refine ⟨fun i hi => ?_, ?_⟩
  · rw [hd i hi]; exact h.addr i (by simp at hi; omega)
  · rcases h.at_ with rfl | ⟨b, off, rfl, hcl⟩
    · left; simp
    · exact .inr ⟨b, off, rfl, fun i hi => by rw [hd i hi]; exact hcl i (by simp at hi; omega)⟩
end Go.Proofs.Ytgmcjejgginpjaa
