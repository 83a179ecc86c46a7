/- timer: Due, where at most one is due. -/
import Derived.Test.YtlcciifoddcbdaaTk8
import Derived.Laws.AppendOwn
namespace Go.Proofs.Ytlcciifoddcbdaa
open Go.RowKit Go.Maps

theorem infoTk : (Try.prog.info? 31).map (fun i => (i.zero, i.size, i.bytes)) = some (some (.agg #[.int .i64 0, .int .i64 0]), 2, 16) := by kernel_rfl
theorem add_litT (b off j : Nat) : (⟨b, off, none⟩ : Addr).add j = ⟨b, off + j, none⟩ := by unfold Addr.add; split <;> simp_all
theorem tk_one (x : Tk) : ∀ u ∈ tkC x, u.oneCell' = true := fun u hu => by
  simp [tkC] at hu
  rcases hu with rfl | rfl <;> rfl
theorem tk_cellsAt {w : World} {g : Nat} {x : Tk} (h : Blk w g 31 (tkC x)) : ∀ j u, (tkC x)[j]? = some u → w.cell? ((⟨g, 0, none⟩ : Addr).add j) = some u := fun j u hj => by
  have hjl : j < 2 := by
    rcases Nat.lt_or_ge j 2 with h | h
    · exact h
    · rw [List.getElem?_eq_none (by simpa [tkC] using h)] at hj; cases hj
  rw [add_litT, Nat.zero_add, h.cell j (by simpa [tkC] using hjl)]
  have : j = 0 ∨ j = 1 := by omega
  rcases this with rfl | rfl <;> simpa [tkC] using hj
theorem row_ne {w : World} {B r : Nat} {e : TypeId} {size n : Nat} {v : Value} {xs : List Value} (h : w.ownsRow B e size v n xs) (hr : r < B) : v.ownBlock = none ∨ v.ownBlock ≠ some r := by
  rcases h.2 with ⟨rfl, _⟩ | ⟨g, cap, cur, rfl, hg, _⟩
  · exact .inl rfl
  · refine .inr fun e' => ?_
    have : g = r := by simpa [Value.ownBlock] using e'
    omega
theorem row_one {w : World} {B : Nat} {v : Value} {x : Tk} (h : w.ownsRow B 31 2 v 1 (tkC x)) : ∃ q c, v = .slice (some ⟨q, 0, none⟩) 1 c ∧ 1 ≤ c ∧ B ≤ q ∧ w.cell? ⟨q, 0, none⟩ = some (.int .i64 x.peer) ∧ w.cell? ⟨q, 1, none⟩ = some (.int .i64 x.kind) := by
  rcases h.2 with ⟨rfl, h0⟩ | ⟨q, cap, cur, rfl, hB, _, h1, _⟩
  · cases h0
  · have c0 := h.cells (g := q) rfl 0 (.int .i64 x.peer) rfl
    have c1 := h.cells (g := q) rfl 1 (.int .i64 x.kind) rfl
    rw [add_litT] at c0 c1
    exact ⟨q, cap, rfl, h1, hB, c0, c1⟩
def DueR (w : World) (b n : Nat) (D : DataW Unit) (dx : Option Tk) (v : Value) (wr : World) : Prop :=
  ∃ (left : Lit → Bool) (cnt : Nat), wr.ranges Try.prog 31 (plainElem Try.prog 3) b w.heap.size n D left cnt ∧ (∀ kl, left kl = true → has D kl = true) ∧ Below w.heap.size w wr ∧
    ((v = .slice none 0 0 ∧ ∀ x, dx = some x → left (litT x) = true) ∨ (∃ x B, dx = some x ∧ left (litT x) = false ∧ w.heap.size < B ∧ wr.ownsRow B 31 2 v 1 (tkC x)))
/-- What is due at 'now': nothing but dx. -/
def OneDue (D : DataW Unit) (now : Int) (dx : Option Tk) : Prop :=
  (∀ x, dx = some x → okT x ∧ has D (litT x) = true) ∧ ∀ x c, okT x → has D (litT x) = true → D.atKey (litT x) (inT 0) = inT c → (c ≤ now ↔ dx = some x)

theorem tdue1_any (w : World) (g b n : Nat) (D : DataW Unit) (h : TmP w g b n D) (now : Int) (dx : Option Tk) (hd : OneDue D now dx) :
    Calls Try.prog 14 #[.pointer (some ⟨g, 0, none⟩), .int .i64 now] w fun e w' => ∃ v, e = .returned v ∧ w.grownBy w' (some b) ∧
      ((dx = none ∧ v = .slice none 0 0 ∧ TmP w' g b n D) ∨ (∃ x B, dx = some x ∧ w.heap.size < B ∧ w'.ownsRow B 31 2 v 1 (tkC x) ∧ TmP w' g b n (D.del (litT x)))) := by
  have H := Lib.hid h
  clear h
  go_enter Try.func14, Try.ntmps14
  go_wp2_with (first
    | (go_at_call 21; refine (tall_any _ _ _ _ _ H.out).mono ?_; rintro e w' ⟨rfl, rfl⟩)
    | (at_range; refine wpList_range_own _ rfl _ 49 rfl 31 3 tk_keyed Try.underlying49 _ b n D rfl H.out.map ?_; intro w0 hrg0 hg0 hs0))
  go_frame
  go_loopw [5] (fun v wr => DueR w b n D dx v wr) (fun _ wr => wr.rangeLeft b w.heap.size)
  case atStart => exact ⟨_, _, hrg0, fun _ h => h, (Below.refl _ w).grown hg0 (Nat.le_refl _) (fun k e => by cases e), .inl ⟨rfl, fun x e => (hd.1 x e).2⟩⟩
  case round =>
    obtain ⟨left, cnt, hrg, hsub, hbw, hv⟩ := hrel
    go_wp2_with (at_next; refine wpList_next_ranges _ rfl _ rfl 31 tk_keyed _ tkV (Value.int .i64) (fun key kl hkey => by obtain ⟨x, rfl, _⟩ := keyT_inv hkey; exact ⟨x, rfl⟩) (fun v y hv => by obtain ⟨c, rfl, _⟩ := plainElem_int_inv Try.underlying3 hv; exact ⟨c, rfl⟩) b w.heap.size n D left cnt rfl hrg ?_ ?_)
    · intro _ hl0
      have HT := Lib.hid (H.out.next hbw)
      rcases hv with ⟨rfl, hvn⟩ | ⟨x, B, rfl, hlx, hBw, hrow⟩
      · have hdn : dx = none := by
          cases dx with
          | none => rfl
          | some x => exact absurd (hvn x rfl) (by simp [hl0])
        go_wp2_with (go_at_call 24; refine (sort_1 _ _ _ _ _ (Nat.zero_le 1)).mono ?_; rintro e w' ⟨rfl, rfl⟩)
        refine wp_loop_rounds 1 ?_
        rw [rounds_succ]
        go_wp2_with fail
        exact bodyPost_ret (v := .slice none 0 0) (by simp [results, Try.results14, go_sem]) rfl ⟨_, rfl, gb_belowT hbw, .inl ⟨hdn, rfl, HT.out⟩⟩
      · obtain ⟨q, c, rfl, hc1, hBq, c0, c1⟩ := row_one hrow
        have HOK := Lib.hid (hd.1 x rfl).1
        obtain ⟨V, hV⟩ : ∃ V, wr.alloc (.cells #[.int .i64 x.peer, .int .i64 x.kind] 31) = V := ⟨_, rfl⟩
        have hX : Blk V wr.heap.size 31 (tkC x) := hV ▸ Blk.new wr 31 (tkC x)
        have HV := Lib.hid hV
        have hVb : Below wr.heap.size wr V := hV ▸ (Below.refl _ wr).alloc (Nat.le_refl _) _
        have HTV := Lib.hid ((HT.out.next hVb).next (Below.refl _ V).drew)
        have HROW := Lib.hid (show V.drew.ownsRow B 31 2 (.slice (some ⟨q, 0, none⟩) 1 c) 1 (tkC x) from hV ▸ hrow.alloc _)
        have HBW := Lib.hid (show Below w.heap.size w V.drew from (hV ▸ hbw.alloc hbw.size _ : Below w.heap.size w V).drew)
        have BX : Hid (Blk V.drew wr.heap.size 31 (tkC x)) := Lib.hid hX
        have hS : V.drew.cell? ⟨wr.heap.size, 0, none⟩ = some (.int .i64 x.peer) ∧ V.drew.cell? ⟨wr.heap.size, 1, none⟩ = some (.int .i64 x.kind) ∧ V.drew.cell? ⟨g, 0, none⟩ = some (.map (some b)) := ⟨hX.cell 0 (by simp [tkC]), hX.cell 1 (by simp [tkC]), HTV.out.blk.cell 0 (by simp)⟩
        have hgl := H.out.blk.lt
        have hbg := H.out.lt
        have hws := hbw.size
        have hVs : V.heap.size = wr.heap.size + 1 := hV ▸ sz_alloc wr _
        have HXL : Hid (wr.heap.size < V.drew.heap.size) := Lib.hid (by show wr.heap.size < V.heap.size; omega)
        have HNE : Hid (some wr.heap.size ≠ some b) := Lib.hid (fun e => by simp at e; omega)
        have HBB : Hid (b < B) := Lib.hid (by omega)
        have HBV : Hid (b ≤ V.drew.heap.size) := Lib.hid (by show b ≤ V.heap.size; omega)
        have HBh : Hid (b ≤ w.heap.size) := Lib.hid (by omega)
        have HBW2 := Lib.hid hBw
        clear hV hX hVb hrow hgl hbg hws hVs
        go_wp2_with (go_at_call 24; refine (sort_1 _ _ _ _ _ (Nat.le_refl 1)).mono ?_; rintro e w' ⟨rfl, rfl⟩)
        refine wp_loop_rounds 2 ?_
        rw [rounds_succ]
        go_wp2_with fail
        rw [HV.out]
        go_region_held_law (fun w' => w'.cell? ⟨wr.heap.size, 0, none⟩ = some (.int .i64 x.peer) ∧ w'.cell? ⟨wr.heap.size, 1, none⟩ = some (.int .i64 x.kind) ∧ w'.cell? ⟨g, 0, none⟩ = some (.map (some b))) (first | (with_reducible assumption) | exact ⟨(BX.out.of_same (HG.out.block _ HXL.out HNE.out)).cell 0 (by simp [tkC]), (BX.out.of_same (HG.out.block _ HXL.out HNE.out)).cell 1 (by simp [tkC]), HT2.out.blk.cell 0 (by simp)⟩) ((refine step_delT rfl _ _ rfl g b n D x HOK.out rfl rfl HTV.out ?_; intro w2 HT2 HG))
        all_goals
          go_wp2_with fail
          rw [rounds_succ]
          go_wp2_with fail
          exact bodyPost_ret (v := .slice (some ⟨q, 0, none⟩) 1 c) (by simp [results, Try.results14, go_sem]) rfl ⟨_, rfl, (gb_belowT HBW.out).andThen HG.out (fun k e => by cases e; exact Or.inr rfl), .inr ⟨x, B, rfl, HBW2.out, HROW.out.kept HG.out (row_ne HROW.out HBB.out), HT2.out⟩⟩
    · intro x c kl y1 y2 w1 cnt1 hkey hlk hv1 hat hrg1 hlt hg1 hs1 hen
      obtain ⟨x', hxx, hok, rfl⟩ := keyT_inv hkey
      obtain ⟨c', hcc, hy, hwc⟩ := plainElem_int_inv Try.underlying3 hv1
      cases hcc
      cases hy
      obtain rfl : x = x' := by
        obtain ⟨p, q⟩ := x; obtain ⟨p', q'⟩ := x'; unfold tkV at hxx; simp at hxx; obtain ⟨rfl, rfl⟩ := hxx; rfl
      have hat0 : D.atKey (litT x) (inT 0) = inT c := hat _
      have hhas := hsub _ hlk
      unfold tkV at hen
      unfold tkV
      have hbw1 := hbw.grown hg1 hbw.size (fun k e => by cases e; exact Nat.le_refl _)
      have hsub1 : ∀ kl, (left kl && !kl.sameKey (litT x)) = true → has D kl = true := fun kl hl => hsub kl (by simp at hl; exact hl.1)
      have hdrop : wr.rangeLeft b w.heap.size > w1.rangeLeft b w.heap.size := by rw [hrg1.left_eq, hrg.left_eq]; exact hlt
      have hdue := hd.2 x c hok hhas hat0
      have hW1 : Blk ((w1.alloc (.cells #[.int .i64 x.peer, .int .i64 x.kind] 31)).alloc (.cells #[.int .i64 x.peer, .int .i64 x.kind] 31)) (wr.heap.size + 1) 31 (tkC x) := by
        have := Blk.new (w1.alloc (.cells #[.int .i64 x.peer, .int .i64 x.kind] 31)) 31 (tkC x)
        rw [sz_alloc, hs1] at this
        exact this
      have hrg2 := hrg1.alloc (.cells #[.int .i64 x.peer, .int .i64 x.kind] 31)
      have hrg3 := hrg2.alloc (.cells #[.int .i64 x.peer, .int .i64 x.kind] 31)
      have hbw2 := hbw1.alloc hbw1.size (.cells #[.int .i64 x.peer, .int .i64 x.kind] 31)
      have hbw3 := hbw2.alloc hbw2.size (.cells #[.int .i64 x.peer, .int .i64 x.kind] 31)
      obtain ⟨i0, hi, hz0, hz1, hz2⟩ := info_parts infoTk
      by_cases hcn : c ≤ now
      · have t0 : decide (c ≤ now) = true := by simp [hcn]
        have hdx := hdue.1 hcn
        rcases hv with ⟨rfl, _⟩ | ⟨x2, B, hx2, hl2, _⟩
        case inr => rw [hdx] at hx2; cases hx2; rw [hl2] at hlk; cases hlk
        have hB3 : wr.heap.size + 1 ≤ ((w1.alloc (.cells #[.int .i64 x.peer, .int .i64 x.kind] 31)).alloc (.cells #[.int .i64 x.peer, .int .i64 x.kind] 31)).heap.size := by rw [sz_alloc, sz_alloc, hs1]; omega
        go_wp2_with (refine wpList_append_own _ rfl _ _ 38 rfl (wr.heap.size + 1) 31 i0 (.agg #[.int .i64 0, .int .i64 0]) 2 16 Try.underlying38 hi hz0 hz1 hz2 rfl (by decide) _ 0 [] rfl (World.ownsRow_nil _ _ _ _) ⟨wr.heap.size + 1, 0, none⟩ 1 1 (tkC x) rfl rfl (tk_cellsAt hW1) (tk_one x) (by unfold maxLen; omega) (by omega) hB3 ?_; intro v4 w4 h4 h5 _; replace h5 : ((w1.alloc (.cells #[.int .i64 x.peer, .int .i64 x.kind] 31)).alloc (.cells #[.int .i64 x.peer, .int .i64 x.kind] 31)).grownBy w4 none := h5)
        go_roundw
        case rel => exact ⟨_, cnt1, hrg3.kept h5 (by simp [Value.ownBlock]) (by simp [Value.ownBlock]), hsub1, hbw3.grown h5 hbw3.size (fun k e => by cases e), .inr ⟨x, wr.heap.size + 1, hdx, by simp [Lit.sameKey, litT], by have := hbw.size; omega, by simpa using h4⟩⟩
        case measure => rw [(hrg3.kept h5 (by simp [Value.ownBlock]) (by simp [Value.ownBlock])).left_eq, hrg.left_eq]; exact hlt
      · have t0 : decide (c ≤ now) = false := by simp [hcn]
        have hne : ∀ y, dx = some y → y ≠ x := fun y hy e => hcn (hdue.2 (e ▸ hy))
        rcases hv with ⟨rfl, hvn⟩ | ⟨x2, B, hx2, hl2, hBw, hrow⟩
        · go_wp2_with fail
          go_roundw
          case rel =>
            refine ⟨_, cnt1, hrg2, hsub1, hbw2, .inl ⟨rfl, fun y hy => ?_⟩⟩
            have hs : (litT y).sameKey (litT x) = false := by
              cases e : (litT y).sameKey (litT x) with
              | false => rfl
              | true => exact absurd ((sameKey_lit (hd.1 y hy).1 hok).1 e) (hne y hy)
            simp [hvn y hy, hs]
          case measure => rw [hrg2.left_eq, hrg.left_eq]; exact hlt
        · go_wp2_with fail
          go_roundw
          case rel => exact ⟨_, cnt1, hrg2, hsub1, hbw2, .inr ⟨x2, B, hx2, by simp [hl2], hBw, (hrow.kept hg1 (row_ne hrow hBw)).alloc _⟩⟩
          case measure => rw [hrg2.left_eq, hrg.left_eq]; exact hlt
end Go.Proofs.Ytlcciifoddcbdaa
