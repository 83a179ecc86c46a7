/- The document's own Get of a prefix. -/
import Derived.Test.YtgmcjejgginpjaaRPut02
namespace Go.Proofs.Ytgmcjejgginpjaa
open Go.RowKit

def RGotOut (o : Option (Int × Int × Nat)) (e : Ending) : Prop := match o with
  | none => e = .returned (.tuple #[.agg #[.int .u32 0, .int .i64 0], .int .i64 0, .bool false])
  | some (v, n, c) => e = .returned (.tuple #[.agg #[.int .u32 (mk v n), .int .i64 (cl n)], .int .i64 c, .bool true])

theorem own_none (w : World) (B : Nat) (hB : B ≤ w.heap.size) : OwnB (w.alloc (.cells #[] 5)) B (.slice (some ⟨w.heap.size, 0, none⟩) 0 0) [] :=
  ⟨rfl, .inr ⟨_, 0, _, rfl, hB, heap_alloc_new w _, Nat.le_refl _, by decide, rfl, rfl⟩⟩

theorem wpList_app2 {ops : Array Oper} {rest : List Oper} {o : Oper} {a : Act} {w : World} {Q : Exit → Act → World → Prop} (hgd : o.guard = none) (s x : Operand)
    (ho : o.op = .call { callee := .builtin .append, args := #[s, x], argTypes := #[24, 24] })
    (B : Nat) (v : Value) (xs : List Int) (hv : v ≠ .slice none 0 0) (hs : a.eval s = v) (hown : OwnB w B v xs) (ad : Addr) (m c : Nat) (ys : List Int) (hm : ys.length = m) (hx : a.eval x = .slice (some ad) m c) (hnews : ∀ j, j < ys.length → w.cell? (ad.add j) = some (.int .u8 (ys.getD j 0)))
    (t : Nat) (ht : xs.length + ys.length = t) (h63 : t ≤ 100000) (hB : B ≤ w.heap.size)
    (h : ∀ g cap w', Hid (OwnB w' B (.slice (some ⟨g, 0, none⟩) t cap) (xs ++ ys)) → Hid (w.grownBy w' v.ownBlock) → Hid (B ≤ g) → wpList Try.prog ops Q rest (a.put o.dst (.slice (some ⟨g, 0, none⟩) t cap)) w') :
    wpList Try.prog ops Q (o :: rest) a w := by
  subst ht hm
  exact wpList_app hgd s x ho B v xs hv hs hown ad c ys hx hnews h63 hB h

theorem OwnB.alloc {w : World} {B : Nat} {v : Value} {xs : List Int} (h : OwnB w B v xs) (o : Obj) : OwnB (w.alloc o) B v xs := by
  refine ⟨h.1, ?_⟩
  rcases h.2 with h2 | ⟨g, cap, cur, hv, hb, hg, h4⟩
  · exact .inl h2
  · have hlt : g < w.heap.size := by
      rcases Nat.lt_or_ge g w.heap.size with hlt | hge
      · exact hlt
      · rw [Array.getElem?_eq_none hge] at hg; cases hg
    exact .inr ⟨g, cap, cur, hv, hb, (((Below.refl w.heap.size w).alloc (Nat.le_refl _) o).block g hlt).trans hg, h4⟩
theorem zeros_at (w : World) : ∀ j, j < ([0, 0, 0, 0] : List Int).length → (w.alloc (.cells #[.int .u8 0, .int .u8 0, .int .u8 0, .int .u8 0] 5)).cell? ((⟨w.heap.size, 0, none⟩ : Addr).add j) = some (.int .u8 (([0, 0, 0, 0] : List Int).getD j 0)) := fun j hj => by
  rw [show (⟨w.heap.size, 0, none⟩ : Addr).add j = ⟨w.heap.size, j, none⟩ from by unfold Addr.add; split <;> simp_all, (row_four w _ _ _ _ _).cell (i := j) (by simpa using hj)]
  have : j = 0 ∨ j = 1 ∨ j = 2 ∨ j = 3 := by simp at hj; omega
  rcases this with rfl | rfl | rfl | rfl <;> rfl

theorem rgetp_short (p : Option Addr) (xs : List Int) (cap : Nat) (w : World) (hb : BytesAt w p xs) (hl : xs.length ≤ cap) (hcap : cap ≤ 9223372036854775807) (hno : gotP xs = none) :
    Calls Try.prog 30 #[.slice p xs.length cap] w fun e w' => RGotOut none e ∧ Below w.heap.size w w' := by
  obtain ⟨hx, hb⟩ := hb
  have HB0 := Lib.hid ((Below.refl w.heap.size w).alloc (Nat.le_refl _) (.cells #[.int .u32 0, .int .i64 0] 39))
  have HX0 := Lib.hid (Box.new w (.int .u32 0) (.int .i64 0))
  rcases xs with _ | ⟨n, r⟩
  · clear hb hx hl
    go_enter Try.func30, Try.ntmps30
    go_wp2_with fail
    exact bodyPost_ret (v := .tuple #[.agg #[.int .u32 0, .int .i64 0], .int .i64 0, .bool false]) (by simp [results, Try.results30, go_sem]) rfl ⟨rfl, HB0.out⟩
  · obtain ⟨b, off, rfl, hc⟩ := hb.resolve_left (by simp)
    have hn0 : 0 ≤ n ∧ n ≤ 255 := hx 0 (by simp)
    obtain ⟨n0, n255⟩ := hn0
    have c0 : w.cell? ⟨b, off, none⟩ = some (.int .u8 n) := hc 0 (by simp)
    have d0 := keep HB0.out c0
    have e0 := HX0.out.c0
    have e1 := HX0.out.c1
    have f0 := HX0.out.f 0
    have f1 := HX0.out.f 1
    clear hx hc hb
    rw [List.length_cons] at hl ⊢
    obtain ⟨N, rfl⟩ := Int.eq_ofNat_of_zero_le n0
    by_cases hn : 32 < N
    · clear hno
      generalize r.length = L at *
      have t1 : ((L : Int) + 1 == 0) = false := by simp; omega
      have t2 : decide ((32 : Int) < (N : Int)) = true := by simp; omega
      go_enter Try.func30, Try.ntmps30
      go_wp2_with fail
      exact bodyPost_ret (v := .tuple #[.agg #[.int .u32 0, .int .i64 0], .int .i64 0, .bool false]) (by simp [results, Try.results30, go_sem, e0, e1]) rfl ⟨rfl, HB0.out⟩
    · obtain ⟨k, hkk⟩ : ∃ k, (N + 7) / 8 = k := ⟨_, rfl⟩
      have hk4 : k ≤ 4 := by omega
      have hki : ((N : Int) + 7) / 8 = (k : Int) := by omega
      have hkt : Int.tdiv ((N : Int) + 7) 8 = (k : Int) := by rw [Int.tdiv_eq_ediv_of_nonneg (by omega)]; exact hki
      have hs : r.length < k := by
        rcases Nat.lt_or_ge r.length k with h | h
        · exact h
        · simp only [gotP] at hno
          rw [if_neg (by omega), if_neg (by simp [hkk]; omega)] at hno
          cases hno
      clear hno
      generalize r.length = L at *
      have t1 : ((L : Int) + 1 == 0) = false := by simp; omega
      have t2 : decide ((32 : Int) < (N : Int)) = false := by simp; omega
      go_enter Try.func30, Try.ntmps30
      go_wp2_with fail
      exact bodyPost_ret (v := .tuple #[.agg #[.int .u32 0, .int .i64 0], .int .i64 0, .bool false]) (by simp [results, Try.results30, go_sem, e0, e1]) rfl ⟨rfl, HB0.out⟩

set_option maxRecDepth 100000 in
set_option maxHeartbeats 2000000 in
theorem rgetp_more (b off : Nat) (N : Nat) (r : List Int) (cap : Nat) (w : World) (hb : BytesAt w (some ⟨b, off, none⟩) ((N : Int) :: r)) (hl : ((N : Int) :: r).length ≤ cap) (hcap : cap ≤ 9223372036854775807) (hN : N ≤ 32) (k : Nat) (hkk : (N + 7) / 8 = k) (hs : k ≤ r.length) (hc1 : 1 < cap) :
    Calls Try.prog 30 #[.slice (some ⟨b, off, none⟩) ((N : Int) :: r).length cap] w fun e w' => RGotOut (some (getV (r.take k ++ List.replicate (4 - k) 0), (N : Int), k + 1)) e ∧ Below w.heap.size w w' := by
  obtain ⟨hx, hb⟩ := hb
  obtain ⟨b', off', he, hc⟩ := hb.resolve_left (by simp)
  obtain ⟨rfl, rfl⟩ : b = b' ∧ off = off' := by simpa using he
  clear he hb
  have hx' : InByte r := fun i hi => hx (i + 1) (by simpa using hi)
  have c0 : w.cell? ⟨b, off, none⟩ = some (.int .u8 N) := hc 0 (by simp)
  have hcr : ∀ i, i < r.length → w.cell? ⟨b, off + 1 + i, none⟩ = some (.int .u8 (r.getD i 0)) := fun i hi => by
    have := hc (i + 1) (by simpa using hi)
    rw [show off + 1 + i = off + (i + 1) by omega]; simpa using this
  have HB0 := Lib.hid ((Below.refl w.heap.size w).alloc (Nat.le_refl _) (.cells #[.int .u32 0, .int .i64 0] 39))
  have HX0 := Lib.hid (Box.new w (.int .u32 0) (.int .i64 0))
  have d0 := keep HB0.out c0
  have hk4 : k ≤ 4 := by omega
  have hki : ((N : Int) + 7) / 8 = (k : Int) := by omega
  have hkt : Int.tdiv ((N : Int) + 7) 8 = (k : Int) := by rw [Int.tdiv_eq_ediv_of_nonneg (by omega)]; exact hki
  have HTL := Lib.hid (show (r.take k).length = k by simp; omega)
  have hz := size_alloc1 w (.cells #[.int .u32 0, .int .i64 0] 39)
  have HBA := Lib.hid (HB0.out.alloc HB0.out.size (.cells #[] 5))
  have OWN := Lib.hid (own_none (w.alloc (.cells #[.int .u32 0, .int .i64 0] 39)) (w.heap.size + 1) (by omega))
  rw [hz] at OWN
  have NEWS0 := Lib.hid (show ∀ j, j < (r.take k).length → ((w.alloc (.cells #[.int .u32 0, .int .i64 0] 39)).alloc (.cells #[] 5)).cell? ((⟨b, off + 1, none⟩ : Addr).add j) = some (.int .u8 ((r.take k).getD j 0)) by
    intro j hj
    rw [HTL.out] at hj
    rw [show (⟨b, off + 1, none⟩ : Addr).add j = ⟨b, off + 1 + j, none⟩ from by unfold Addr.add; split <;> simp_all, keep HBA.out (hcr j (by omega))]
    simp [List.getD, List.getElem?_take_of_lt hj])
  obtain ⟨ys, hys⟩ : ∃ ys, r.take k = ys := ⟨_, rfl⟩
  have HF := Lib.hid (inByte_pad hx' k (4 - k))
  rw [hys] at NEWS0 HTL HF ⊢
  have HFL := Lib.hid (show (ys ++ List.replicate (4 - k) 0).length = 4 by have := HTL.out; simp; omega)
  obtain ⟨F, hF⟩ : ∃ F, ys ++ List.replicate (4 - k) 0 = F := ⟨_, rfl⟩
  rw [hF] at HF HFL ⊢
  obtain ⟨V, hV⟩ : ∃ V, getV F = V := ⟨_, rfl⟩
  rw [hV]
  have HFE := Lib.hid hF
  have HVE := Lib.hid hV
  have hblt : b < w.heap.size := World.block_lt_of_cell? w ⟨b, off, none⟩ c0
  have HXS0 := Lib.hid (HX0.out.alloc (.cells #[] 5))
  clear hc hx hx' hcr hys hF hV
  rw [List.length_cons] at hl ⊢
  have HRL := Lib.hid hs
  generalize r.length = L at *
  have t1 : ((L : Int) + 1 == 0) = false := by simp; omega
  have t2 : decide ((32 : Int) < (N : Int)) = false := by simp; omega
  have q1 : 0 ≤ 1 + (k : Int) ∧ 1 + (k : Int) ≤ (cap : Int) := by omega
  have q2 : (1 : Int) ≤ max (1 + (k : Int)) 0 := by omega
  have q3 : (1 + (k : Int)).toNat - 1 = k := by omega
  go_enter Try.func30, Try.ntmps30
  go_wp2_with (first
    | (refine wpList_app2 (o := ⟨some 34, _, _, _, _, _⟩) rfl (.tmp 29) (.tmp 33) ?h0 (w.heap.size + 1) (.slice (some ⟨w.heap.size + 1, 0, none⟩) 0 0) [] ?hv ?h1 OWN.out ⟨b, off + 1, none⟩ k (cap - 1) ys HTL.out ?h2 NEWS0.out k ?h3 ?h4 ?h5 ?_; (case h0 => rfl); (case hv => intro h; cases h); (case h1 => rfl); (case h2 => rfl); (case h3 => rw [HTL.out]; simp); (case h4 => omega); (case h5 => first | (simp; done) | (simp; omega)); (intro g2 cap2 w2 HO2 HG2 HBg2; have OWN2 := Lib.hid (OwnB.alloc HO2.out (.cells #[.int .u8 0, .int .u8 0, .int .u8 0, .int .u8 0] 5)); have NEWS2 := Lib.hid (zeros_at w2); have HZ2 := Lib.hid HG2.out.size))
    | (refine wpList_app2 (o := ⟨some 36, _, _, _, _, _⟩) rfl (.tmp 34) (.tmp 35) ?h0 (w.heap.size + 1) (.slice (some ⟨g2, 0, none⟩) k cap2) ys ?hv ?h1 OWN2.out ⟨w2.heap.size, 0, none⟩ 4 4 [0, 0, 0, 0] rfl ?h2 NEWS2.out (k + 4) ?h3 ?h4 ?h5 ?_; (case h0 => rfl); (case hv => intro h; cases h); (case h1 => rfl); (case h2 => rfl); (case h3 => rw [HTL.out]; rfl); (case h4 => omega); (case h5 => have := HZ2.out; simp at this ⊢; omega); (intro g3 cap3 w3 HO3 HG3 HBg3)))
  have hcap3 : k + 4 ≤ cap3 := by
    rcases HO3.out.2 with ⟨hv, _⟩ | ⟨g', cap', cur, hv, _, _, hle, _⟩
    · cases hv
    · injection hv with _ _ hc'
      rw [← hc', List.length_append, HTL.out] at hle
      exact hle
  have hcell3 : ∀ j, j < 4 → w3.drew.cell? ⟨g3, j, none⟩ = some (.int .u8 (F.getD j 0)) := fun j hj => by
    have h := OwnB.at HO3.out j (by rw [List.length_append, HTL.out]; simp; omega)
    rw [show (⟨g3, 0, none⟩ : Addr).add j = ⟨g3, j, none⟩ from by unfold Addr.add; split <;> simp_all] at h
    refine (show w3.cell? ⟨g3, j, none⟩ = _ from h).trans ?_
    rw [← HFE.out]
    congr 2
    rcases Nat.lt_or_ge j ys.length with hl' | hl'
    · simp [List.getD, List.getElem?_append_left hl']
    · have h1 := HTL.out
      have : k = 0 ∨ k = 1 ∨ k = 2 ∨ k = 3 ∨ k = 4 := by omega
      simp only [List.getD, List.getElem?_append_right hl', h1]
      rcases this with rfl | rfl | rfl | rfl | rfl <;> (have hj4 : j = 0 ∨ j = 1 ∨ j = 2 ∨ j = 3 := by omega) <;> rcases hj4 with rfl | rfl | rfl | rfl <;> first | rfl | (exfalso; omega)
  have hget := rget_any (some ⟨g3, 0, none⟩) F cap3 w3.drew (by rw [HFL.out]; omega) ⟨HF.out, .inr ⟨g3, 0, rfl, fun i hi => by rw [Nat.zero_add]; exact hcell3 i (by rw [HFL.out] at hi; exact hi)⟩⟩
  have hv := getV_bd F HF.out 4 (by rw [HFL.out]; omega)
  rw [List.take_of_length_le (by rw [HFL.out]; omega)] at hv
  have hp := pow_most (k := 4) (by omega)
  rw [HFL.out] at hget
  rw [HVE.out] at hget hv
  obtain ⟨v0, v1⟩ := hv
  have hm : V % 4294967296 = V := by omega
  have hm' : IntKind.u32.wrap V = V := by rw [IntKind.wrap_u32']; exact hm
  have HGET := Lib.hid hget
  have hg2 := HBg2.out
  have hB2 : Below w.heap.size w w2 := HBA.out.grown HG2.out (by have := HBA.out.size; omega) (fun q hq => by (have h' : w.heap.size + 1 = q := (by simpa [Value.ownBlock] using hq)); omega)
  have hB3 : Below w.heap.size w w3 := (hB2.alloc hB2.size (.cells #[.int .u8 0, .int .u8 0, .int .u8 0, .int .u8 0] 5)).grown HG3.out (by have := hB2.size; simp; omega) (fun q hq => by (have h' : g2 = q := (by simpa [Value.ownBlock] using hq)); omega)
  have hX2 : Box w2 w.heap.size (.int .u32 0) (.int .i64 0) := World.rowIs.of_block HXS0.out (HG2.out.block _ (World.rowIs.lt HXS0.out) (by simp [Value.ownBlock]))
  have hX3 : Box w3 w.heap.size (.int .u32 0) (.int .i64 0) := World.rowIs.of_block (hX2.alloc (.cells #[.int .u8 0, .int .u8 0, .int .u8 0, .int .u8 0] 5)) (HG3.out.block _ (World.rowIs.lt (hX2.alloc _)) (by simp [Value.ownBlock]; omega))
  have HB3 := Lib.hid hB3
  have HX3 := Lib.hid hX3
  have cb : w3.drew.cell? ⟨b, off, none⟩ = some (.int .u8 N) := keep hB3.drew c0
  clear hget hB2 hB3 hX2 hX3 hcell3 d0 c0
  go_region_held (fun w' => w'.cell? ⟨b, off, none⟩ = some (.int .u8 N)) (first | assumption | exact (Below.cell (((Below.refl w.heap.size _).setCell (Nat.le_refl _) _).setCell (Nat.le_refl _) _) hblt).trans (by assumption)) (first
    | (go_at_call 29; refine HGET.out.mono ?_; rintro e w4 ⟨rfl, rfl⟩)
    | (go_at_call 47; refine (rmake_any V N _ v0 (by omega)).mono ?_; rintro e w5 ⟨rfl, hb5⟩; have kb : w5.cell? ⟨b, off, none⟩ = some (.int .u8 N) := keep hb5 (by assumption); have HX5 : Hid (Box w5 w.heap.size (.int .u32 0) (.int .i64 0)) := Lib.hid (Box.below (w := w3.drew) HX3.out hb5); have HB5 : Hid (Below w.heap.size w w5) := Lib.hid (HB3.out.drew.trans (hb5.mono HB3.out.drew.size)); have e0 := HX5.out.c0; have e1 := HX5.out.c1; have f0 := HX5.out.f 0; have f1 := HX5.out.f 1; clear hb5))
  go_wp2_with fail
  exact bodyPost_ret (v := .tuple #[.agg #[.int .u32 (mk V N), .int .i64 (cl N)], .int .i64 (1 + (k : Int)), .bool true]) (by simp [results, Try.results30, go_sem, e0, e1]) rfl ⟨by rw [Int.add_comm 1 (k : Int)]; rfl, (HB5.out.setCell (Nat.le_refl _) _).setCell (Nat.le_refl _) _⟩
end Go.Proofs.Ytgmcjejgginpjaa
