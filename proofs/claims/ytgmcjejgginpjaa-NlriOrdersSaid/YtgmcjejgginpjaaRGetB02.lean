/- The document's own Get of a prefix: one byte without room behind it; all cases. -/
import Derived.Test.YtgmcjejgginpjaaRGet02
namespace Go.Proofs.Ytgmcjejgginpjaa
open Go.RowKit

set_option maxRecDepth 100000 in
set_option maxHeartbeats 2000000 in
theorem rgetp_one (b off : Nat) (w : World) (c0 : w.cell? ⟨b, off, none⟩ = some (.int .u8 0)) :
    Calls Try.prog 30 #[.slice (some ⟨b, off, none⟩) 1 1] w fun e w' => RGotOut (some (0, 0, 1)) e ∧ Below w.heap.size w w' := by
  have HB0 := Lib.hid ((Below.refl w.heap.size w).alloc (Nat.le_refl _) (.cells #[.int .u32 0, .int .i64 0] 39))
  have HX0 := Lib.hid (Box.new w (.int .u32 0) (.int .i64 0))
  have d0 := keep HB0.out c0
  have hz := size_alloc1 w (.cells #[.int .u32 0, .int .i64 0] 39)
  have HBA := Lib.hid (HB0.out.alloc HB0.out.size (.cells #[] 5))
  have OWN := Lib.hid (own_none (w.alloc (.cells #[.int .u32 0, .int .i64 0] 39)) (w.heap.size + 1) (by omega))
  rw [hz] at OWN
  have NEWS0 := Lib.hid (show ∀ j, j < ([] : List Int).length → ((w.alloc (.cells #[.int .u32 0, .int .i64 0] 39)).alloc (.cells #[] 5)).cell? ((⟨b, off, none⟩ : Addr).add j) = some (.int .u8 (([] : List Int).getD j 0)) from fun j hj => by simp at hj)
  have hblt : b < w.heap.size := World.block_lt_of_cell? w ⟨b, off, none⟩ c0
  have HXS0 := Lib.hid (HX0.out.alloc (.cells #[] 5))
  have HC0 := Lib.hid c0
  go_enter Try.func30, Try.ntmps30
  go_wp2_with (first
    | (refine wpList_app2 (o := ⟨some 34, _, _, _, _, _⟩) rfl (.tmp 29) (.tmp 33) ?h0 (w.heap.size + 1) (.slice (some ⟨w.heap.size + 1, 0, none⟩) 0 0) [] ?hv ?h1 OWN.out ⟨b, off, none⟩ 0 0 [] rfl ?h2 NEWS0.out 0 ?h3 ?h4 ?h5 ?_; (case h0 => rfl); (case hv => intro h; cases h); (case h1 => rfl); (case h2 => rfl); (case h3 => rfl); (case h4 => omega); (case h5 => first | (simp; done) | (simp; omega)); (intro g2 cap2 w2 HO2 HG2 HBg2; have OWN2 := Lib.hid (OwnB.alloc HO2.out (.cells #[.int .u8 0, .int .u8 0, .int .u8 0, .int .u8 0] 5)); have NEWS2 := Lib.hid (zeros_at w2); have HZ2 := Lib.hid HG2.out.size))
    | (refine wpList_app2 (o := ⟨some 36, _, _, _, _, _⟩) rfl (.tmp 34) (.tmp 35) ?h0 (w.heap.size + 1) (.slice (some ⟨g2, 0, none⟩) 0 cap2) [] ?hv ?h1 OWN2.out ⟨w2.heap.size, 0, none⟩ 4 4 [0, 0, 0, 0] rfl ?h2 NEWS2.out 4 ?h3 ?h4 ?h5 ?_; (case h0 => rfl); (case hv => intro h; cases h); (case h1 => rfl); (case h2 => rfl); (case h3 => rfl); (case h4 => omega); (case h5 => have := HZ2.out; simp at this ⊢; omega); (intro g3 cap3 w3 HO3 HG3 HBg3)))
  have hcap3 : 4 ≤ cap3 := by
    rcases HO3.out.2 with ⟨hv, _⟩ | ⟨g', cap', cur, hv, _, _, hle, _⟩
    · cases hv
    · injection hv with _ _ hc'
      rw [← hc'] at hle
      exact hle
  have hcell3 : ∀ j, j < 4 → w3.drew.cell? ⟨g3, j, none⟩ = some (.int .u8 (([0, 0, 0, 0] : List Int).getD j 0)) := fun j hj => by
    have h := OwnB.at HO3.out j (by simpa using hj)
    rw [show (⟨g3, 0, none⟩ : Addr).add j = ⟨g3, j, none⟩ from by unfold Addr.add; split <;> simp_all] at h
    exact (show w3.cell? ⟨g3, j, none⟩ = _ from h)
  have hget := rget_any (some ⟨g3, 0, none⟩) [0, 0, 0, 0] cap3 w3.drew (by simp) ⟨inByte_all (by intro x hx; simp at hx; omega), .inr ⟨g3, 0, rfl, fun i hi => by rw [Nat.zero_add]; exact hcell3 i (by simpa using hi)⟩⟩
  rw [show getV [0, 0, 0, 0] = 0 from rfl, show ([0, 0, 0, 0] : List Int).length = 4 from rfl] at hget
  have HGET := Lib.hid hget
  have hg2 := HBg2.out
  have hB2 : Below w.heap.size w w2 := HBA.out.grown HG2.out (by have := HBA.out.size; omega) (fun q hq => by (have h' : w.heap.size + 1 = q := (by simpa [Value.ownBlock] using hq)); omega)
  have hB3 : Below w.heap.size w w3 := (hB2.alloc hB2.size (.cells #[.int .u8 0, .int .u8 0, .int .u8 0, .int .u8 0] 5)).grown HG3.out (by have := hB2.size; simp; omega) (fun q hq => by (have h' : g2 = q := (by simpa [Value.ownBlock] using hq)); omega)
  have hX2 : Box w2 w.heap.size (.int .u32 0) (.int .i64 0) := World.rowIs.of_block HXS0.out (HG2.out.block _ (World.rowIs.lt HXS0.out) (by simp [Value.ownBlock]))
  have hX3 : Box w3 w.heap.size (.int .u32 0) (.int .i64 0) := World.rowIs.of_block (hX2.alloc (.cells #[.int .u8 0, .int .u8 0, .int .u8 0, .int .u8 0] 5)) (HG3.out.block _ (World.rowIs.lt (hX2.alloc _)) (by simp [Value.ownBlock]; omega))
  have HB3 := Lib.hid hB3
  have HX3 := Lib.hid hX3
  have cb : w3.drew.cell? ⟨b, off, none⟩ = some (.int .u8 0) := keep hB3.drew HC0.out
  clear hget hB2 hB3 hX2 hX3 hcell3 d0 c0
  go_region_held (fun w' => w'.cell? ⟨b, off, none⟩ = some (.int .u8 0)) (first | assumption | exact (Below.cell (((Below.refl w.heap.size _).setCell (Nat.le_refl _) _).setCell (Nat.le_refl _) _) hblt).trans (by assumption)) (first
    | (go_at_call 29; refine HGET.out.mono ?_; rintro e w4 ⟨rfl, rfl⟩)
    | (go_at_call 47; refine (rmake_any 0 0 _ (by omega) (by omega)).mono ?_; rintro e w5 ⟨rfl, hb5⟩; have kb : w5.cell? ⟨b, off, none⟩ = some (.int .u8 0) := keep hb5 (by assumption); have HX5 : Hid (Box w5 w.heap.size (.int .u32 0) (.int .i64 0)) := Lib.hid (Box.below (w := w3.drew) HX3.out hb5); have HB5 : Hid (Below w.heap.size w w5) := Lib.hid (HB3.out.drew.trans (hb5.mono HB3.out.drew.size)); have e0 := HX5.out.c0; have e1 := HX5.out.c1; have f0 := HX5.out.f 0; have f1 := HX5.out.f 1; clear hb5))
  go_wp2_with fail
  exact bodyPost_ret (v := .tuple #[.agg #[.int .u32 (mk 0 0), .int .i64 (cl 0)], .int .i64 1, .bool true]) (by simp [results, Try.results30, go_sem, e0, e1]) rfl ⟨rfl, (HB5.out.setCell (Nat.le_refl _) _).setCell (Nat.le_refl _) _⟩

theorem rgetp_any (p : Option Addr) (xs : List Int) (cap : Nat) (w : World) (hb : BytesAt w p xs) (hl : xs.length ≤ cap) (hcap : cap ≤ 9223372036854775807) :
    Calls Try.prog 30 #[.slice p xs.length cap] w fun e w' => RGotOut (gotP xs) e ∧ Below w.heap.size w w' := by
  rcases hg : gotP xs with _ | ⟨v, n, c⟩
  · exact rgetp_short p xs cap w hb hl hcap hg
  · rcases xs with _ | ⟨n0, r⟩
    · simp [gotP] at hg
    · have hn0 : 0 ≤ n0 ∧ n0 ≤ 255 := hb.1 0 (by simp)
      obtain ⟨N, rfl⟩ := Int.eq_ofNat_of_zero_le hn0.1
      simp only [gotP] at hg
      split at hg
      · cases hg
      rename_i h32
      split at hg
      · cases hg
      rename_i hlen
      rw [Int.toNat_natCast] at hg hlen
      obtain ⟨k, hkk⟩ : ∃ k, (N + 7) / 8 = k := ⟨_, rfl⟩
      rw [hkk] at hg hlen
      simp only [Option.some.injEq, Prod.mk.injEq] at hg
      obtain ⟨rfl, rfl, rfl⟩ := hg
      obtain ⟨b, off, rfl, hc⟩ := hb.2.resolve_left (by simp)
      rcases Nat.lt_or_ge 1 cap with h1 | h1
      · exact rgetp_more b off N r cap w hb hl hcap (by omega) k hkk (by omega) h1
      · have hr : r = [] := List.eq_nil_of_length_eq_zero (by simp at hl; omega)
        subst hr
        have hk0 : k = 0 := by simpa using hlen
        subst hk0
        have hN : N = 0 := by omega
        subst hN
        have hcap1 : cap = 1 := by simp at hl; omega
        subst hcap1
        have c0 : w.cell? ⟨b, off, none⟩ = some (.int .u8 0) := hc 0 (by simp)
        have := rgetp_one b off w c0
        exact this
end Go.Proofs.Ytgmcjejgginpjaa
