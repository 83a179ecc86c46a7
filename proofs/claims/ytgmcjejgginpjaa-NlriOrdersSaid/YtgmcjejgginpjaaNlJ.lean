/- The document's own Sort: its walk. -/
import Derived.Test.YtgmcjejgginpjaaNlI
namespace Go.Proofs.Ytgmcjejgginpjaa
open Go.RowKit Go.Sort Go.Shelf

theorem belowN (w : World) (n : Nat) : Below w.heap.size w (w.drewN n) := ⟨rfl, rfl, rfl, Nat.le_refl _, fun _ _ => rfl⟩
theorem sz_allocD (w : World) (o : Obj) : (w.alloc o).drew.heap.size = w.heap.size + 1 := sz_alloc w o
theorem newB2' (w : World) (o : Obj) : Below w.heap.size w (w.alloc o).drew := ((Below.refl w.heap.size w).alloc (Nat.le_refl _) _).drew
/-- What is out so far, of the first j. -/
def RsR (w : World) (l : List Nl) (n : Nat) (vo vi : Value) (wr : World) : Prop :=
  ∃ (j : Nat) (os : List Nl) (po : Option Addr) (m co : Nat), j ≤ n ∧ vi = .int .i64 j ∧ vo = .slice po m co ∧ os.length = m ∧ m ≤ co ∧ Srt os ∧ (∀ x, x ∈ os ↔ x ∈ l.take j) ∧ NlsAt wr po os ∧ Below w.heap.size w wr
/-- Those ahead of k stand below x. -/
def LowR (wr : World) (os : List Nl) (x : Nl) (m : Nat) (vk : Value) (wi : World) : Prop :=
  ∃ k : Nat, vk = .int .i64 k ∧ k ≤ m ∧ (∀ i, i < k → ltN (os.getD i Nl.none) x) ∧ Below wr.heap.size wr wi

theorem box3 {V w5 : World} {b o0 o1 o2 n : Nat} {v0 v1 v2 : Option Value} (hlt : b < n) (hb : Below n V w5) (h : V.cell? ⟨b, o0, none⟩ = v0 ∧ V.cell? ⟨b, o1, none⟩ = v1 ∧ V.cell? ⟨b, o2, none⟩ = v2) : w5.cell? ⟨b, o0, none⟩ = v0 ∧ w5.cell? ⟨b, o1, none⟩ = v1 ∧ w5.cell? ⟨b, o2, none⟩ = v2 :=
  ⟨(hb.cell (p := ⟨b, o0, none⟩) hlt).trans h.1, (hb.cell (p := ⟨b, o1, none⟩) hlt).trans h.2.1, (hb.cell (p := ⟨b, o2, none⟩) hlt).trans h.2.2⟩
theorem nls_belowS {V w5 : World} {n : Nat} {p : Option Addr} {l : List Nl} (hs : V.heap.size = n) (h : NlsAt V p l) (hb : Below n V w5) : NlsAt w5 p l := by
  subst hs; exact h.below hb
theorem sz_le {V w5 : World} {n : Nat} (hs : V.heap.size = n) (h : V.heap.size ≤ w5.heap.size) : n ≤ w5.heap.size := by omega
theorem rs_below {w W w3 V w5 w6 : World} (h1 : Below w.heap.size w W) (h2 : Below W.heap.size W w3) (h3 : Below w3.heap.size w3 V) (h4 : Below (w3.heap.size + 1) V w5) (h5 : Below (w3.heap.size + 1) w5 w6) : Below w.heap.size w w6 := by
  have s1 := h1.size
  have s2 := h2.size
  exact (((h1.trans (h2.mono s1)).trans (h3.mono (by omega))).trans (h4.mono (by omega))).trans (h5.mono (by omega))
theorem take_mem {l : List Nl} {j : Nat} {x : Nl} (hj : j < l.length) (hx : l.getD j Nl.none = x) (y : Nl) : y ∈ l.take (j + 1) ↔ y ∈ l.take j ∨ y = x := by
  have e : l.getD j Nl.none = l[j] := by simp [List.getD, List.getElem?_eq_getElem hj]
  rw [List.take_succ_eq_append_getElem hj, List.mem_append, List.mem_singleton, ← hx, e]
theorem rs_next {w w6 : World} {l os : List Nl} {n j m k c6 : Nat} {x : Nl} {p6 : Option Addr} {B : Nat} (hlt : j < n) (hn : l.length = n) (hm : os.length = m) (hx : l.getD j Nl.none = x) (hs : Srt os) (hmem : ∀ y, y ∈ os ↔ y ∈ l.take j) (hkm : k ≤ m) (hlow : ∀ i, i < k → ltN (os.getD i Nl.none) x) (hstop : k = os.length ∨ ¬ ltN (os.getD k Nl.none) x) (hne : k = os.length ∨ os.getD k Nl.none ≠ x)
    (ho : NlsOwn w6 B p6 (m + 1) c6 ((os.take k ++ [x]) ++ os.drop k)) (hb : Below w.heap.size w w6) : RsR w l n (.slice p6 (m + 1) c6) (.int .i64 ((j : Int) + 1)) w6 := by
  obtain ⟨h1, h2⟩ := insert_srt hs x k (by omega) hlow hstop hne
  refine ⟨j + 1, _, p6, m + 1, c6, by omega, rfl, rfl, ho.len, ho.cap.1, h1, fun y => ?_, ho.at, hb⟩
  rw [h2 y, take_mem (by omega) hx y, hmem y]

theorem rs_cells {w : World} {b o bo oo : Nat} {x y : Nl} (hx : NlAt w b o x) (hy : NlAt w bo oo y) : w.cell? ⟨b, o, none⟩ = some (.int .i64 x.id) ∧ w.cell? ⟨b, o + 1, none⟩ = some (.int .u32 x.addr) ∧ w.cell? ⟨b, o + 2, none⟩ = some (.int .i64 x.len) ∧ w.cell? ⟨bo, oo, none⟩ = some (.int .i64 y.id) ∧ w.cell? ⟨bo, oo + 1, none⟩ = some (.int .u32 y.addr) ∧ w.cell? ⟨bo, oo + 2, none⟩ = some (.int .i64 y.len) :=
  ⟨hx.1, hx.2.1, hx.2.2, hy.1, hy.2.1, hy.2.2⟩
theorem rs_same {w w6 : World} {l os : List Nl} {n j m co : Nat} {x : Nl} {po : Option Addr} (hlt : j < n) (hn : l.length = n) (hm : os.length = m) (hx : l.getD j Nl.none = x) (hco : m ≤ co) (hs : Srt os) (hmem : ∀ y, y ∈ os ↔ y ∈ l.take j) (hin : x ∈ os) (hat : NlsAt w6 po os) (hb : Below w.heap.size w w6) : RsR w l n (.slice po m co) (.int .i64 ((j : Int) + 1)) w6 := by
  refine ⟨j + 1, os, po, m, co, by omega, rfl, rfl, hm, hco, hs, fun y => ?_, hat, hb⟩
  rw [take_mem (by omega) hx y, hmem y]
  constructor
  · exact .inl
  · rintro (h | rfl)
    · exact h
    · exact (hmem y).1 hin

set_option maxRecDepth 100000 in
set_option maxHeartbeats 8000000 in
theorem rsortNl_any (q : Option Addr) (n c : Nat) (l : List Nl) (w : World) (hl : NlsAt w q l) (hn : l.length = n) (h200 : n ≤ 200) :
    Calls Try.prog 22 #[.slice q n c] w fun e w' => SortTo w w' l e := by
  have HL := Lib.hid hl
  have HN := Lib.hid hn
  clear hl hn
  go_enter Try.func22, Try.ntmps22
  go_wp2_with fail
  go_loopw [3, 4, 5, 6] (fun vo vi _ _ wr => RsR w l n vo vi wr) (fun _ vi _ _ _ => n - (intOf vi).toNat)
  case atStart => exact ⟨0, [], none, 0, 0, Nat.zero_le _, rfl, rfl, rfl, Nat.le_refl _, List.Pairwise.nil, fun x => by simp, NlsAt.nil _ _, Below.refl _ _⟩
  case round =>
    obtain ⟨j, os, po, m, co, hj, rfl, rfl, hm, hco, hsrt, hmem, hat, hbw⟩ := hrel
    have HM := Lib.hid hm
    have HCO := Lib.hid hco
    have HSRT := Lib.hid hsrt
    have HMEM := Lib.hid hmem
    have HAT := Lib.hid hat
    have HB := Lib.hid hbw
    have hmj : m ≤ j := by
      have := nodup_le (srt_nodup hsrt) fun x hx => (hmem x).1 hx
      simp at this; omega
    clear hm hco hsrt hmem hat
    by_cases hlt : j < n
    · have t1 : decide ((j : Int) < (n : Int)) = true := by simp; omega
      obtain ⟨b, off, rfl, hcx, hxa⟩ := nl_cell (HL.out.below hbw) HN.out hlt
      have hgx : l.getD j Nl.none = l.getD j Nl.none := rfl
      obtain ⟨x, hx⟩ : ∃ x, l.getD j Nl.none = x := ⟨_, rfl⟩
      rw [hx] at hcx hxa
      have HX := Lib.hid hx
      have HCX := Lib.hid hcx
      clear hcx hbw hx hgx
      obtain ⟨wo, hwo⟩ : ∃ wo, wo = wr := ⟨_, rfl⟩
      subst hwo
      go_wp2_with fail
      go_loopw [5] (fun vk wi => LowR wo os x m vk wi) (fun vk _ => m - (intOf vk).toNat)
      case atStart => exact ⟨0, rfl, Nat.zero_le _, fun i hi => by omega, Below.refl _ _⟩
      case round =>
        obtain ⟨k, rfl, hkm, hlow, hbi⟩ := hrel
        have HBI := Lib.hid hbi
        by_cases hk : k < m
        · have t2 : decide ((k : Int) < (m : Int)) = true := by simp; omega
          obtain ⟨bo, oo, rfl, hcy, _⟩ := nl_cell (HAT.out.below hbi) HM.out hk
          obtain ⟨y, hy⟩ : ∃ y, os.getD k Nl.none = y := ⟨_, rfl⟩
          rw [hy] at hcy
          have HY := Lib.hid hy
          have HCY := Lib.hid hcy
          have P := Lib.hid (rcompareNl_any y.id y.addr y.len x.id x.addr x.len wr.drew)
          have HC2 := Lib.hid (fun (u : World) (hu : Below wr.heap.size wr u) => rs_cells (HCX.out.below (hbi.trans (hu.mono hbi.size))) (HCY.out.below hu))
          have hS : wr.drew.cell? ⟨b, off + j * 3, none⟩ = some (.int .i64 x.id) ∧ wr.drew.cell? ⟨b, off + j * 3 + 1, none⟩ = some (.int .u32 x.addr) ∧ wr.drew.cell? ⟨b, off + j * 3 + 2, none⟩ = some (.int .i64 x.len) ∧ wr.drew.cell? ⟨bo, oo + k * 3, none⟩ = some (.int .i64 y.id) ∧ wr.drew.cell? ⟨bo, oo + k * 3 + 1, none⟩ = some (.int .u32 y.addr) ∧ wr.drew.cell? ⟨bo, oo + k * 3 + 2, none⟩ = some (.int .i64 y.len) := HC2.out _ (Below.refl _ _).drew
          clear hcy hy hbi
          go_wp2_with fail
          by_cases hly : ltN y x
          · rw [show cmpN ⟨y.id, y.addr, y.len⟩ ⟨x.id, x.addr, x.len⟩ = -1 from cmpN_minus hly] at P
            go_region_held_law (fun w' => w'.cell? ⟨b, off + j * 3, none⟩ = some (.int .i64 x.id) ∧ w'.cell? ⟨b, off + j * 3 + 1, none⟩ = some (.int .u32 x.addr) ∧ w'.cell? ⟨b, off + j * 3 + 2, none⟩ = some (.int .i64 x.len) ∧ w'.cell? ⟨bo, oo + k * 3, none⟩ = some (.int .i64 y.id) ∧ w'.cell? ⟨bo, oo + k * 3 + 1, none⟩ = some (.int .u32 y.addr) ∧ w'.cell? ⟨bo, oo + k * 3 + 2, none⟩ = some (.int .i64 y.len)) (with_reducible assumption) (first
              | (go_at_call 19; refine P.out.mono ?_; rintro e w3 ⟨rfl, hb3⟩; have hS3 := HC2.out w3 ((Below.refl wr.heap.size wr).drew.trans hb3)))
            go_wp2_with fail
            go_roundw
            case rel => exact ⟨k + 1, by first | rfl | go_num, by omega, fun i hi => by
              rcases Nat.lt_or_ge i k with h | h
              · exact hlow i h
              · obtain rfl : i = k := by omega
                rw [HY.out]; exact hly, HBI.out.trans (((Below.refl _ _).drew.trans hb3).mono HBI.out.size)⟩
            case measure => simp [intOf]; omega
          · obtain ⟨C, hC⟩ : ∃ C, cmpN ⟨y.id, y.addr, y.len⟩ ⟨x.id, x.addr, x.len⟩ = C := ⟨_, rfl⟩
            have hC0 : decide (C < 0) = false := by
              have : ¬ cmpN y x < 0 := fun h => hly ((cmpN_lt y x).1 h)
              simp; rw [← hC]; exact Int.not_lt.1 this
            rw [hC] at P
            go_region_held_law (fun w' => w'.cell? ⟨b, off + j * 3, none⟩ = some (.int .i64 x.id) ∧ w'.cell? ⟨b, off + j * 3 + 1, none⟩ = some (.int .u32 x.addr) ∧ w'.cell? ⟨b, off + j * 3 + 2, none⟩ = some (.int .i64 x.len) ∧ w'.cell? ⟨bo, oo + k * 3, none⟩ = some (.int .i64 y.id) ∧ w'.cell? ⟨bo, oo + k * 3 + 1, none⟩ = some (.int .u32 y.addr) ∧ w'.cell? ⟨bo, oo + k * 3 + 2, none⟩ = some (.int .i64 y.len)) (with_reducible assumption) (first
              | (go_at_call 19; refine P.out.mono ?_; rintro e w4 ⟨rfl, hb4⟩; have hS4 := HC2.out w4 ((Below.refl wr.heap.size wr).drew.trans hb4)))
            have hb4' := (Below.refl wr.heap.size wr).drew.trans hb4
            have hS : w4.drew.cell? ⟨b, off + j * 3, none⟩ = some (.int .i64 x.id) ∧ w4.drew.cell? ⟨b, off + j * 3 + 1, none⟩ = some (.int .u32 x.addr) ∧ w4.drew.cell? ⟨b, off + j * 3 + 2, none⟩ = some (.int .i64 x.len) ∧ w4.drew.cell? ⟨bo, oo + k * 3, none⟩ = some (.int .i64 y.id) ∧ w4.drew.cell? ⟨bo, oo + k * 3 + 1, none⟩ = some (.int .u32 y.addr) ∧ w4.drew.cell? ⟨bo, oo + k * 3 + 2, none⟩ = some (.int .i64 y.len) := HC2.out _ hb4'.drew
            have HB4 := Lib.hid (HBI.out.trans (hb4'.mono HBI.out.size))
            have hqe := nl_eql
            have hge := nl_eqGuard
            clear hS4 hb4'
            go_wp2_with fail
            by_cases hyx : y = x
            · have hE : (y.id == x.id && (y.addr == x.addr && y.len == x.len)) = true := by subst hyx; simp
              go_region_held (fun w' => w'.cell? ⟨b, off + j * 3, none⟩ = some (.int .i64 x.id) ∧ w'.cell? ⟨b, off + j * 3 + 1, none⟩ = some (.int .u32 x.addr) ∧ w'.cell? ⟨b, off + j * 3 + 2, none⟩ = some (.int .i64 x.len) ∧ w'.cell? ⟨bo, oo + k * 3, none⟩ = some (.int .i64 y.id) ∧ w'.cell? ⟨bo, oo + k * 3 + 1, none⟩ = some (.int .u32 y.addr) ∧ w'.cell? ⟨bo, oo + k * 3 + 2, none⟩ = some (.int .i64 y.len)) (with_reducible assumption) (fail)
              all_goals go_wp2_with fail
              all_goals go_roundw
              case rel => exact rs_same hlt HN.out HM.out HX.out HCO.out HSRT.out HMEM.out (by rw [← hyx, ← HY.out]; simp [List.getD, show k < os.length by have := HM.out; omega]) ((HAT.out.below HB4.out).below (Below.refl _ _).drew) (HB.out.trans (HB4.out.drew.mono HB.out.size))
              case measure => simp [intOf]; omega
            · have hE : (y.id == x.id && (y.addr == x.addr && y.len == x.len)) = false := by
                rcases h : (y.id == x.id && (y.addr == x.addr && y.len == x.len)) with _ | _
                · rfl
                · exfalso; apply hyx
                  obtain ⟨a1, a2, a3⟩ := y
                  obtain ⟨b1, b2, b3⟩ := x
                  simp at h
                  obtain ⟨rfl, rfl, rfl⟩ := h
                  rfl
              go_region_held (fun w' => w'.cell? ⟨b, off + j * 3, none⟩ = some (.int .i64 x.id) ∧ w'.cell? ⟨b, off + j * 3 + 1, none⟩ = some (.int .u32 x.addr) ∧ w'.cell? ⟨b, off + j * 3 + 2, none⟩ = some (.int .i64 x.len) ∧ w'.cell? ⟨bo, oo + k * 3, none⟩ = some (.int .i64 y.id) ∧ w'.cell? ⟨bo, oo + k * 3 + 1, none⟩ = some (.int .u32 y.addr) ∧ w'.cell? ⟨bo, oo + k * 3 + 2, none⟩ = some (.int .i64 y.len)) (with_reducible assumption) (fail)
              clear hS hqe hge P HC2
              have hbW : Below wo.heap.size wo w4.drew := HB4.out.drew
              have hbWw : Below w.heap.size w w4.drew := HB.out.trans (hbW.mono HB.out.size)
              obtain ⟨hh1, hh2⟩ := And.intro hbW hbWw
              obtain ⟨W, hWW⟩ : ∃ W, w4.drew = W := ⟨_, rfl⟩
              rw [hWW] at hh1 hh2 ⊢
              clear hWW hbW hbWw
              have HAT2 := Lib.hid (HAT.out.below hh1)
              obtain ⟨d0, d1, d2⟩ : NlAt W b (off + j * 3) x := HCX.out.below hh1
              have HBW := Lib.hid hh2
              have HLOW := Lib.hid hlow
              have HSTOP := Lib.hid (show k = os.length ∨ ¬ ltN (os.getD k Nl.none) x from .inr (by rw [HY.out]; exact hly))
              have HNE := Lib.hid (show k = os.length ∨ os.getD k Nl.none ≠ x from .inr (by rw [HY.out]; exact hyx))
              have HDR := Lib.hid ((HAT2.out.cutl co k (by have := HM.out; omega) (by have := HM.out; have := HCO.out; omega)).below (newB W (.cells #[] 41)))
              have OL := Lib.hid (NlsOwn.lit0 W W.heap.size (Nat.le_refl _))
              have rc1 := fun u => run_cutN_l u (some ⟨bo, oo, none⟩) m co (k : Int) k rfl hkm
              have rc2 := fun u => run_cutN_hm u (some ⟨bo, oo, none⟩) m co (k : Int) k rfl (by have := HCO.out; omega)
              go_wp2_with (at_builtin; refine wpList_appnsN (o := ⟨some 50, _, _, _, _, _⟩) (by rfl) (.tmp 46) (.tmp 49) (by rfl) W.heap.size (some ⟨W.heap.size, 0, none⟩) 0 0 [] OL.out (by rfl) _ (m - k) (co - k) (os.drop k) HDR.out (by have := HM.out; simp; omega) (by rfl) (m - k) (by omega) (by omega) (by simp) ?_; intro p3 c3 w3 hO3 hB3)
              have h3b := (newB W (.cells #[] 41)).trans hB3.out
              have HW3 := Lib.hid h3b
              have hO3' := hO3.out
              rw [List.nil_append] at hO3'
              have hS0 : w3.cell? ⟨b, off + j * 3, none⟩ = some (.int .i64 x.id) ∧ w3.cell? ⟨b, off + j * 3 + 1, none⟩ = some (.int .u32 x.addr) ∧ w3.cell? ⟨b, off + j * 3 + 2, none⟩ = some (.int .i64 x.len) := ⟨kept h3b d0, kept h3b d1, kept h3b d2⟩
              have hS : w3.drew.cell? ⟨b, off + j * 3, none⟩ = some (.int .i64 x.id) ∧ w3.drew.cell? ⟨b, off + j * 3 + 1, none⟩ = some (.int .u32 x.addr) ∧ w3.drew.cell? ⟨b, off + j * 3 + 2, none⟩ = some (.int .i64 x.len) := ⟨kept h3b.drew d0, kept h3b.drew d1, kept h3b.drew d2⟩
              have hSA : (w3.alloc (.cells #[.int .i64 x.id, .int .u32 x.addr, .int .i64 x.len] 41)).drew.cell? ⟨b, off + j * 3, none⟩ = some (.int .i64 x.id) ∧ (w3.alloc (.cells #[.int .i64 x.id, .int .u32 x.addr, .int .i64 x.len] 41)).drew.cell? ⟨b, off + j * 3 + 1, none⟩ = some (.int .u32 x.addr) ∧ (w3.alloc (.cells #[.int .i64 x.id, .int .u32 x.addr, .int .i64 x.len] 41)).drew.cell? ⟨b, off + j * 3 + 2, none⟩ = some (.int .i64 x.len) := ⟨kept (newB2' w3 _) hS0.1, kept (newB2' w3 _) hS0.2.1, kept (newB2' w3 _) hS0.2.2⟩
              have HSA := Lib.hid hSA
              have HBL := Lib.hid (show b < w3.heap.size + 1 from Nat.lt_succ_of_lt (World.block_lt_of_cell? w3 _ hS0.1))
              have HTK := Lib.hid (((HAT2.out.takel k).below h3b).below (newB2' w3 (.cells #[.int .i64 x.id, .int .u32 x.addr, .int .i64 x.len] 41)))
              have HXN := Lib.hid (show Blk (w3.alloc (.cells #[.int .i64 x.id, .int .u32 x.addr, .int .i64 x.len] 41)).drew w3.heap.size 41 (nlC x) from (Blk.new w3 41 (nlC x)).drew)
              have HRS := Lib.hid (hO3'.at.below (newB2' w3 (.cells #[.int .i64 x.id, .int .u32 x.addr, .int .i64 x.len] 41)))
              have HIX := Lib.hid hxa
              clear hS0 d0 d1 d2 hSA h3b hO3 hO3' hB3 HDR OL rc1 hh1 hh2
              go_wp2_with fail
              go_region_held_law (fun w' => w'.cell? ⟨b, off + j * 3, none⟩ = some (.int .i64 x.id) ∧ w'.cell? ⟨b, off + j * 3 + 1, none⟩ = some (.int .u32 x.addr) ∧ w'.cell? ⟨b, off + j * 3 + 2, none⟩ = some (.int .i64 x.len)) (first | with_reducible assumption | exact HSA.out) (first
                | (refine step_appNewN (o := ⟨some 60, _, _, _, _, _⟩) rfl (.tmp 54) (.tmp 59) rfl (some ⟨bo, oo, none⟩) (os.take k) k HTK.out ?b1 ?b2 rfl w3.heap.size x HIX.out rfl HXN.out (w3.heap.size + 1) ?b3 ?_; (case b1 => have := HM.out; simp; omega); (case b2 => omega); (case b3 => exact sz_allocD w3 _); intro C5 w5 hO5 hB5; have hS5 := box3 HBL.out hB5.out HSA.out; have HR5 := Lib.hid (nls_belowS (sz_allocD w3 _) HRS.out hB5.out))
                | (refine step_appnsN (o := ⟨some 62, _, _, _, _, _⟩) rfl (.tmp 60) (.tmp 61) rfl (w3.heap.size + 1) (some ⟨w3.heap.size + 1, 0, none⟩) (k + 1) C5 (os.take k ++ [x]) hO5.out rfl p3 (m - k) c3 (os.drop k) HR5.out ?c1 rfl (m + 1) ?c2 ?c3 ?c4 ?_; (case c1 => have := HM.out; simp; omega); (case c2 => omega); (case c3 => omega); (case c4 => exact sz_le (sz_allocD w3 _) hB5.out.size); intro p6 c6 w6 hO6 hB6; have hS6 := box3 HBL.out hB6.out hS5))
              go_wp2_with fail
              go_roundw
              case rel => exact rs_next hlt HN.out HM.out HX.out HSRT.out HMEM.out hkm HLOW.out HSTOP.out HNE.out hO6.out (rs_below HBW.out HW3.out (newB2' w3 _) hB5.out hB6.out)
              case measure => simp [intOf]; omega
        · obtain rfl : k = m := by omega
          have t2 : decide ((k : Int) < (k : Int)) = false := by simp
          have HBI2 := Lib.hid hbi
          clear hbi
          go_wp2_with fail
          go_quiet (fail)
          obtain ⟨W1, hW1⟩ : ∃ W1, wr.drewN nq = W1 := ⟨_, rfl⟩
          have HQ1 := Lib.hid (show Below wr.heap.size wr W1 from hW1 ▸ belowN _ _)
          rw [hW1]
          clear hW1
          go_wp2_with fail
          go_quiet (fail)
          have hbW : Below wo.heap.size wo (W1.drewN nq) := HBI2.out.trans ((HQ1.out.trans ((belowN W1 nq).mono HQ1.out.size)).mono HBI2.out.size)
          have hbWw : Below w.heap.size w (W1.drewN nq) := HB.out.trans (hbW.mono HB.out.size)
          obtain ⟨hh1, hh2⟩ := And.intro hbW hbWw
          obtain ⟨W, hWW⟩ : ∃ W, (W1.drewN nq) = W := ⟨_, rfl⟩
          rw [hWW] at hh1 hh2 ⊢
          clear hWW hbW hbWw
          have HAT2 := Lib.hid (HAT.out.below hh1)
          obtain ⟨d0, d1, d2⟩ : NlAt W b (off + j * 3) x := HCX.out.below hh1
          have HBW := Lib.hid hh2
          have HLOW := Lib.hid hlow
          have HSTOP := Lib.hid (show k = os.length ∨ ¬ ltN (os.getD k Nl.none) x from .inl HM.out.symm)
          have HNE := Lib.hid (show k = os.length ∨ os.getD k Nl.none ≠ x from .inl HM.out.symm)
          have HDR := Lib.hid ((HAT2.out.cutl co k (by have := HM.out; omega) (by have := HM.out; have := HCO.out; omega)).below (newB W (.cells #[] 41)))
          have OL := Lib.hid (NlsOwn.lit0 W W.heap.size (Nat.le_refl _))
          have rc1 := fun u => run_cutN_l u po k co (k : Int) k rfl hkm
          have rc2 := fun u => run_cutN_hm u po k co (k : Int) k rfl (by have := HCO.out; omega)
          go_wp2_with (at_builtin; refine wpList_appnsN (o := ⟨some 50, _, _, _, _, _⟩) (by rfl) (.tmp 46) (.tmp 49) (by rfl) W.heap.size (some ⟨W.heap.size, 0, none⟩) 0 0 [] OL.out (by rfl) _ 0 (co - k) (os.drop k) HDR.out (by have := HM.out; simp; omega) (by rfl) 0 (by omega) (by omega) (by simp) ?_; intro p3 c3 w3 hO3 hB3)
          have h3b := (newB W (.cells #[] 41)).trans hB3.out
          have HW3 := Lib.hid h3b
          have hO3' := hO3.out
          rw [List.nil_append] at hO3'
          have hS0 : w3.cell? ⟨b, off + j * 3, none⟩ = some (.int .i64 x.id) ∧ w3.cell? ⟨b, off + j * 3 + 1, none⟩ = some (.int .u32 x.addr) ∧ w3.cell? ⟨b, off + j * 3 + 2, none⟩ = some (.int .i64 x.len) := ⟨kept h3b d0, kept h3b d1, kept h3b d2⟩
          have hS : w3.drew.cell? ⟨b, off + j * 3, none⟩ = some (.int .i64 x.id) ∧ w3.drew.cell? ⟨b, off + j * 3 + 1, none⟩ = some (.int .u32 x.addr) ∧ w3.drew.cell? ⟨b, off + j * 3 + 2, none⟩ = some (.int .i64 x.len) := ⟨kept h3b.drew d0, kept h3b.drew d1, kept h3b.drew d2⟩
          have hSA : (w3.alloc (.cells #[.int .i64 x.id, .int .u32 x.addr, .int .i64 x.len] 41)).drew.cell? ⟨b, off + j * 3, none⟩ = some (.int .i64 x.id) ∧ (w3.alloc (.cells #[.int .i64 x.id, .int .u32 x.addr, .int .i64 x.len] 41)).drew.cell? ⟨b, off + j * 3 + 1, none⟩ = some (.int .u32 x.addr) ∧ (w3.alloc (.cells #[.int .i64 x.id, .int .u32 x.addr, .int .i64 x.len] 41)).drew.cell? ⟨b, off + j * 3 + 2, none⟩ = some (.int .i64 x.len) := ⟨kept (newB2' w3 _) hS0.1, kept (newB2' w3 _) hS0.2.1, kept (newB2' w3 _) hS0.2.2⟩
          have HSA := Lib.hid hSA
          have HBL := Lib.hid (show b < w3.heap.size + 1 from Nat.lt_succ_of_lt (World.block_lt_of_cell? w3 _ hS0.1))
          have HTK := Lib.hid (((HAT2.out.takel k).below h3b).below (newB2' w3 (.cells #[.int .i64 x.id, .int .u32 x.addr, .int .i64 x.len] 41)))
          have HXN := Lib.hid (show Blk (w3.alloc (.cells #[.int .i64 x.id, .int .u32 x.addr, .int .i64 x.len] 41)).drew w3.heap.size 41 (nlC x) from (Blk.new w3 41 (nlC x)).drew)
          have HRS := Lib.hid (hO3'.at.below (newB2' w3 (.cells #[.int .i64 x.id, .int .u32 x.addr, .int .i64 x.len] 41)))
          have HIX := Lib.hid hxa
          clear hS0 d0 d1 d2 hSA h3b hO3 hO3' hB3 HDR OL rc1 hh1 hh2
          go_wp2_with fail
          go_region_held_law (fun w' => w'.cell? ⟨b, off + j * 3, none⟩ = some (.int .i64 x.id) ∧ w'.cell? ⟨b, off + j * 3 + 1, none⟩ = some (.int .u32 x.addr) ∧ w'.cell? ⟨b, off + j * 3 + 2, none⟩ = some (.int .i64 x.len)) (first | with_reducible assumption | exact HSA.out) (first
            | (refine step_appNewN (o := ⟨some 60, _, _, _, _, _⟩) rfl (.tmp 54) (.tmp 59) rfl po (os.take k) k HTK.out ?b1 ?b2 rfl w3.heap.size x HIX.out rfl HXN.out (w3.heap.size + 1) ?b3 ?_; (case b1 => have := HM.out; simp; omega); (case b2 => omega); (case b3 => exact sz_allocD w3 _); intro C5 w5 hO5 hB5; have hS5 := box3 HBL.out hB5.out HSA.out; have HR5 := Lib.hid (nls_belowS (sz_allocD w3 _) HRS.out hB5.out))
            | (refine step_appnsN (o := ⟨some 62, _, _, _, _, _⟩) rfl (.tmp 60) (.tmp 61) rfl (w3.heap.size + 1) (some ⟨w3.heap.size + 1, 0, none⟩) (k + 1) C5 (os.take k ++ [x]) hO5.out rfl p3 0 c3 (os.drop k) HR5.out ?c1 rfl (k + 1) ?c2 ?c3 ?c4 ?_; (case c1 => have := HM.out; simp; omega); (case c2 => omega); (case c3 => omega); (case c4 => exact sz_le (sz_allocD w3 _) hB5.out.size); intro p6 c6 w6 hO6 hB6; have hS6 := box3 HBL.out hB6.out hS5))
          go_wp2_with fail
          go_roundw
          case rel => exact rs_next hlt HN.out HM.out HX.out HSRT.out HMEM.out hkm HLOW.out HSTOP.out HNE.out hO6.out (rs_below HBW.out HW3.out (newB2' w3 _) hB5.out hB6.out)
          case measure => simp [intOf]; omega
    · obtain rfl : j = n := by omega
      have t1 : decide ((j : Int) < (j : Int)) = false := by simp
      go_wp2_with fail
      go_ret
      refine ⟨po, m, co, os, rfl, HM.out, ⟨HSRT.out, fun x => ?_, HAT.out⟩, HB.out⟩
      rw [HMEM.out x, ← HN.out, List.take_length]
end Go.Proofs.Ytgmcjejgginpjaa
