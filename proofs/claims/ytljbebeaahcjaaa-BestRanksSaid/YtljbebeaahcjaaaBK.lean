/- best: the document's Large. -/
import Derived.Test.YtljbebeaahcjaaaBJ
import Derived.Test.YtljbebeaahcjaaaBE
namespace Go.Proofs.Ytljbebeaahcjaaa
open Go.RowKit Go.Maps Go.Sort Go.Shelf
set_option linter.unusedVariables false
set_option linter.unusedSimpArgs false
set_option maxRecDepth 100000
def bigL (L : List Sg) : Bool := L.any fun s => decide (200 < s.n)
def largeX (x : Ao) : Bool := decide (20 < x.n1) || decide (100 < x.n2) || bigL x.L
theorem bigL_snoc {L : List Sg} {k : Nat} (hk : k < L.length) : bigL (L.take (k + 1)) = (bigL (L.take k) || decide (200 < (L.getD k Sg.zero).n)) := by
  unfold bigL
  rw [List.take_add_one, List.any_append]
  congr 1
  simp [List.getD, hk]
theorem bigL_take {L : List Sg} {k : Nat} (h : bigL (L.take k) = true) : bigL L = true := by
  unfold bigL at *
  rw [List.any_eq_true] at *
  obtain ⟨s, hs, hb⟩ := h
  exact ⟨s, List.mem_of_mem_take hs, hb⟩
set_option maxHeartbeats 4000000 in
theorem large05_any (w : World) (x : Ao) (h : AoAt w x) :
    Calls Try.prog 11 #[aoV x] w fun e w' => e = .returned (.bool (largeX x)) ∧ Below w.heap.size w w' := by
  have HPA := Lib.hid h.path
  have HN := Lib.hid h.pl
  have h1 := h.ps.le
  have h2 := h.ps.max
  have h3 := h.cs.le
  have h4 := h.cs.max
  clear h
  obtain ⟨og, p1, n1, c1, L, nx, md, pf, p2, n2, c2, K⟩ := x
  dsimp only at h1 h2 h3 h4 HPA HN
  have h5 : n1 ≤ maxLen := Nat.le_trans h1 h2
  have h6 : n2 ≤ maxLen := Nat.le_trans h3 h4
  unfold maxLen at h5 h6
  clear h1 h2 h3 h4
  have HB := Lib.hid (newB w (.cells #[.int .i64 og, .slice p1 n1 c1, .int .u32 nx, .int .i64 md, .int .i64 pf, .slice p2 n2 c2] 33))
  have HK := Lib.hid (Blk.new w 33 [.int .i64 og, .slice p1 n1 c1, .int .u32 nx, .int .i64 md, .int .i64 pf, .slice p2 n2 c2])
  have HR := Lib.hid (show largeX ⟨og, p1, n1, c1, L, nx, md, pf, p2, n2, c2, K⟩ = (decide (20 < n1) || decide (100 < n2) || bigL L) from rfl)
  obtain ⟨r, hr⟩ : ∃ r, largeX ⟨og, p1, n1, c1, L, nx, md, pf, p2, n2, c2, K⟩ = r := ⟨_, rfl⟩
  rw [hr] at HR ⊢
  clear hr
  by_cases hp : 20 < n1
  · have HR2 := Lib.hid (show true = r by rw [HR.out]; simp [hp])
    clear HR
    go_enter Try.func11, Try.ntmps11
    go_wp2
    go_ret
    exact ⟨ret_bool HR2.out, HB.out⟩
  · by_cases hc : 100 < n2
    · have HR2 := Lib.hid (show true = r by rw [HR.out]; simp [hc])
      clear HR
      go_enter Try.func11, Try.ntmps11
      go_wp2
      go_ret
      exact ⟨ret_bool HR2.out, HB.out⟩
    · have HR2 := Lib.hid (show bigL L = r by rw [HR.out]; simp [hc, hp])
      clear HR
      go_enter Try.func11, Try.ntmps11
      go_wp2
      go_loopw [3] (fun i wr => ∃ k : Nat, k ≤ n1 ∧ i = .int .i64 k ∧ bigL (L.take k) = false ∧ Below (w.alloc (.cells #[.int .i64 og, .slice p1 n1 c1, .int .u32 nx, .int .i64 md, .int .i64 pf, .slice p2 n2 c2] 33)).heap.size (w.alloc (.cells #[.int .i64 og, .slice p1 n1 c1, .int .u32 nx, .int .i64 md, .int .i64 pf, .slice p2 n2 c2] 33)) wr) (fun i _ => n1 - (intOf i).toNat)
      case atStart => exact ⟨0, Nat.zero_le _, rfl, rfl, Below.refl _ _⟩
      case round =>
        obtain ⟨k, hk, rfl, hs0, hbl⟩ := hrel
        have HBL := Lib.hid hbl
        have HW := Lib.hid (HB.out.trans (hbl.mono HB.out.size))
        have s1 : wr.cell? ⟨w.heap.size, 1, none⟩ = some (.slice p1 n1 c1) := (HK.out.next hbl).cell 1 (by simp)
        have HS := Lib.hid hs0
        clear hs0 hbl
        by_cases hlt : k < n1
        · obtain ⟨b, off, rfl, hcl⟩ := (HPA.out.at_.below HW.out).cell HN.out hlt
          have c1' := hcl 1 _ rfl
          have HSN := Lib.hid (bigL_snoc (L := L) (k := k) (by rw [HN.out]; exact hlt))
          have hok := (HPA.out.at_.ok (L.getD k Sg.zero) (by
            have := HN.out
            rw [show L.getD k Sg.zero = L[k]'(by omega) by simp [List.getD, show k < L.length by omega]]; exact List.getElem_mem _)).2
          obtain ⟨z, hz⟩ : ∃ z, L.getD k Sg.zero = z := ⟨_, rfl⟩
          rw [hz] at c1' HSN hok
          have hm1 := Nat.le_trans hok.le hok.max
          unfold maxLen at hm1
          clear hz hcl hok
          obtain ⟨st, q, m, cq, A⟩ := z
          dsimp only at c1' HSN hm1
          have hltI : (k : Int) < (n1 : Int) := by omega
          by_cases hbig : 200 < m
          · have hbI : (200 : Int) < (m : Int) := by omega
            go_wp2
            go_ret
            refine ⟨ret_bool ?_, HW.out⟩
            rw [← HR2.out]
            exact (bigL_take (k := k + 1) (by rw [HSN.out]; simp [hbig])).symm
          · have hbI : ¬ (200 : Int) < (m : Int) := by omega
            go_wp2
            go_roundw
            case rel => exact ⟨k + 1, by omega, by go_num, by rw [HSN.out, HS.out]; simp [hbig], HBL.out⟩
            case measure => simp [intOf]; omega
        · obtain rfl : k = n1 := by omega
          have hkI : ¬ (k : Int) < (k : Int) := by omega
          have HE := Lib.hid (show false = r by rw [← HR2.out, ← HS.out, List.take_of_length_le (by rw [HN.out]; omega)])
          go_wp2
          go_ret
          exact ⟨ret_bool HE.out, HW.out⟩
/-- Are routes too many, or too large? -/
def bigR (l : List Rv) : Bool := l.any fun y => largeX y.x
def largeR (l : List Rv) (n : Nat) : Bool := decide (60 < n) || bigR l
theorem bigR_snoc {L : List Rv} {k : Nat} (hk : k < L.length) : bigR (L.take (k + 1)) = (bigR (L.take k) || largeX (L.getD k Rv.zero).x) := by
  unfold bigR
  rw [List.take_add_one, List.any_append]
  congr 1
  simp [List.getD, hk]
theorem bigR_take {L : List Rv} {k : Nat} (h : bigR (L.take k) = true) : bigR L = true := by
  unfold bigR at *
  rw [List.any_eq_true] at *
  obtain ⟨s, hs, hb⟩ := h
  exact ⟨s, List.mem_of_mem_take hs, hb⟩
set_option maxHeartbeats 4000000 in
theorem large15_any (w : World) (p : Option Addr) (l : List Rv) (n c : Nat) (h : RvsAt w p l) (hn : l.length = n) (hm : n ≤ 9223372036854775807) :
    Calls Try.prog 6 #[.slice p n c] w fun e w' => e = .returned (.bool (largeR l n)) ∧ Below w.heap.size w w' := by
  have HR := Lib.hid (show largeR l n = (decide (60 < n) || bigR l) from rfl)
  obtain ⟨r, hr⟩ : ∃ r, largeR l n = r := ⟨_, rfl⟩
  rw [hr] at HR ⊢
  have H := Lib.hid h
  have HN := Lib.hid hn
  clear hr h hn
  by_cases hp : 60 < n
  · have HR2 := Lib.hid (show true = r by rw [HR.out]; simp [hp])
    have hpI : (60 : Int) < (n : Int) := by omega
    clear HR
    go_enter Try.func6, Try.ntmps6
    go_wp2
    go_ret
    exact ⟨ret_bool HR2.out, Below.refl _ _⟩
  · have HR2 := Lib.hid (show bigR l = r by rw [HR.out]; simp [hp])
    have hpI : ¬ (60 : Int) < (n : Int) := by omega
    clear HR
    go_enter Try.func6, Try.ntmps6
    go_wp2
    go_loopw [3] (fun i wr => ∃ k : Nat, k ≤ n ∧ i = .int .i64 k ∧ bigR (l.take k) = false ∧ Below w.heap.size w wr) (fun i _ => n - (intOf i).toNat)
    case atStart => exact ⟨0, Nat.zero_le _, rfl, rfl, Below.refl _ _⟩
    case round =>
      obtain ⟨k, hk, rfl, hs0, hbl⟩ := hrel
      have HW := Lib.hid hbl
      have HS := Lib.hid hs0
      clear hs0 hbl
      by_cases hlt : k < n
      · have hltI : (k : Int) < (n : Int) := by omega
        obtain ⟨b, off, hpe, hh⟩ := rv_here (H.out.below HW.out) HN.out hlt
        have HSN := Lib.hid (bigR_snoc (L := l) (k := k) (by rw [HN.out]; exact hlt))
        have HC := Lib.hid (large05_any wr (l.getD k Rv.zero).x hh.ao)
        have d4 := hh.c4; have d5 := hh.c5; have d6 := hh.c6; have d7 := hh.c7; have d8 := hh.c8; have d9 := hh.c9
        clear hh
        subst hpe
        obtain ⟨o, ho⟩ : ∃ o, largeX (l.getD k Rv.zero).x = o := ⟨_, rfl⟩
        rw [ho] at HC HSN
        clear ho
        rcases o with _ | _
        · go_wp2_with (go_at_call 11; refine HC.out.mono ?_; rintro e u ⟨rfl, hu⟩)
          go_roundw
          case rel => exact ⟨k + 1, by omega, by go_num, by rw [HSN.out, HS.out]; rfl, HW.out.trans (hu.mono HW.out.size)⟩
          case measure => simp [intOf]; omega
        · go_wp2_with (go_at_call 11; refine HC.out.mono ?_; rintro e u ⟨rfl, hu⟩)
          go_ret
          refine ⟨ret_bool ?_, HW.out.trans (hu.mono HW.out.size)⟩
          rw [← HR2.out]
          exact (bigR_take (k := k + 1) (by rw [HSN.out]; simp)).symm
      · obtain rfl : k = n := by omega
        have hkI : ¬ (k : Int) < (k : Int) := by omega
        have HE := Lib.hid (show false = r by rw [← HR2.out, ← HS.out, List.take_of_length_le (by rw [HN.out]; omega)])
        go_wp2
        go_ret
        exact ⟨ret_bool HE.out, HW.out⟩
end Go.Proofs.Ytljbebeaahcjaaa
