/- NlriOrders: the walk. -/
import Derived.Test.YtgmcjejgginpjaaNlJ
namespace Go.Proofs.Ytgmcjejgginpjaa
open Go.RowKit Go.Sort Go.Shelf

theorem two_boxes {u : World} {g h : Nat} {x y : Nl} (hx : Blk u g 41 (nlC x)) (hy : Blk u h 41 (nlC y)) : u.cell? ⟨g, 0, none⟩ = some (.int .i64 x.id) ∧ u.cell? ⟨g, 1, none⟩ = some (.int .u32 x.addr) ∧ u.cell? ⟨g, 2, none⟩ = some (.int .i64 x.len) ∧ u.cell? ⟨h, 0, none⟩ = some (.int .i64 y.id) ∧ u.cell? ⟨h, 1, none⟩ = some (.int .u32 y.addr) ∧ u.cell? ⟨h, 2, none⟩ = some (.int .i64 y.len) :=
  ⟨hx.cell 0 (by simp [nlC]), hx.cell 1 (by simp [nlC]), hx.cell 2 (by simp [nlC]), hy.cell 0 (by simp [nlC]), hy.cell 1 (by simp [nlC]), hy.cell 2 (by simp [nlC])⟩
theorem ss_len {u : World} {B k n : Nat} {q : Option Addr} {ss l : List Nl} (hk : ss.length = k) (hs : SrtAt u B q ss l) (hn : l.length = n) (h : n ≤ 200) : k ≤ maxLen := by
  have := nodup_le (srt_nodup hs.srt) fun x hx => (hs.mem x).1 hx
  unfold maxLen; omega
theorem sizeN_odd {x : Nl} {paths : Bool} (h : oddNl (mostN paths) x = true) : sizeN x paths = 0 := by
  unfold sizeN okNls; simp [h]
theorem sizeN_even {x : Nl} {paths : Bool} (h : oddNl (mostN paths) x = false) : sizeN x paths = (nlL paths x).length := by
  unfold sizeN okNls; simp [h]

set_option maxRecDepth 100000 in
set_option maxHeartbeats 8000000 in
theorem orders06_any (p : Option Addr) (l : List Nl) (n c : Nat) (x y : Nl) (paths : Bool) (w : World) (hl : NlsAt w p l) (hok : ∀ m ∈ l, okN m) (hn : l.length = n) (hx : InAddr x) (hy : InAddr y) :
    Calls Try.prog 5 #[.slice p n c, .agg #[.int .i64 x.id, .int .u32 x.addr, .int .i64 x.len], .agg #[.int .i64 y.id, .int .u32 y.addr, .int .i64 y.len], .bool paths] w fun e w' => e = .returned (.bool true) ∧ Below w.heap.size w w' := by
  obtain ⟨V, hV⟩ : ∃ V, (w.alloc (.cells #[.int .i64 x.id, .int .u32 x.addr, .int .i64 x.len] 41)).alloc (.cells #[.int .i64 y.id, .int .u32 y.addr, .int .i64 y.len] 41) = V := ⟨_, rfl⟩
  have hbV : Below w.heap.size w V := by rw [← hV]; exact two_below _ _ _
  have hK1 : Blk V w.heap.size 41 (nlC x) := by rw [← hV]; exact (Blk.new w 41 (nlC x)).alloc _
  have hK2 : Blk V (w.heap.size + 1) 41 (nlC y) := by
    rw [← hV, ← sz_alloc w (.cells #[.int .i64 x.id, .int .u32 x.addr, .int .i64 x.len] 41)]
    exact Blk.new _ 41 (nlC y)
  have HV := Lib.hid hV
  have HB := Lib.hid hbV
  have HK1 := Lib.hid hK1
  have HK2 := Lib.hid hK2
  have HL := Lib.hid hl
  have HOK := Lib.hid hok
  have HLN := Lib.hid hn
  have HXA := Lib.hid hx
  have HYA := Lib.hid hy
  by_cases hbig : 200 < n
  · have t1 : decide (200 < (n : Int)) = true := by simp; omega
    have HLV := Lib.hid (lives06_any V)
    clear hV hbV hK1 hK2 hl hok hn hx hy
    go_enter Try.func5, Try.ntmps5
    go_wp2_with fail
    rw [HV.out]
    refine HLV.out.mono ?_; rintro e w1 ⟨rfl, hb1⟩
    have HB1 := Lib.hid (HB.out.trans (hb1.mono HB.out.size))
    clear hb1
    go_wp2_with fail
    go_ret
    exact ⟨rfl, HB1.out⟩
  · have t1 : decide (200 < (n : Int)) = false := by simp; omega
    have h200 : n ≤ 200 := by omega
    have H1 := Lib.hid (rone_nl x paths V hx)
    obtain ⟨c0, c1, c2, d0, d1, d2⟩ := two_boxes hK1 hK2
    obtain ⟨N, hN⟩ : ∃ N, cmpN ⟨x.id, x.addr, x.len⟩ ⟨y.id, y.addr, y.len⟩ = N := ⟨_, rfl⟩
    obtain ⟨sz, hsz⟩ : ∃ sz, sizeN ⟨x.id, x.addr, x.len⟩ paths = sz := ⟨_, rfl⟩
    have HN := Lib.hid hN
    have HSZ := Lib.hid hsz
    rcases hodd : oddNl (mostN paths) x with _ | _
    · rw [hodd] at H1
      have hm : (nlL paths x).length = sz := by rw [← hsz]; exact (sizeN_even hodd).symm
      have HBY := Lib.hid (fun (u : World) => rbytes_any x paths sz u hx hodd hm)
      clear hV hbV hl hok hn hx hy hN hsz hodd hm hK1 hK2
      go_enter Try.func5, Try.ntmps5
      go_wp2_with fail
      rw [HV.out]
      refine H1.out.mono ?_; rintro e w1 ⟨rfl, hb1⟩
      have HB1 := Lib.hid (HB.out.trans (hb1.mono HB.out.size))
      have HX1 := Lib.hid (HK1.out.next hb1)
      have HY1 := Lib.hid (HK2.out.next hb1)
      clear hb1 c0 c1 c2 d0 d1 d2
      obtain ⟨c0, c1, c2, d0, d1, d2⟩ := two_boxes HX1.out HY1.out
      go_wp2_with fail
      refine (HBY.out w1).mono ?_; rintro e w2 ⟨q2, k2, rfl, _, hb2⟩
      have HB2 := Lib.hid (HB1.out.trans (hb2.mono HB1.out.size))
      have HX := Lib.hid (HX1.out.next hb2)
      have HY := Lib.hid (HY1.out.next hb2)
      clear hb2 c0 c1 c2 d0 d1 d2 HBY H1 HX1 HY1 HK1 HK2 HB1
      go_wp2_with fail
      have HSV := Lib.hid (fun (u : World) (hu : Below w2.heap.size w2 u) => two_boxes (HX.out.next (hu)) (HY.out.next hu))
      have hS : w2.drew.cell? ⟨w.heap.size, 0, none⟩ = some (.int .i64 x.id) ∧ w2.drew.cell? ⟨w.heap.size, 1, none⟩ = some (.int .u32 x.addr) ∧ w2.drew.cell? ⟨w.heap.size, 2, none⟩ = some (.int .i64 x.len) ∧ w2.drew.cell? ⟨w.heap.size + 1, 0, none⟩ = some (.int .i64 y.id) ∧ w2.drew.cell? ⟨w.heap.size + 1, 1, none⟩ = some (.int .u32 y.addr) ∧ w2.drew.cell? ⟨w.heap.size + 1, 2, none⟩ = some (.int .i64 y.len) := HSV.out _ (Below.refl _ _).drew
      have P0 := Lib.hid (lives06_any w2.drew)
      go_region_held_law (fun w' => w'.cell? ⟨w.heap.size, 0, none⟩ = some (.int .i64 x.id) ∧ w'.cell? ⟨w.heap.size, 1, none⟩ = some (.int .u32 x.addr) ∧ w'.cell? ⟨w.heap.size, 2, none⟩ = some (.int .i64 x.len) ∧ w'.cell? ⟨w.heap.size + 1, 0, none⟩ = some (.int .i64 y.id) ∧ w'.cell? ⟨w.heap.size + 1, 1, none⟩ = some (.int .u32 y.addr) ∧ w'.cell? ⟨w.heap.size + 1, 2, none⟩ = some (.int .i64 y.len)) (with_reducible assumption) (first
        | (go_at_call 8; refine P0.out.mono ?_; rintro e u1 ⟨rfl, hu⟩; have h1 := (Below.refl w2.heap.size w2).drew.trans hu; have hS1 := HSV.out u1 h1; have P1 := Lib.hid (compareNl_any x.id x.addr x.len y.id y.addr y.len u1); rw [HN.out] at P1)
        | (go_at_call 18; refine P1.out.mono ?_; rintro e u2 ⟨rfl, hu⟩; have h2 := h1.trans (hu.mono h1.size); have hS2 := HSV.out u2 h2; have P2 := Lib.hid (rcompareNl_any x.id x.addr x.len y.id y.addr y.len u2); rw [HN.out] at P2)
        | (go_at_call 19; refine P2.out.mono ?_; rintro e u3 ⟨rfl, hu⟩; have h3 := h2.trans (hu.mono h2.size); have hS3 := HSV.out u3 h3; have P3 := Lib.hid (sizeNl_any x.id x.addr x.len paths u3 HXA.out); rw [HSZ.out] at P3)
        | (go_at_call 20; refine P3.out.mono ?_; rintro e u4 ⟨rfl, hu⟩; have h4 := h3.trans (hu.mono h3.size); have hS4 := HSV.out u4 h4; have P4 := Lib.hid (sortNl_any p n c l u4 (HL.out.below (HB2.out.trans (h4.mono HB2.out.size))) HLN.out HOK.out (by omega)))
        | (go_at_call 21; refine P4.out.mono ?_; rintro e u5 ⟨q5, k5, c5, s5, rfl, hk5, hs5, hu⟩; have h5 := h4.trans (hu.mono h4.size); have hS5 := HSV.out u5 h5; have P5 := Lib.hid (rsortNl_any p n c l u5 (HL.out.below (HB2.out.trans (h5.mono HB2.out.size))) HLN.out h200))
        | (go_at_call 22; refine P5.out.mono ?_; rintro e u6 ⟨q6, k6, c6, s6, rfl, hk6, hs6, hu⟩; have h6 := h5.trans (hu.mono h5.size); have hS6 := HSV.out u6 h6; obtain rfl : s6 = s5 := Srt.unique hs6.srt hs5.srt (fun z => by rw [hs6.mem z, hs5.mem z]); obtain rfl : k6 = k5 := hk6.symm.trans hk5; have P6 := Lib.hid (rsameNl_yes q5 q6 s6 k6 c5 c6 u6 (hs5.at_.below hu) hs6.at_ hk6 (ss_len hk6 hs6 HLN.out h200)))
        | (go_at_call 14; refine P6.out.mono ?_; rintro e u7 ⟨rfl, hu⟩; have h7 := h6.trans (hu.mono h6.size); have hS7 := HSV.out u7 h7))
      go_wp2_with fail
      go_ret
      exact ⟨rfl, HB2.out.trans (h7.mono HB2.out.size)⟩
    · rw [hodd] at H1
      obtain rfl : 0 = sz := by rw [← hsz]; exact (sizeN_odd hodd).symm
      clear hV hbV hl hok hn hx hy hN hsz hodd hK1 hK2
      go_enter Try.func5, Try.ntmps5
      go_wp2_with fail
      rw [HV.out]
      refine H1.out.mono ?_; rintro e w2 ⟨rfl, hb1⟩
      have HB2 := Lib.hid (HB.out.trans (hb1.mono HB.out.size))
      have HX := Lib.hid (HK1.out.next hb1)
      have HY := Lib.hid (HK2.out.next hb1)
      clear hb1 c0 c1 c2 d0 d1 d2 H1 HK1 HK2
      go_wp2_with fail
      have HSV := Lib.hid (fun (u : World) (hu : Below w2.heap.size w2 u) => two_boxes (HX.out.next (hu)) (HY.out.next hu))
      have hS : w2.drew.cell? ⟨w.heap.size, 0, none⟩ = some (.int .i64 x.id) ∧ w2.drew.cell? ⟨w.heap.size, 1, none⟩ = some (.int .u32 x.addr) ∧ w2.drew.cell? ⟨w.heap.size, 2, none⟩ = some (.int .i64 x.len) ∧ w2.drew.cell? ⟨w.heap.size + 1, 0, none⟩ = some (.int .i64 y.id) ∧ w2.drew.cell? ⟨w.heap.size + 1, 1, none⟩ = some (.int .u32 y.addr) ∧ w2.drew.cell? ⟨w.heap.size + 1, 2, none⟩ = some (.int .i64 y.len) := HSV.out _ (Below.refl _ _).drew
      have P0 := Lib.hid (lives06_any w2.drew)
      go_region_held_law (fun w' => w'.cell? ⟨w.heap.size, 0, none⟩ = some (.int .i64 x.id) ∧ w'.cell? ⟨w.heap.size, 1, none⟩ = some (.int .u32 x.addr) ∧ w'.cell? ⟨w.heap.size, 2, none⟩ = some (.int .i64 x.len) ∧ w'.cell? ⟨w.heap.size + 1, 0, none⟩ = some (.int .i64 y.id) ∧ w'.cell? ⟨w.heap.size + 1, 1, none⟩ = some (.int .u32 y.addr) ∧ w'.cell? ⟨w.heap.size + 1, 2, none⟩ = some (.int .i64 y.len)) (with_reducible assumption) (first
        | (go_at_call 8; refine P0.out.mono ?_; rintro e u1 ⟨rfl, hu⟩; have h1 := (Below.refl w2.heap.size w2).drew.trans hu; have hS1 := HSV.out u1 h1; have P1 := Lib.hid (compareNl_any x.id x.addr x.len y.id y.addr y.len u1); rw [HN.out] at P1)
        | (go_at_call 18; refine P1.out.mono ?_; rintro e u2 ⟨rfl, hu⟩; have h2 := h1.trans (hu.mono h1.size); have hS2 := HSV.out u2 h2; have P2 := Lib.hid (rcompareNl_any x.id x.addr x.len y.id y.addr y.len u2); rw [HN.out] at P2)
        | (go_at_call 19; refine P2.out.mono ?_; rintro e u3 ⟨rfl, hu⟩; have h3 := h2.trans (hu.mono h2.size); have hS3 := HSV.out u3 h3; have P3 := Lib.hid (sizeNl_any x.id x.addr x.len paths u3 HXA.out); rw [HSZ.out] at P3)
        | (go_at_call 20; refine P3.out.mono ?_; rintro e u4 ⟨rfl, hu⟩; have h4 := h3.trans (hu.mono h3.size); have hS4 := HSV.out u4 h4; have P4 := Lib.hid (sortNl_any p n c l u4 (HL.out.below (HB2.out.trans (h4.mono HB2.out.size))) HLN.out HOK.out (by omega)))
        | (go_at_call 21; refine P4.out.mono ?_; rintro e u5 ⟨q5, k5, c5, s5, rfl, hk5, hs5, hu⟩; have h5 := h4.trans (hu.mono h4.size); have hS5 := HSV.out u5 h5; have P5 := Lib.hid (rsortNl_any p n c l u5 (HL.out.below (HB2.out.trans (h5.mono HB2.out.size))) HLN.out h200))
        | (go_at_call 22; refine P5.out.mono ?_; rintro e u6 ⟨q6, k6, c6, s6, rfl, hk6, hs6, hu⟩; have h6 := h5.trans (hu.mono h5.size); have hS6 := HSV.out u6 h6; obtain rfl : s6 = s5 := Srt.unique hs6.srt hs5.srt (fun z => by rw [hs6.mem z, hs5.mem z]); obtain rfl : k6 = k5 := hk6.symm.trans hk5; have P6 := Lib.hid (rsameNl_yes q5 q6 s6 k6 c5 c6 u6 (hs5.at_.below hu) hs6.at_ hk6 (ss_len hk6 hs6 HLN.out h200)))
        | (go_at_call 14; refine P6.out.mono ?_; rintro e u7 ⟨rfl, hu⟩; have h7 := h6.trans (hu.mono h6.size); have hS7 := HSV.out u7 h7))
      go_wp2_with fail
      go_ret
      exact ⟨rfl, HB2.out.trans (h7.mono HB2.out.size)⟩
end Go.Proofs.Ytgmcjejgginpjaa
