/- NoteGets, NoteSames: the walks. -/
import Derived.Test.YtmeejbkcaghhgaaDoorNt8
namespace Go.Proofs.YtmeejbkcaghhgaaDoor
open Go.RowKit

theorem sameN_refl (k s : Int) (xs : List Int) : sameN k s xs k s xs = true := by simp [sameN]
set_option maxHeartbeats 2000000 in
theorem gets_walk (w : World) (ht : Tabs w) (q : Option Addr) (xs : List Int) (c : Nat) (hb : BytesAt w q xs) (hc : xs.length ≤ c) (_ : c ≤ maxLen) :
    Calls Tryd.prog 4 #[.slice q xs.length c] w fun e w' => e = .returned (.bool true) ∧ Below w.heap.size w w' := by
  by_cases h : 6000 < xs.length
  · have t1 : (6000 : Int) < (xs.length : Int) := by omega
    have HL := Lib.hid (lives_any w ht)
    clear ht hb hc h
    go_enter Tryd.func4, Tryd.ntmps4
    go_wp2_with fail
    refine HL.out.mono ?_; rintro e w1 ⟨rfl, hb1⟩
    have HB1 := Lib.hid hb1
    clear hb1
    go_wp2_with fail
    go_ret
    exact ⟨rfl, HB1.out⟩
  · have t1 : decide ((6000 : Int) < (xs.length : Int)) = false := by simp; omega
    have HG := Lib.hid (getN_any q xs xs.length c w hb rfl hc)
    have HR := fun W (h : Below w.heap.size w W) => Lib.hid (rgetN_any q xs xs.length c W (hb.below h) rfl hc)
    have HT := Lib.hid ht
    rcases hg : getN xs with _ | ⟨k, s, t⟩
    · rw [hg] at HG
      simp only [hg] at HR
      unfold GetNPost at HG
      unfold RGetNPost at HR
      clear ht hb hc h hg
      go_enter Tryd.func4, Tryd.ntmps4
      go_wp2_with fail
      refine HG.out.mono ?_; rintro e w1 ⟨rfl, hb1⟩
      have K1 := Lib.hid (Blk.new w1 24 [.int .i64 0, .int .i64 0, .slice none 0 0])
      have hb2 := (hb1.alloc hb1.size (.cells #[.int .i64 0, .int .i64 0, .slice none 0 0] 24))
      have HR2 := HR _ hb2
      have HB2 := Lib.hid hb2
      clear hb1 hb2 HR HG
      go_wp2_with fail
      refine HR2.out.mono ?_; rintro e w2 ⟨rfl, hb3⟩
      have hb4 := (HB2.out.trans (hb3.mono HB2.out.size))
      have hb5 := hb4.alloc hb4.size (.cells #[.int .i64 0, .int .i64 0, .slice none 0 0] 24)
      have K2 := Lib.hid ((K1.out.next hb3).alloc (.cells #[.int .i64 0, .int .i64 0, .slice none 0 0] 24))
      have J2 := Lib.hid (Blk.new w2 24 [.int .i64 0, .int .i64 0, .slice none 0 0])
      have HB5 := Lib.hid hb5
      have HL5 := Lib.hid (lives_any _ (HT.out.below hb5))
      clear hb3 hb4 hb5 HR2 K1
      go_wp2_with fail
      refine HL5.out.mono ?_; rintro e w3 ⟨rfl, hb6⟩
      have HB6 := Lib.hid (HB5.out.trans (hb6.mono HB5.out.size))
      have K3 := K2.out.next hb6
      have J3 := J2.out.next hb6
      have k0 := K3.cell 0 (by simp)
      have k1 := K3.cell 1 (by simp)
      have k2 := K3.cell 2 (by simp)
      have j0 := J3.cell 0 (by simp)
      have j1 := J3.cell 1 (by simp)
      have j2 := J3.cell 2 (by simp)
      have HS := Lib.hid (rsameN_any 0 0 none [] 0 0 0 0 none [] 0 0 w3 (BytesAt.nil _ _) (BytesAt.nil _ _) rfl rfl)
      rw [sameN_refl] at HS
      clear hb6 K3 J3 K2 J2 HL5
      go_wp2_with fail
      refine HS.out.mono ?_; rintro e w4 ⟨rfl, hb7⟩
      have HB7 := Lib.hid (HB6.out.trans (hb7.mono HB6.out.size))
      clear hb7 k0 k1 k2 j0 j1 j2
      go_wp2_with fail
      go_ret
      exact ⟨rfl, HB7.out⟩
    · rw [hg] at HG
      simp only [hg] at HR
      unfold GetNPost at HG
      unfold RGetNPost at HR
      clear ht hb hc h hg
      obtain ⟨m, hm⟩ : ∃ m, t.length = m := ⟨_, rfl⟩
      have HM := Lib.hid hm
      simp only [hm] at HG HR
      clear hm
      go_enter Tryd.func4, Tryd.ntmps4
      go_wp2_with fail
      refine HG.out.mono ?_; rintro e w1 ⟨p, cap, rfl, hO, hb1⟩
      have K1 := Lib.hid (Blk.new w1 24 [.int .i64 k, .int .i64 s, .slice p m cap])
      have hb2 := (hb1.alloc hb1.size (.cells #[.int .i64 k, .int .i64 s, .slice p m cap] 24))
      have HR2 := HR _ hb2
      have HB2 := Lib.hid hb2
      have HO1 := Lib.hid (hO.alloc (.cells #[.int .i64 k, .int .i64 s, .slice p m cap] 24))
      clear hb1 hb2 HR HG hO
      go_wp2_with fail
      refine HR2.out.mono ?_; rintro e w2 ⟨p2, cap2, rfl, hO2, hb3⟩
      have hb4 := (HB2.out.trans (hb3.mono HB2.out.size))
      have hb5 := hb4.alloc hb4.size (.cells #[.int .i64 k, .int .i64 s, .slice p2 m cap2] 24)
      have K2 := Lib.hid ((K1.out.next hb3).alloc (.cells #[.int .i64 k, .int .i64 s, .slice p2 m cap2] 24))
      have J2 := Lib.hid (Blk.new w2 24 [.int .i64 k, .int .i64 s, .slice p2 m cap2])
      have HO3 := Lib.hid ((HO1.out.below hb3).alloc (.cells #[.int .i64 k, .int .i64 s, .slice p2 m cap2] 24))
      have HO4 := Lib.hid (hO2.alloc (.cells #[.int .i64 k, .int .i64 s, .slice p2 m cap2] 24))
      have HB5 := Lib.hid hb5
      have HL5 := Lib.hid (lives_any _ (HT.out.below hb5))
      clear hb3 hb4 hb5 HR2 K1 hO2 HO1
      go_wp2_with fail
      refine HL5.out.mono ?_; rintro e w3 ⟨rfl, hb6⟩
      have HB6 := Lib.hid (HB5.out.trans (hb6.mono HB5.out.size))
      have K3 := K2.out.next hb6
      have J3 := J2.out.next hb6
      have k0 := K3.cell 0 (by simp)
      have k1 := K3.cell 1 (by simp)
      have k2 := K3.cell 2 (by simp)
      have j0 := J3.cell 0 (by simp)
      have j1 := J3.cell 1 (by simp)
      have j2 := J3.cell 2 (by simp)
      have HS := Lib.hid (rsameN_any k s p t m cap k s p2 t m cap2 w3 (HO3.out.below hb6).bytes (HO4.out.below hb6).bytes HM.out HM.out)
      rw [sameN_refl] at HS
      clear hb6 K3 J3 K2 J2 HL5 HO3 HO4
      go_wp2_with fail
      refine HS.out.mono ?_; rintro e w4 ⟨rfl, hb7⟩
      have HB7 := Lib.hid (HB6.out.trans (hb7.mono HB6.out.size))
      clear hb7 k0 k1 k2 j0 j1 j2
      go_wp2_with fail
      go_ret
      exact ⟨rfl, HB7.out⟩
end Go.Proofs.YtmeejbkcaghhgaaDoor
