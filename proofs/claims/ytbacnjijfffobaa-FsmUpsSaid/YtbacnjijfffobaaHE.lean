/- fsm: FsmBad's walk. -/
import Derived.Test.YtbacnjijfffobaaHD
import Derived.BigQuiet
namespace Go.Proofs.Ytbacnjijfffobaa
open Go.RowKit

theorem below_drewN' (B : Nat) (w : World) (n : Nat) : Below B w (w.drewN n) := ⟨rfl, rfl, rfl, Nat.le_refl _, fun _ _ => rfl⟩
theorem bad_step (o : Op) (r : Int) (s : Ph) (code sub : Int) (d : Dt) (h : okL o r = true) (hp : 3 ≤ s.phase) (hq : s.phase ≤ 5) : stepV o r s 9 Op.zero code sub d = (Ph.at 2, leaveL s code sub d r) := by
  unfold stepV
  have hk : knownB s = true := by unfold knownB; rw [decide_eq_true (by omega : 1 ≤ s.phase), decide_eq_true hq]; rfl
  rw [h, hk]
  show eventV o r s 9 Op.zero code sub d = _
  unfold eventV
  rw [if_neg (by omega), if_neg (by omega), if_neg (by omega)]
  rfl
set_option maxHeartbeats 8000000 in
theorem bad_walk (w : World) (o : Op) (r : Int) (s : Ph) (code sub : Int) :
    Calls Try.prog 5 #[loV o r, s.v, .int .i64 code, .int .i64 sub] w fun e w' => e = .returned (.bool true) ∧ Below w.heap.size w w' := by
  have hqe := st_eq
  have hge := st_guard
  obtain ⟨oa, oh, oi, of, op⟩ := o
  obtain ⟨sp, sh, sf, sq, si⟩ := s
  have HCK := Lib.hid (fun (U : World) => rfcheck_any ⟨oa, oh, oi, of, op⟩ r U)
  unfold loV at HCK
  unfold loV Ph.v
  dsimp only at *
  rcases hok : okL ⟨oa, oh, oi, of, op⟩ r with _ | _
  · rw [hok] at HCK
    clear hok
    have bl := (Blk.new w 26 [.int .i64 oa, .int .i64 oh, .int .u32 oi, .bool of, .int .i64 op, .int .i64 r]).alloc (.cells #[.int .i64 sp, .int .i64 sh, .bool sf, .bool sq, .int .u32 si] 31)
    have bs := Blk.new (w.alloc (.cells #[.int .i64 oa, .int .i64 oh, .int .u32 oi, .bool of, .int .i64 op, .int .i64 r] 26)) 31 [.int .i64 sp, .int .i64 sh, .bool sf, .bool sq, .int .u32 si]
    rw [sz_alloc] at bs
    have hA := two_below w (.cells #[.int .i64 oa, .int .i64 oh, .int .u32 oi, .bool of, .int .i64 op, .int .i64 r] 26) (.cells #[.int .i64 sp, .int .i64 sh, .bool sf, .bool sq, .int .u32 si] 31)
    obtain ⟨W, hW⟩ : ∃ W, (w.alloc (.cells #[.int .i64 oa, .int .i64 oh, .int .u32 oi, .bool of, .int .i64 op, .int .i64 r] 26)).alloc (.cells #[.int .i64 sp, .int .i64 sh, .bool sf, .bool sq, .int .u32 si] 31) = W := ⟨_, rfl⟩
    obtain ⟨X1, hX1⟩ : ∃ X, w.heap.size + 1 = X := ⟨_, rfl⟩
    rw [hX1] at bs
    rw [hW] at bl bs hA
    have HBL := Lib.hid bl
    have HBS := Lib.hid bs
    have HA := Lib.hid hA
    have HW := Lib.hid hW
    have HX1 := Lib.hid hX1
    clear bl bs hA hW hX1
    go_enter Try.func5, Try.ntmps5
    go_wp2_with fail
    rw [HW.out, HX1.out]
    refine (HCK.out W).mono ?_
    rintro e w1 ⟨rfl, hb1⟩
    have HBL1 := Lib.hid (HBL.out.next hb1)
    have HBS1 := Lib.hid (HBS.out.next hb1)
    have HZ1 := Lib.hid (HA.out.trans (hb1.mono HA.out.size))
    clear hb1
    have s0 : w1.cell? ⟨X1, 0, none⟩ = some (.int .i64 sp) := HBS1.out.cell 0 (by simp)
    have s1 : w1.cell? ⟨X1, 1, none⟩ = some (.int .i64 sh) := HBS1.out.cell 1 (by simp)
    have s2 : w1.cell? ⟨X1, 2, none⟩ = some (.bool sf) := HBS1.out.cell 2 (by simp)
    have s3 : w1.cell? ⟨X1, 3, none⟩ = some (.bool sq) := HBS1.out.cell 3 (by simp)
    have s4 : w1.cell? ⟨X1, 4, none⟩ = some (.int .u32 si) := HBS1.out.cell 4 (by simp)
    have l0 : w1.cell? ⟨w.heap.size, 0, none⟩ = some (.int .i64 oa) := HBL1.out.cell 0 (by simp)
    have l1 : w1.cell? ⟨w.heap.size, 1, none⟩ = some (.int .i64 oh) := HBL1.out.cell 1 (by simp)
    have l2 : w1.cell? ⟨w.heap.size, 2, none⟩ = some (.int .u32 oi) := HBL1.out.cell 2 (by simp)
    have l3 : w1.cell? ⟨w.heap.size, 3, none⟩ = some (.bool of) := HBL1.out.cell 3 (by simp)
    have l4 : w1.cell? ⟨w.heap.size, 4, none⟩ = some (.int .i64 op) := HBL1.out.cell 4 (by simp)
    have l5 : w1.cell? ⟨w.heap.size, 5, none⟩ = some (.int .i64 r) := HBL1.out.cell 5 (by simp)
    go_wp2_with fail
    refine (lives_any _).mono ?_
    rintro e w2 ⟨rfl, hb2⟩
    have HZ2 := Lib.hid (HZ1.out.trans (hb2.mono HZ1.out.size))
    clear hb2
    go_wp2_with fail
    go_ret
    exact ⟨rfl, HZ2.out⟩
  · rw [hok] at HCK
    have HOK := Lib.hid hok
    clear hok
    by_cases h3 : sp < 3
    · skip
      have bl := (Blk.new w 26 [.int .i64 oa, .int .i64 oh, .int .u32 oi, .bool of, .int .i64 op, .int .i64 r]).alloc (.cells #[.int .i64 sp, .int .i64 sh, .bool sf, .bool sq, .int .u32 si] 31)
      have bs := Blk.new (w.alloc (.cells #[.int .i64 oa, .int .i64 oh, .int .u32 oi, .bool of, .int .i64 op, .int .i64 r] 26)) 31 [.int .i64 sp, .int .i64 sh, .bool sf, .bool sq, .int .u32 si]
      rw [sz_alloc] at bs
      have hA := two_below w (.cells #[.int .i64 oa, .int .i64 oh, .int .u32 oi, .bool of, .int .i64 op, .int .i64 r] 26) (.cells #[.int .i64 sp, .int .i64 sh, .bool sf, .bool sq, .int .u32 si] 31)
      obtain ⟨W, hW⟩ : ∃ W, (w.alloc (.cells #[.int .i64 oa, .int .i64 oh, .int .u32 oi, .bool of, .int .i64 op, .int .i64 r] 26)).alloc (.cells #[.int .i64 sp, .int .i64 sh, .bool sf, .bool sq, .int .u32 si] 31) = W := ⟨_, rfl⟩
      obtain ⟨X1, hX1⟩ : ∃ X, w.heap.size + 1 = X := ⟨_, rfl⟩
      rw [hX1] at bs
      rw [hW] at bl bs hA
      have HBL := Lib.hid bl
      have HBS := Lib.hid bs
      have HA := Lib.hid hA
      have HW := Lib.hid hW
      have HX1 := Lib.hid hX1
      clear bl bs hA hW hX1
      go_enter Try.func5, Try.ntmps5
      go_wp2_with fail
      rw [HW.out, HX1.out]
      refine (HCK.out W).mono ?_
      rintro e w1 ⟨rfl, hb1⟩
      have HBL1 := Lib.hid (HBL.out.next hb1)
      have HBS1 := Lib.hid (HBS.out.next hb1)
      have HZ1 := Lib.hid (HA.out.trans (hb1.mono HA.out.size))
      clear hb1
      have s0 : w1.cell? ⟨X1, 0, none⟩ = some (.int .i64 sp) := HBS1.out.cell 0 (by simp)
      have s1 : w1.cell? ⟨X1, 1, none⟩ = some (.int .i64 sh) := HBS1.out.cell 1 (by simp)
      have s2 : w1.cell? ⟨X1, 2, none⟩ = some (.bool sf) := HBS1.out.cell 2 (by simp)
      have s3 : w1.cell? ⟨X1, 3, none⟩ = some (.bool sq) := HBS1.out.cell 3 (by simp)
      have s4 : w1.cell? ⟨X1, 4, none⟩ = some (.int .u32 si) := HBS1.out.cell 4 (by simp)
      have l0 : w1.cell? ⟨w.heap.size, 0, none⟩ = some (.int .i64 oa) := HBL1.out.cell 0 (by simp)
      have l1 : w1.cell? ⟨w.heap.size, 1, none⟩ = some (.int .i64 oh) := HBL1.out.cell 1 (by simp)
      have l2 : w1.cell? ⟨w.heap.size, 2, none⟩ = some (.int .u32 oi) := HBL1.out.cell 2 (by simp)
      have l3 : w1.cell? ⟨w.heap.size, 3, none⟩ = some (.bool of) := HBL1.out.cell 3 (by simp)
      have l4 : w1.cell? ⟨w.heap.size, 4, none⟩ = some (.int .i64 op) := HBL1.out.cell 4 (by simp)
      have l5 : w1.cell? ⟨w.heap.size, 5, none⟩ = some (.int .i64 r) := HBL1.out.cell 5 (by simp)
      go_wp2_with fail
      refine (lives_any _).mono ?_
      rintro e w2 ⟨rfl, hb2⟩
      have HZ2 := Lib.hid (HZ1.out.trans (hb2.mono HZ1.out.size))
      clear hb2
      go_wp2_with fail
      go_ret
      exact ⟨rfl, HZ2.out⟩
    · by_cases h5 : 5 < sp
      · have h3' : 3 ≤ sp := by omega
        clear h3
        have bl := (Blk.new w 26 [.int .i64 oa, .int .i64 oh, .int .u32 oi, .bool of, .int .i64 op, .int .i64 r]).alloc (.cells #[.int .i64 sp, .int .i64 sh, .bool sf, .bool sq, .int .u32 si] 31)
        have bs := Blk.new (w.alloc (.cells #[.int .i64 oa, .int .i64 oh, .int .u32 oi, .bool of, .int .i64 op, .int .i64 r] 26)) 31 [.int .i64 sp, .int .i64 sh, .bool sf, .bool sq, .int .u32 si]
        rw [sz_alloc] at bs
        have hA := two_below w (.cells #[.int .i64 oa, .int .i64 oh, .int .u32 oi, .bool of, .int .i64 op, .int .i64 r] 26) (.cells #[.int .i64 sp, .int .i64 sh, .bool sf, .bool sq, .int .u32 si] 31)
        obtain ⟨W, hW⟩ : ∃ W, (w.alloc (.cells #[.int .i64 oa, .int .i64 oh, .int .u32 oi, .bool of, .int .i64 op, .int .i64 r] 26)).alloc (.cells #[.int .i64 sp, .int .i64 sh, .bool sf, .bool sq, .int .u32 si] 31) = W := ⟨_, rfl⟩
        obtain ⟨X1, hX1⟩ : ∃ X, w.heap.size + 1 = X := ⟨_, rfl⟩
        rw [hX1] at bs
        rw [hW] at bl bs hA
        have HBL := Lib.hid bl
        have HBS := Lib.hid bs
        have HA := Lib.hid hA
        have HW := Lib.hid hW
        have HX1 := Lib.hid hX1
        clear bl bs hA hW hX1
        go_enter Try.func5, Try.ntmps5
        go_wp2_with fail
        rw [HW.out, HX1.out]
        refine (HCK.out W).mono ?_
        rintro e w1 ⟨rfl, hb1⟩
        have HBL1 := Lib.hid (HBL.out.next hb1)
        have HBS1 := Lib.hid (HBS.out.next hb1)
        have HZ1 := Lib.hid (HA.out.trans (hb1.mono HA.out.size))
        clear hb1
        have s0 : w1.cell? ⟨X1, 0, none⟩ = some (.int .i64 sp) := HBS1.out.cell 0 (by simp)
        have s1 : w1.cell? ⟨X1, 1, none⟩ = some (.int .i64 sh) := HBS1.out.cell 1 (by simp)
        have s2 : w1.cell? ⟨X1, 2, none⟩ = some (.bool sf) := HBS1.out.cell 2 (by simp)
        have s3 : w1.cell? ⟨X1, 3, none⟩ = some (.bool sq) := HBS1.out.cell 3 (by simp)
        have s4 : w1.cell? ⟨X1, 4, none⟩ = some (.int .u32 si) := HBS1.out.cell 4 (by simp)
        have l0 : w1.cell? ⟨w.heap.size, 0, none⟩ = some (.int .i64 oa) := HBL1.out.cell 0 (by simp)
        have l1 : w1.cell? ⟨w.heap.size, 1, none⟩ = some (.int .i64 oh) := HBL1.out.cell 1 (by simp)
        have l2 : w1.cell? ⟨w.heap.size, 2, none⟩ = some (.int .u32 oi) := HBL1.out.cell 2 (by simp)
        have l3 : w1.cell? ⟨w.heap.size, 3, none⟩ = some (.bool of) := HBL1.out.cell 3 (by simp)
        have l4 : w1.cell? ⟨w.heap.size, 4, none⟩ = some (.int .i64 op) := HBL1.out.cell 4 (by simp)
        have l5 : w1.cell? ⟨w.heap.size, 5, none⟩ = some (.int .i64 r) := HBL1.out.cell 5 (by simp)
        go_wp2_with fail
        refine (lives_any _).mono ?_
        rintro e w2 ⟨rfl, hb2⟩
        have HZ2 := Lib.hid (HZ1.out.trans (hb2.mono HZ1.out.size))
        clear hb2
        go_wp2_with fail
        go_ret
        exact ⟨rfl, HZ2.out⟩
      · have hph : sp = 3 ∨ sp = 4 ∨ sp = 5 := by omega
        clear h3 h5
        by_cases hc : code < 1
        · rcases hph with rfl | rfl | rfl
          · skip
            have bl := (Blk.new w 26 [.int .i64 oa, .int .i64 oh, .int .u32 oi, .bool of, .int .i64 op, .int .i64 r]).alloc (.cells #[.int .i64 3, .int .i64 sh, .bool sf, .bool sq, .int .u32 si] 31)
            have bs := Blk.new (w.alloc (.cells #[.int .i64 oa, .int .i64 oh, .int .u32 oi, .bool of, .int .i64 op, .int .i64 r] 26)) 31 [.int .i64 3, .int .i64 sh, .bool sf, .bool sq, .int .u32 si]
            rw [sz_alloc] at bs
            have hA := two_below w (.cells #[.int .i64 oa, .int .i64 oh, .int .u32 oi, .bool of, .int .i64 op, .int .i64 r] 26) (.cells #[.int .i64 3, .int .i64 sh, .bool sf, .bool sq, .int .u32 si] 31)
            obtain ⟨W, hW⟩ : ∃ W, (w.alloc (.cells #[.int .i64 oa, .int .i64 oh, .int .u32 oi, .bool of, .int .i64 op, .int .i64 r] 26)).alloc (.cells #[.int .i64 3, .int .i64 sh, .bool sf, .bool sq, .int .u32 si] 31) = W := ⟨_, rfl⟩
            obtain ⟨X1, hX1⟩ : ∃ X, w.heap.size + 1 = X := ⟨_, rfl⟩
            rw [hX1] at bs
            rw [hW] at bl bs hA
            have HBL := Lib.hid bl
            have HBS := Lib.hid bs
            have HA := Lib.hid hA
            have HW := Lib.hid hW
            have HX1 := Lib.hid hX1
            clear bl bs hA hW hX1
            go_enter Try.func5, Try.ntmps5
            go_wp2_with fail
            rw [HW.out, HX1.out]
            refine (HCK.out W).mono ?_
            rintro e w1 ⟨rfl, hb1⟩
            have HBL1 := Lib.hid (HBL.out.next hb1)
            have HBS1 := Lib.hid (HBS.out.next hb1)
            have HZ1 := Lib.hid (HA.out.trans (hb1.mono HA.out.size))
            clear hb1
            have s0 : w1.cell? ⟨X1, 0, none⟩ = some (.int .i64 3) := HBS1.out.cell 0 (by simp)
            have s1 : w1.cell? ⟨X1, 1, none⟩ = some (.int .i64 sh) := HBS1.out.cell 1 (by simp)
            have s2 : w1.cell? ⟨X1, 2, none⟩ = some (.bool sf) := HBS1.out.cell 2 (by simp)
            have s3 : w1.cell? ⟨X1, 3, none⟩ = some (.bool sq) := HBS1.out.cell 3 (by simp)
            have s4 : w1.cell? ⟨X1, 4, none⟩ = some (.int .u32 si) := HBS1.out.cell 4 (by simp)
            have l0 : w1.cell? ⟨w.heap.size, 0, none⟩ = some (.int .i64 oa) := HBL1.out.cell 0 (by simp)
            have l1 : w1.cell? ⟨w.heap.size, 1, none⟩ = some (.int .i64 oh) := HBL1.out.cell 1 (by simp)
            have l2 : w1.cell? ⟨w.heap.size, 2, none⟩ = some (.int .u32 oi) := HBL1.out.cell 2 (by simp)
            have l3 : w1.cell? ⟨w.heap.size, 3, none⟩ = some (.bool of) := HBL1.out.cell 3 (by simp)
            have l4 : w1.cell? ⟨w.heap.size, 4, none⟩ = some (.int .i64 op) := HBL1.out.cell 4 (by simp)
            have l5 : w1.cell? ⟨w.heap.size, 5, none⟩ = some (.int .i64 r) := HBL1.out.cell 5 (by simp)
            go_wp2_with fail
            refine (lives_any _).mono ?_
            rintro e w2 ⟨rfl, hb2⟩
            have HZ2 := Lib.hid (HZ1.out.trans (hb2.mono HZ1.out.size))
            clear hb2
            go_wp2_with fail
            go_ret
            exact ⟨rfl, HZ2.out⟩
          · skip
            have bl := (Blk.new w 26 [.int .i64 oa, .int .i64 oh, .int .u32 oi, .bool of, .int .i64 op, .int .i64 r]).alloc (.cells #[.int .i64 4, .int .i64 sh, .bool sf, .bool sq, .int .u32 si] 31)
            have bs := Blk.new (w.alloc (.cells #[.int .i64 oa, .int .i64 oh, .int .u32 oi, .bool of, .int .i64 op, .int .i64 r] 26)) 31 [.int .i64 4, .int .i64 sh, .bool sf, .bool sq, .int .u32 si]
            rw [sz_alloc] at bs
            have hA := two_below w (.cells #[.int .i64 oa, .int .i64 oh, .int .u32 oi, .bool of, .int .i64 op, .int .i64 r] 26) (.cells #[.int .i64 4, .int .i64 sh, .bool sf, .bool sq, .int .u32 si] 31)
            obtain ⟨W, hW⟩ : ∃ W, (w.alloc (.cells #[.int .i64 oa, .int .i64 oh, .int .u32 oi, .bool of, .int .i64 op, .int .i64 r] 26)).alloc (.cells #[.int .i64 4, .int .i64 sh, .bool sf, .bool sq, .int .u32 si] 31) = W := ⟨_, rfl⟩
            obtain ⟨X1, hX1⟩ : ∃ X, w.heap.size + 1 = X := ⟨_, rfl⟩
            rw [hX1] at bs
            rw [hW] at bl bs hA
            have HBL := Lib.hid bl
            have HBS := Lib.hid bs
            have HA := Lib.hid hA
            have HW := Lib.hid hW
            have HX1 := Lib.hid hX1
            clear bl bs hA hW hX1
            go_enter Try.func5, Try.ntmps5
            go_wp2_with fail
            rw [HW.out, HX1.out]
            refine (HCK.out W).mono ?_
            rintro e w1 ⟨rfl, hb1⟩
            have HBL1 := Lib.hid (HBL.out.next hb1)
            have HBS1 := Lib.hid (HBS.out.next hb1)
            have HZ1 := Lib.hid (HA.out.trans (hb1.mono HA.out.size))
            clear hb1
            have s0 : w1.cell? ⟨X1, 0, none⟩ = some (.int .i64 4) := HBS1.out.cell 0 (by simp)
            have s1 : w1.cell? ⟨X1, 1, none⟩ = some (.int .i64 sh) := HBS1.out.cell 1 (by simp)
            have s2 : w1.cell? ⟨X1, 2, none⟩ = some (.bool sf) := HBS1.out.cell 2 (by simp)
            have s3 : w1.cell? ⟨X1, 3, none⟩ = some (.bool sq) := HBS1.out.cell 3 (by simp)
            have s4 : w1.cell? ⟨X1, 4, none⟩ = some (.int .u32 si) := HBS1.out.cell 4 (by simp)
            have l0 : w1.cell? ⟨w.heap.size, 0, none⟩ = some (.int .i64 oa) := HBL1.out.cell 0 (by simp)
            have l1 : w1.cell? ⟨w.heap.size, 1, none⟩ = some (.int .i64 oh) := HBL1.out.cell 1 (by simp)
            have l2 : w1.cell? ⟨w.heap.size, 2, none⟩ = some (.int .u32 oi) := HBL1.out.cell 2 (by simp)
            have l3 : w1.cell? ⟨w.heap.size, 3, none⟩ = some (.bool of) := HBL1.out.cell 3 (by simp)
            have l4 : w1.cell? ⟨w.heap.size, 4, none⟩ = some (.int .i64 op) := HBL1.out.cell 4 (by simp)
            have l5 : w1.cell? ⟨w.heap.size, 5, none⟩ = some (.int .i64 r) := HBL1.out.cell 5 (by simp)
            go_wp2_with fail
            refine (lives_any _).mono ?_
            rintro e w2 ⟨rfl, hb2⟩
            have HZ2 := Lib.hid (HZ1.out.trans (hb2.mono HZ1.out.size))
            clear hb2
            go_wp2_with fail
            go_ret
            exact ⟨rfl, HZ2.out⟩
          · skip
            have bl := (Blk.new w 26 [.int .i64 oa, .int .i64 oh, .int .u32 oi, .bool of, .int .i64 op, .int .i64 r]).alloc (.cells #[.int .i64 5, .int .i64 sh, .bool sf, .bool sq, .int .u32 si] 31)
            have bs := Blk.new (w.alloc (.cells #[.int .i64 oa, .int .i64 oh, .int .u32 oi, .bool of, .int .i64 op, .int .i64 r] 26)) 31 [.int .i64 5, .int .i64 sh, .bool sf, .bool sq, .int .u32 si]
            rw [sz_alloc] at bs
            have hA := two_below w (.cells #[.int .i64 oa, .int .i64 oh, .int .u32 oi, .bool of, .int .i64 op, .int .i64 r] 26) (.cells #[.int .i64 5, .int .i64 sh, .bool sf, .bool sq, .int .u32 si] 31)
            obtain ⟨W, hW⟩ : ∃ W, (w.alloc (.cells #[.int .i64 oa, .int .i64 oh, .int .u32 oi, .bool of, .int .i64 op, .int .i64 r] 26)).alloc (.cells #[.int .i64 5, .int .i64 sh, .bool sf, .bool sq, .int .u32 si] 31) = W := ⟨_, rfl⟩
            obtain ⟨X1, hX1⟩ : ∃ X, w.heap.size + 1 = X := ⟨_, rfl⟩
            rw [hX1] at bs
            rw [hW] at bl bs hA
            have HBL := Lib.hid bl
            have HBS := Lib.hid bs
            have HA := Lib.hid hA
            have HW := Lib.hid hW
            have HX1 := Lib.hid hX1
            clear bl bs hA hW hX1
            go_enter Try.func5, Try.ntmps5
            go_wp2_with fail
            rw [HW.out, HX1.out]
            refine (HCK.out W).mono ?_
            rintro e w1 ⟨rfl, hb1⟩
            have HBL1 := Lib.hid (HBL.out.next hb1)
            have HBS1 := Lib.hid (HBS.out.next hb1)
            have HZ1 := Lib.hid (HA.out.trans (hb1.mono HA.out.size))
            clear hb1
            have s0 : w1.cell? ⟨X1, 0, none⟩ = some (.int .i64 5) := HBS1.out.cell 0 (by simp)
            have s1 : w1.cell? ⟨X1, 1, none⟩ = some (.int .i64 sh) := HBS1.out.cell 1 (by simp)
            have s2 : w1.cell? ⟨X1, 2, none⟩ = some (.bool sf) := HBS1.out.cell 2 (by simp)
            have s3 : w1.cell? ⟨X1, 3, none⟩ = some (.bool sq) := HBS1.out.cell 3 (by simp)
            have s4 : w1.cell? ⟨X1, 4, none⟩ = some (.int .u32 si) := HBS1.out.cell 4 (by simp)
            have l0 : w1.cell? ⟨w.heap.size, 0, none⟩ = some (.int .i64 oa) := HBL1.out.cell 0 (by simp)
            have l1 : w1.cell? ⟨w.heap.size, 1, none⟩ = some (.int .i64 oh) := HBL1.out.cell 1 (by simp)
            have l2 : w1.cell? ⟨w.heap.size, 2, none⟩ = some (.int .u32 oi) := HBL1.out.cell 2 (by simp)
            have l3 : w1.cell? ⟨w.heap.size, 3, none⟩ = some (.bool of) := HBL1.out.cell 3 (by simp)
            have l4 : w1.cell? ⟨w.heap.size, 4, none⟩ = some (.int .i64 op) := HBL1.out.cell 4 (by simp)
            have l5 : w1.cell? ⟨w.heap.size, 5, none⟩ = some (.int .i64 r) := HBL1.out.cell 5 (by simp)
            go_wp2_with fail
            refine (lives_any _).mono ?_
            rintro e w2 ⟨rfl, hb2⟩
            have HZ2 := Lib.hid (HZ1.out.trans (hb2.mono HZ1.out.size))
            clear hb2
            go_wp2_with fail
            go_ret
            exact ⟨rfl, HZ2.out⟩
        · have hc' : 1 ≤ code := by omega
          have hc0 : code ≠ 0 := by omega
          clear hc
          rcases hph with rfl | rfl | rfl
          · have HST := Lib.hid (fun (U : World) => step_lit U ⟨oa, oh, oi, of, op⟩ r ⟨3, sh, sf, sq, si⟩ 9 Op.zero code sub (Ph.at 2) (fun d => [noteAc code sub d, ac 5 0, ac 6 0, ac 7 0, ac 8 r]) 5 (fun d => by rw [bad_step _ _ _ _ _ _ HOK.out (by dsimp only; omega) (by dsimp only; omega)]; unfold leaveL noteL; rw [if_neg hc0]; rfl) (fun d => rfl) (by omega))
            unfold StepL loV Ph.v Ph.at evA at HST
            dsimp only at HST
            clear hc0
            have bl := (Blk.new w 26 [.int .i64 oa, .int .i64 oh, .int .u32 oi, .bool of, .int .i64 op, .int .i64 r]).alloc (.cells #[.int .i64 3, .int .i64 sh, .bool sf, .bool sq, .int .u32 si] 31)
            have bs := Blk.new (w.alloc (.cells #[.int .i64 oa, .int .i64 oh, .int .u32 oi, .bool of, .int .i64 op, .int .i64 r] 26)) 31 [.int .i64 3, .int .i64 sh, .bool sf, .bool sq, .int .u32 si]
            rw [sz_alloc] at bs
            have hA := two_below w (.cells #[.int .i64 oa, .int .i64 oh, .int .u32 oi, .bool of, .int .i64 op, .int .i64 r] 26) (.cells #[.int .i64 3, .int .i64 sh, .bool sf, .bool sq, .int .u32 si] 31)
            obtain ⟨W, hW⟩ : ∃ W, (w.alloc (.cells #[.int .i64 oa, .int .i64 oh, .int .u32 oi, .bool of, .int .i64 op, .int .i64 r] 26)).alloc (.cells #[.int .i64 3, .int .i64 sh, .bool sf, .bool sq, .int .u32 si] 31) = W := ⟨_, rfl⟩
            obtain ⟨X1, hX1⟩ : ∃ X, w.heap.size + 1 = X := ⟨_, rfl⟩
            rw [hX1] at bs
            rw [hW] at bl bs hA
            have HBL := Lib.hid bl
            have HBS := Lib.hid bs
            have HA := Lib.hid hA
            have HW := Lib.hid hW
            have HX1 := Lib.hid hX1
            clear bl bs hA hW hX1
            go_enter Try.func5, Try.ntmps5
            go_wp2_with fail
            rw [HW.out, HX1.out]
            refine (HCK.out W).mono ?_
            rintro e w1 ⟨rfl, hb1⟩
            have HBL1 := Lib.hid (HBL.out.next hb1)
            have HBS1 := Lib.hid (HBS.out.next hb1)
            have HZ1 := Lib.hid (HA.out.trans (hb1.mono HA.out.size))
            clear hb1
            have s0 : w1.cell? ⟨X1, 0, none⟩ = some (.int .i64 3) := HBS1.out.cell 0 (by simp)
            have s1 : w1.cell? ⟨X1, 1, none⟩ = some (.int .i64 sh) := HBS1.out.cell 1 (by simp)
            have s2 : w1.cell? ⟨X1, 2, none⟩ = some (.bool sf) := HBS1.out.cell 2 (by simp)
            have s3 : w1.cell? ⟨X1, 3, none⟩ = some (.bool sq) := HBS1.out.cell 3 (by simp)
            have s4 : w1.cell? ⟨X1, 4, none⟩ = some (.int .u32 si) := HBS1.out.cell 4 (by simp)
            have l0 : w1.cell? ⟨w.heap.size, 0, none⟩ = some (.int .i64 oa) := HBL1.out.cell 0 (by simp)
            have l1 : w1.cell? ⟨w.heap.size, 1, none⟩ = some (.int .i64 oh) := HBL1.out.cell 1 (by simp)
            have l2 : w1.cell? ⟨w.heap.size, 2, none⟩ = some (.int .u32 oi) := HBL1.out.cell 2 (by simp)
            have l3 : w1.cell? ⟨w.heap.size, 3, none⟩ = some (.bool of) := HBL1.out.cell 3 (by simp)
            have l4 : w1.cell? ⟨w.heap.size, 4, none⟩ = some (.int .i64 op) := HBL1.out.cell 4 (by simp)
            have l5 : w1.cell? ⟨w.heap.size, 5, none⟩ = some (.int .i64 r) := HBL1.out.cell 5 (by simp)
            go_wp2_with fail
            refine (HST.out _).mono ?_
            rintro e w2 ⟨d, g, cap, rfl, hcap, ha, hb2⟩
            have HBS2 := Lib.hid (HBS1.out.next hb2)
            have HZ2 := Lib.hid (HZ1.out.trans (hb2.mono HZ1.out.size))
            have HA2 := Lib.hid ha
            clear hb2 ha s0 s1 s2 s3 s4 l0 l1 l2 l3 l4 l5
            obtain ⟨Y, hY⟩ : ∃ Y, w2.heap.size = Y := ⟨_, rfl⟩
            have HY := Lib.hid hY
            have HBT := Lib.hid (hY ▸ Blk.new w2 31 [.int .i64 2, .int .i64 0, .bool false, .bool false, .int .u32 0])
            have HBS3 := Lib.hid (HBS2.out.alloc (.cells #[.int .i64 2, .int .i64 0, .bool false, .bool false, .int .u32 0] 31))
            have HA3 := Lib.hid (HA2.out.next (newB w2 (.cells #[.int .i64 2, .int .i64 0, .bool false, .bool false, .int .u32 0] 31)))
            have HZ3 := Lib.hid (HZ2.out.trans ((newB w2 (.cells #[.int .i64 2, .int .i64 0, .bool false, .bool false, .int .u32 0] 31)).mono HZ2.out.size))
            clear hY
            go_wp2_with fail
            rw [HY.out]
            refine (lives_any _).mono ?_
            rintro e w3 ⟨rfl, hb3⟩
            have HBS4 := Lib.hid (HBS3.out.next hb3)
            have HBT4 := Lib.hid (HBT.out.next hb3)
            have HA4 := Lib.hid (HA3.out.next hb3)
            have HZ4 := Lib.hid (HZ3.out.trans (hb3.mono HZ3.out.size))
            clear hb3
            have hh := fun m => has_any 10 g 5 cap [noteAc code sub d, ac 5 0, ac 6 0, ac 7 0, ac 8 r] (w3.drewN m) (HA4.out.next (below_drewN' _ _ _)) rfl (by omega)
            rw [show hasB 10 [noteAc code sub d, ac 5 0, ac 6 0, ac 7 0, ac 8 r] = false from rfl] at hh
            have HHH := Lib.hid (fun m => (hh m).mono fun e w' ⟨h1, h2⟩ => (⟨h1, h2.symm⟩ : e = _ ∧ w' = w3.drewN m))
            clear hh
            have q0 : w3.drew.cell? ⟨X1, 0, none⟩ = some (.int .i64 3) := HBS4.out.cell 0 (by simp)
            have q0' : w3.cell? ⟨X1, 0, none⟩ = some (.int .i64 3) := HBS4.out.cell 0 (by simp)
            have t0 : w3.drew.cell? ⟨Y, 0, none⟩ = some (.int .i64 2) := HBT4.out.cell 0 (by simp)
            have t0' : w3.cell? ⟨Y, 0, none⟩ = some (.int .i64 2) := HBT4.out.cell 0 (by simp)
            have t1 : w3.drew.cell? ⟨Y, 1, none⟩ = some (.int .i64 0) := HBT4.out.cell 1 (by simp)
            have t1' : w3.cell? ⟨Y, 1, none⟩ = some (.int .i64 0) := HBT4.out.cell 1 (by simp)
            have t2 : w3.drew.cell? ⟨Y, 2, none⟩ = some (.bool false) := HBT4.out.cell 2 (by simp)
            have t2' : w3.cell? ⟨Y, 2, none⟩ = some (.bool false) := HBT4.out.cell 2 (by simp)
            have t3 : w3.drew.cell? ⟨Y, 3, none⟩ = some (.bool false) := HBT4.out.cell 3 (by simp)
            have t3' : w3.cell? ⟨Y, 3, none⟩ = some (.bool false) := HBT4.out.cell 3 (by simp)
            have t4 : w3.drew.cell? ⟨Y, 4, none⟩ = some (.int .u32 0) := HBT4.out.cell 4 (by simp)
            have t4' : w3.cell? ⟨Y, 4, none⟩ = some (.int .u32 0) := HBT4.out.cell 4 (by simp)
            have a0 : w3.drew.cell? ⟨g, 0, none⟩ = some (.int .i64 4) := (HA4.out.2 0 (by omega)).trans rfl
            have a0' : w3.cell? ⟨g, 0, none⟩ = some (.int .i64 4) := (HA4.out.2 0 (by omega)).trans rfl
            have a2 : w3.drew.cell? ⟨g, 2, none⟩ = some (.int .i64 code) := (HA4.out.2 2 (by omega)).trans rfl
            have a2' : w3.cell? ⟨g, 2, none⟩ = some (.int .i64 code) := (HA4.out.2 2 (by omega)).trans rfl
            have a3 : w3.drew.cell? ⟨g, 3, none⟩ = some (.int .i64 sub) := (HA4.out.2 3 (by omega)).trans rfl
            have a3' : w3.cell? ⟨g, 3, none⟩ = some (.int .i64 sub) := (HA4.out.2 3 (by omega)).trans rfl
            have a5 : w3.drew.cell? ⟨g, 5, none⟩ = some (.int .i64 5) := (HA4.out.2 5 (by omega)).trans rfl
            have a5' : w3.cell? ⟨g, 5, none⟩ = some (.int .i64 5) := (HA4.out.2 5 (by omega)).trans rfl
            go_wp2_with fail
            go_quiet ((go_at_call 9; with_reducible exact Calls.quiet_of_same (HHH.out _)))
            go_wp2_with fail
            go_ret
            exact ⟨rfl, HZ4.out.trans (below_drewN' _ _ _)⟩
          · have HST := Lib.hid (fun (U : World) => step_lit U ⟨oa, oh, oi, of, op⟩ r ⟨4, sh, sf, sq, si⟩ 9 Op.zero code sub (Ph.at 2) (fun d => [noteAc code sub d, ac 5 0, ac 6 0, ac 7 0, ac 8 r]) 5 (fun d => by rw [bad_step _ _ _ _ _ _ HOK.out (by dsimp only; omega) (by dsimp only; omega)]; unfold leaveL noteL; rw [if_neg hc0]; rfl) (fun d => rfl) (by omega))
            unfold StepL loV Ph.v Ph.at evA at HST
            dsimp only at HST
            clear hc0
            have bl := (Blk.new w 26 [.int .i64 oa, .int .i64 oh, .int .u32 oi, .bool of, .int .i64 op, .int .i64 r]).alloc (.cells #[.int .i64 4, .int .i64 sh, .bool sf, .bool sq, .int .u32 si] 31)
            have bs := Blk.new (w.alloc (.cells #[.int .i64 oa, .int .i64 oh, .int .u32 oi, .bool of, .int .i64 op, .int .i64 r] 26)) 31 [.int .i64 4, .int .i64 sh, .bool sf, .bool sq, .int .u32 si]
            rw [sz_alloc] at bs
            have hA := two_below w (.cells #[.int .i64 oa, .int .i64 oh, .int .u32 oi, .bool of, .int .i64 op, .int .i64 r] 26) (.cells #[.int .i64 4, .int .i64 sh, .bool sf, .bool sq, .int .u32 si] 31)
            obtain ⟨W, hW⟩ : ∃ W, (w.alloc (.cells #[.int .i64 oa, .int .i64 oh, .int .u32 oi, .bool of, .int .i64 op, .int .i64 r] 26)).alloc (.cells #[.int .i64 4, .int .i64 sh, .bool sf, .bool sq, .int .u32 si] 31) = W := ⟨_, rfl⟩
            obtain ⟨X1, hX1⟩ : ∃ X, w.heap.size + 1 = X := ⟨_, rfl⟩
            rw [hX1] at bs
            rw [hW] at bl bs hA
            have HBL := Lib.hid bl
            have HBS := Lib.hid bs
            have HA := Lib.hid hA
            have HW := Lib.hid hW
            have HX1 := Lib.hid hX1
            clear bl bs hA hW hX1
            go_enter Try.func5, Try.ntmps5
            go_wp2_with fail
            rw [HW.out, HX1.out]
            refine (HCK.out W).mono ?_
            rintro e w1 ⟨rfl, hb1⟩
            have HBL1 := Lib.hid (HBL.out.next hb1)
            have HBS1 := Lib.hid (HBS.out.next hb1)
            have HZ1 := Lib.hid (HA.out.trans (hb1.mono HA.out.size))
            clear hb1
            have s0 : w1.cell? ⟨X1, 0, none⟩ = some (.int .i64 4) := HBS1.out.cell 0 (by simp)
            have s1 : w1.cell? ⟨X1, 1, none⟩ = some (.int .i64 sh) := HBS1.out.cell 1 (by simp)
            have s2 : w1.cell? ⟨X1, 2, none⟩ = some (.bool sf) := HBS1.out.cell 2 (by simp)
            have s3 : w1.cell? ⟨X1, 3, none⟩ = some (.bool sq) := HBS1.out.cell 3 (by simp)
            have s4 : w1.cell? ⟨X1, 4, none⟩ = some (.int .u32 si) := HBS1.out.cell 4 (by simp)
            have l0 : w1.cell? ⟨w.heap.size, 0, none⟩ = some (.int .i64 oa) := HBL1.out.cell 0 (by simp)
            have l1 : w1.cell? ⟨w.heap.size, 1, none⟩ = some (.int .i64 oh) := HBL1.out.cell 1 (by simp)
            have l2 : w1.cell? ⟨w.heap.size, 2, none⟩ = some (.int .u32 oi) := HBL1.out.cell 2 (by simp)
            have l3 : w1.cell? ⟨w.heap.size, 3, none⟩ = some (.bool of) := HBL1.out.cell 3 (by simp)
            have l4 : w1.cell? ⟨w.heap.size, 4, none⟩ = some (.int .i64 op) := HBL1.out.cell 4 (by simp)
            have l5 : w1.cell? ⟨w.heap.size, 5, none⟩ = some (.int .i64 r) := HBL1.out.cell 5 (by simp)
            go_wp2_with fail
            refine (HST.out _).mono ?_
            rintro e w2 ⟨d, g, cap, rfl, hcap, ha, hb2⟩
            have HBS2 := Lib.hid (HBS1.out.next hb2)
            have HZ2 := Lib.hid (HZ1.out.trans (hb2.mono HZ1.out.size))
            have HA2 := Lib.hid ha
            clear hb2 ha s0 s1 s2 s3 s4 l0 l1 l2 l3 l4 l5
            obtain ⟨Y, hY⟩ : ∃ Y, w2.heap.size = Y := ⟨_, rfl⟩
            have HY := Lib.hid hY
            have HBT := Lib.hid (hY ▸ Blk.new w2 31 [.int .i64 2, .int .i64 0, .bool false, .bool false, .int .u32 0])
            have HBS3 := Lib.hid (HBS2.out.alloc (.cells #[.int .i64 2, .int .i64 0, .bool false, .bool false, .int .u32 0] 31))
            have HA3 := Lib.hid (HA2.out.next (newB w2 (.cells #[.int .i64 2, .int .i64 0, .bool false, .bool false, .int .u32 0] 31)))
            have HZ3 := Lib.hid (HZ2.out.trans ((newB w2 (.cells #[.int .i64 2, .int .i64 0, .bool false, .bool false, .int .u32 0] 31)).mono HZ2.out.size))
            clear hY
            go_wp2_with fail
            rw [HY.out]
            refine (lives_any _).mono ?_
            rintro e w3 ⟨rfl, hb3⟩
            have HBS4 := Lib.hid (HBS3.out.next hb3)
            have HBT4 := Lib.hid (HBT.out.next hb3)
            have HA4 := Lib.hid (HA3.out.next hb3)
            have HZ4 := Lib.hid (HZ3.out.trans (hb3.mono HZ3.out.size))
            clear hb3
            have hh := fun m => has_any 10 g 5 cap [noteAc code sub d, ac 5 0, ac 6 0, ac 7 0, ac 8 r] (w3.drewN m) (HA4.out.next (below_drewN' _ _ _)) rfl (by omega)
            rw [show hasB 10 [noteAc code sub d, ac 5 0, ac 6 0, ac 7 0, ac 8 r] = false from rfl] at hh
            have HHH := Lib.hid (fun m => (hh m).mono fun e w' ⟨h1, h2⟩ => (⟨h1, h2.symm⟩ : e = _ ∧ w' = w3.drewN m))
            clear hh
            have q0 : w3.drew.cell? ⟨X1, 0, none⟩ = some (.int .i64 4) := HBS4.out.cell 0 (by simp)
            have q0' : w3.cell? ⟨X1, 0, none⟩ = some (.int .i64 4) := HBS4.out.cell 0 (by simp)
            have t0 : w3.drew.cell? ⟨Y, 0, none⟩ = some (.int .i64 2) := HBT4.out.cell 0 (by simp)
            have t0' : w3.cell? ⟨Y, 0, none⟩ = some (.int .i64 2) := HBT4.out.cell 0 (by simp)
            have t1 : w3.drew.cell? ⟨Y, 1, none⟩ = some (.int .i64 0) := HBT4.out.cell 1 (by simp)
            have t1' : w3.cell? ⟨Y, 1, none⟩ = some (.int .i64 0) := HBT4.out.cell 1 (by simp)
            have t2 : w3.drew.cell? ⟨Y, 2, none⟩ = some (.bool false) := HBT4.out.cell 2 (by simp)
            have t2' : w3.cell? ⟨Y, 2, none⟩ = some (.bool false) := HBT4.out.cell 2 (by simp)
            have t3 : w3.drew.cell? ⟨Y, 3, none⟩ = some (.bool false) := HBT4.out.cell 3 (by simp)
            have t3' : w3.cell? ⟨Y, 3, none⟩ = some (.bool false) := HBT4.out.cell 3 (by simp)
            have t4 : w3.drew.cell? ⟨Y, 4, none⟩ = some (.int .u32 0) := HBT4.out.cell 4 (by simp)
            have t4' : w3.cell? ⟨Y, 4, none⟩ = some (.int .u32 0) := HBT4.out.cell 4 (by simp)
            have a0 : w3.drew.cell? ⟨g, 0, none⟩ = some (.int .i64 4) := (HA4.out.2 0 (by omega)).trans rfl
            have a0' : w3.cell? ⟨g, 0, none⟩ = some (.int .i64 4) := (HA4.out.2 0 (by omega)).trans rfl
            have a2 : w3.drew.cell? ⟨g, 2, none⟩ = some (.int .i64 code) := (HA4.out.2 2 (by omega)).trans rfl
            have a2' : w3.cell? ⟨g, 2, none⟩ = some (.int .i64 code) := (HA4.out.2 2 (by omega)).trans rfl
            have a3 : w3.drew.cell? ⟨g, 3, none⟩ = some (.int .i64 sub) := (HA4.out.2 3 (by omega)).trans rfl
            have a3' : w3.cell? ⟨g, 3, none⟩ = some (.int .i64 sub) := (HA4.out.2 3 (by omega)).trans rfl
            have a5 : w3.drew.cell? ⟨g, 5, none⟩ = some (.int .i64 5) := (HA4.out.2 5 (by omega)).trans rfl
            have a5' : w3.cell? ⟨g, 5, none⟩ = some (.int .i64 5) := (HA4.out.2 5 (by omega)).trans rfl
            go_wp2_with fail
            go_quiet ((go_at_call 9; with_reducible exact Calls.quiet_of_same (HHH.out _)))
            go_wp2_with fail
            go_ret
            exact ⟨rfl, HZ4.out.trans (below_drewN' _ _ _)⟩
          · have HST := Lib.hid (fun (U : World) => step_lit U ⟨oa, oh, oi, of, op⟩ r ⟨5, sh, sf, sq, si⟩ 9 Op.zero code sub (Ph.at 2) (fun d => [noteAc code sub d, ac 5 0, ac 6 0, ac 7 0, ac 8 r, ac 10 0]) 6 (fun d => by rw [bad_step _ _ _ _ _ _ HOK.out (by dsimp only; omega) (by dsimp only; omega)]; unfold leaveL noteL; rw [if_neg hc0]; rfl) (fun d => rfl) (by omega))
            unfold StepL loV Ph.v Ph.at evA at HST
            dsimp only at HST
            clear hc0
            have bl := (Blk.new w 26 [.int .i64 oa, .int .i64 oh, .int .u32 oi, .bool of, .int .i64 op, .int .i64 r]).alloc (.cells #[.int .i64 5, .int .i64 sh, .bool sf, .bool sq, .int .u32 si] 31)
            have bs := Blk.new (w.alloc (.cells #[.int .i64 oa, .int .i64 oh, .int .u32 oi, .bool of, .int .i64 op, .int .i64 r] 26)) 31 [.int .i64 5, .int .i64 sh, .bool sf, .bool sq, .int .u32 si]
            rw [sz_alloc] at bs
            have hA := two_below w (.cells #[.int .i64 oa, .int .i64 oh, .int .u32 oi, .bool of, .int .i64 op, .int .i64 r] 26) (.cells #[.int .i64 5, .int .i64 sh, .bool sf, .bool sq, .int .u32 si] 31)
            obtain ⟨W, hW⟩ : ∃ W, (w.alloc (.cells #[.int .i64 oa, .int .i64 oh, .int .u32 oi, .bool of, .int .i64 op, .int .i64 r] 26)).alloc (.cells #[.int .i64 5, .int .i64 sh, .bool sf, .bool sq, .int .u32 si] 31) = W := ⟨_, rfl⟩
            obtain ⟨X1, hX1⟩ : ∃ X, w.heap.size + 1 = X := ⟨_, rfl⟩
            rw [hX1] at bs
            rw [hW] at bl bs hA
            have HBL := Lib.hid bl
            have HBS := Lib.hid bs
            have HA := Lib.hid hA
            have HW := Lib.hid hW
            have HX1 := Lib.hid hX1
            clear bl bs hA hW hX1
            go_enter Try.func5, Try.ntmps5
            go_wp2_with fail
            rw [HW.out, HX1.out]
            refine (HCK.out W).mono ?_
            rintro e w1 ⟨rfl, hb1⟩
            have HBL1 := Lib.hid (HBL.out.next hb1)
            have HBS1 := Lib.hid (HBS.out.next hb1)
            have HZ1 := Lib.hid (HA.out.trans (hb1.mono HA.out.size))
            clear hb1
            have s0 : w1.cell? ⟨X1, 0, none⟩ = some (.int .i64 5) := HBS1.out.cell 0 (by simp)
            have s1 : w1.cell? ⟨X1, 1, none⟩ = some (.int .i64 sh) := HBS1.out.cell 1 (by simp)
            have s2 : w1.cell? ⟨X1, 2, none⟩ = some (.bool sf) := HBS1.out.cell 2 (by simp)
            have s3 : w1.cell? ⟨X1, 3, none⟩ = some (.bool sq) := HBS1.out.cell 3 (by simp)
            have s4 : w1.cell? ⟨X1, 4, none⟩ = some (.int .u32 si) := HBS1.out.cell 4 (by simp)
            have l0 : w1.cell? ⟨w.heap.size, 0, none⟩ = some (.int .i64 oa) := HBL1.out.cell 0 (by simp)
            have l1 : w1.cell? ⟨w.heap.size, 1, none⟩ = some (.int .i64 oh) := HBL1.out.cell 1 (by simp)
            have l2 : w1.cell? ⟨w.heap.size, 2, none⟩ = some (.int .u32 oi) := HBL1.out.cell 2 (by simp)
            have l3 : w1.cell? ⟨w.heap.size, 3, none⟩ = some (.bool of) := HBL1.out.cell 3 (by simp)
            have l4 : w1.cell? ⟨w.heap.size, 4, none⟩ = some (.int .i64 op) := HBL1.out.cell 4 (by simp)
            have l5 : w1.cell? ⟨w.heap.size, 5, none⟩ = some (.int .i64 r) := HBL1.out.cell 5 (by simp)
            go_wp2_with fail
            refine (HST.out _).mono ?_
            rintro e w2 ⟨d, g, cap, rfl, hcap, ha, hb2⟩
            have HBS2 := Lib.hid (HBS1.out.next hb2)
            have HZ2 := Lib.hid (HZ1.out.trans (hb2.mono HZ1.out.size))
            have HA2 := Lib.hid ha
            clear hb2 ha s0 s1 s2 s3 s4 l0 l1 l2 l3 l4 l5
            obtain ⟨Y, hY⟩ : ∃ Y, w2.heap.size = Y := ⟨_, rfl⟩
            have HY := Lib.hid hY
            have HBT := Lib.hid (hY ▸ Blk.new w2 31 [.int .i64 2, .int .i64 0, .bool false, .bool false, .int .u32 0])
            have HBS3 := Lib.hid (HBS2.out.alloc (.cells #[.int .i64 2, .int .i64 0, .bool false, .bool false, .int .u32 0] 31))
            have HA3 := Lib.hid (HA2.out.next (newB w2 (.cells #[.int .i64 2, .int .i64 0, .bool false, .bool false, .int .u32 0] 31)))
            have HZ3 := Lib.hid (HZ2.out.trans ((newB w2 (.cells #[.int .i64 2, .int .i64 0, .bool false, .bool false, .int .u32 0] 31)).mono HZ2.out.size))
            clear hY
            go_wp2_with fail
            rw [HY.out]
            refine (lives_any _).mono ?_
            rintro e w3 ⟨rfl, hb3⟩
            have HBS4 := Lib.hid (HBS3.out.next hb3)
            have HBT4 := Lib.hid (HBT.out.next hb3)
            have HA4 := Lib.hid (HA3.out.next hb3)
            have HZ4 := Lib.hid (HZ3.out.trans (hb3.mono HZ3.out.size))
            clear hb3
            have hh := fun m => has_any 10 g 6 cap [noteAc code sub d, ac 5 0, ac 6 0, ac 7 0, ac 8 r, ac 10 0] (w3.drewN m) (HA4.out.next (below_drewN' _ _ _)) rfl (by omega)
            rw [show hasB 10 [noteAc code sub d, ac 5 0, ac 6 0, ac 7 0, ac 8 r, ac 10 0] = true from rfl] at hh
            have HHH := Lib.hid (fun m => (hh m).mono fun e w' ⟨h1, h2⟩ => (⟨h1, h2.symm⟩ : e = _ ∧ w' = w3.drewN m))
            clear hh
            have q0 : w3.drew.cell? ⟨X1, 0, none⟩ = some (.int .i64 5) := HBS4.out.cell 0 (by simp)
            have q0' : w3.cell? ⟨X1, 0, none⟩ = some (.int .i64 5) := HBS4.out.cell 0 (by simp)
            have t0 : w3.drew.cell? ⟨Y, 0, none⟩ = some (.int .i64 2) := HBT4.out.cell 0 (by simp)
            have t0' : w3.cell? ⟨Y, 0, none⟩ = some (.int .i64 2) := HBT4.out.cell 0 (by simp)
            have t1 : w3.drew.cell? ⟨Y, 1, none⟩ = some (.int .i64 0) := HBT4.out.cell 1 (by simp)
            have t1' : w3.cell? ⟨Y, 1, none⟩ = some (.int .i64 0) := HBT4.out.cell 1 (by simp)
            have t2 : w3.drew.cell? ⟨Y, 2, none⟩ = some (.bool false) := HBT4.out.cell 2 (by simp)
            have t2' : w3.cell? ⟨Y, 2, none⟩ = some (.bool false) := HBT4.out.cell 2 (by simp)
            have t3 : w3.drew.cell? ⟨Y, 3, none⟩ = some (.bool false) := HBT4.out.cell 3 (by simp)
            have t3' : w3.cell? ⟨Y, 3, none⟩ = some (.bool false) := HBT4.out.cell 3 (by simp)
            have t4 : w3.drew.cell? ⟨Y, 4, none⟩ = some (.int .u32 0) := HBT4.out.cell 4 (by simp)
            have t4' : w3.cell? ⟨Y, 4, none⟩ = some (.int .u32 0) := HBT4.out.cell 4 (by simp)
            have a0 : w3.drew.cell? ⟨g, 0, none⟩ = some (.int .i64 4) := (HA4.out.2 0 (by omega)).trans rfl
            have a0' : w3.cell? ⟨g, 0, none⟩ = some (.int .i64 4) := (HA4.out.2 0 (by omega)).trans rfl
            have a2 : w3.drew.cell? ⟨g, 2, none⟩ = some (.int .i64 code) := (HA4.out.2 2 (by omega)).trans rfl
            have a2' : w3.cell? ⟨g, 2, none⟩ = some (.int .i64 code) := (HA4.out.2 2 (by omega)).trans rfl
            have a3 : w3.drew.cell? ⟨g, 3, none⟩ = some (.int .i64 sub) := (HA4.out.2 3 (by omega)).trans rfl
            have a3' : w3.cell? ⟨g, 3, none⟩ = some (.int .i64 sub) := (HA4.out.2 3 (by omega)).trans rfl
            have a5 : w3.drew.cell? ⟨g, 5, none⟩ = some (.int .i64 5) := (HA4.out.2 5 (by omega)).trans rfl
            have a5' : w3.cell? ⟨g, 5, none⟩ = some (.int .i64 5) := (HA4.out.2 5 (by omega)).trans rfl
            go_wp2_with fail
            go_quiet ((go_at_call 9; with_reducible exact Calls.quiet_of_same (HHH.out _)))
            go_wp2_with fail
            go_ret
            exact ⟨rfl, HZ4.out.trans (below_drewN' _ _ _)⟩
end Go.Proofs.Ytbacnjijfffobaa
