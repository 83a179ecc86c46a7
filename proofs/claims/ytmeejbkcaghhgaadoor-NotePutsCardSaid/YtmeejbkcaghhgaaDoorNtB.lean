/- NotePuts: the walk. -/
import Derived.Test.YtmeejbkcaghhgaaDoorNtA
namespace Go.Proofs.YtmeejbkcaghhgaaDoor
open Go.RowKit

theorem newB (w : World) (o : Obj) : Below w.heap.size w (w.alloc o) := (Below.refl _ _).alloc (Nat.le_refl _) o
theorem puts_big (k s : Int) (q : Option Addr) (n c : Nat) (w : World) (ht : Tabs w) (h : 6000 < n) :
    Calls Tryd.prog 3 #[.agg #[.int .i64 k, .int .i64 s, .slice q n c]] w fun e w' => e = .returned (.bool true) ∧ Below w.heap.size w w' := by
  have h0 := (Below.refl w.heap.size w).alloc (Nat.le_refl _) (.cells #[.int .i64 k, .int .i64 s, .slice q n c] 24)
  have HL := Lib.hid (lives_any _ (ht.below h0))
  have H0 := Lib.hid h0
  have t1 : decide ((6000 : Int) < (n : Int)) = true := by simp; omega
  clear h0 ht h
  go_enter Tryd.func3, Tryd.ntmps3
  go_wp2_with fail
  refine HL.out.mono ?_; rintro e w1 ⟨rfl, hb⟩
  have HB1 := Lib.hid (H0.out.trans (hb.mono (by simp)))
  clear hb
  go_wp2_with fail
  go_ret
  exact ⟨rfl, HB1.out⟩
set_option maxHeartbeats 2000000 in
theorem puts_no (k s : Int) (q : Option Addr) (n c : Nat) (w : World) (ht : Tabs w) (h : ¬ 6000 < n) (hk : okN k s n = false) :
    Calls Tryd.prog 3 #[.agg #[.int .i64 k, .int .i64 s, .slice q n c]] w fun e w' => e = .returned (.bool true) ∧ Below w.heap.size w w' := by
  have h0 := (Below.refl w.heap.size w).alloc (Nat.le_refl _) (.cells #[.int .i64 k, .int .i64 s, .slice q n c] 24)
  have HP := Lib.hid (putN_no k s q n c (w.alloc (.cells #[.int .i64 k, .int .i64 s, .slice q n c] 24)) hk)
  have HC := Lib.hid (fun w => rcheckN_any k s q n c w)
  have HD := Lib.hid (fun w => checkN_any k s q n c w)
  have HN := Lib.hid (fun w => name_no k s q n c w hk)
  rw [hk] at HC
  rw [errN_no hk] at HD
  have H0 := Lib.hid h0
  have HT := Lib.hid ht
  have K0 := Lib.hid (Blk.new w 24 [.int .i64 k, .int .i64 s, .slice q n c])
  have t1 : decide ((6000 : Int) < (n : Int)) = false := by simp; omega
  clear h0 ht hk h
  go_enter Tryd.func3, Tryd.ntmps3
  go_wp2_with fail
  refine HP.out.mono ?_; rintro e w1 ⟨rfl, hb⟩
  have hb1 := newB w1 (.cells #[.int .i64 0, .slice none 0 0] 27)
  have M1 := Lib.hid (Blk.new w1 27 [.int .i64 0, .slice none 0 0])
  have HB1 := Lib.hid (H0.out.trans ((hb.trans (hb1.mono hb.size)).mono (by simp)))
  have K1 := Lib.hid ((K0.out.next hb).next hb1)
  have HL := Lib.hid (lives_any _ (HT.out.below HB1.out))
  clear hb hb1 HP
  go_wp2_with fail
  refine HL.out.mono ?_; rintro e w2 ⟨rfl, hb⟩
  have HB2 := Lib.hid (HB1.out.trans (hb.mono HB1.out.size))
  have K2 := Lib.hid (K1.out.next hb)
  have M2 := Lib.hid (M1.out.next hb)
  have c0 := K2.out.cell 0 (by simp)
  have c1 := K2.out.cell 1 (by simp)
  have c2 := K2.out.cell 2 (by simp)
  clear hb HL K1 M1
  go_wp2_with fail
  refine (HC.out w2).mono ?_; rintro e w3 ⟨rfl, hb⟩
  have HB3 := Lib.hid (HB2.out.trans (hb.mono HB2.out.size))
  have K3 := Lib.hid (K2.out.next hb)
  have M3 := Lib.hid (M2.out.next hb)
  clear hb c0 c1 c2 K2 M2
  have c0 := K3.out.cell 0 (by simp)
  have c1 := K3.out.cell 1 (by simp)
  have c2 := K3.out.cell 2 (by simp)
  have m0 := M3.out.cell 0 (by simp)
  have m1 := M3.out.cell 1 (by simp)
  go_wp2_with fail
  clear c0 c1 c2 m0 m1
  refine (HD.out w3).mono ?_; rintro e w4 ⟨rfl, hb⟩
  have HB4 := Lib.hid (HB3.out.trans (hb.mono HB3.out.size))
  have K4 := Lib.hid (K3.out.next hb)
  have c0 := K4.out.cell 0 (by simp)
  have c1 := K4.out.cell 1 (by simp)
  have c2 := K4.out.cell 2 (by simp)
  clear hb
  go_wp2_with fail
  refine (HN.out w4).mono ?_; rintro e w5 ⟨rfl, hb⟩
  have HB5 := Lib.hid (HB4.out.trans (hb.mono HB4.out.size))
  clear hb c0 c1 c2
  go_wp2_with fail
  go_ret
  exact ⟨rfl, HB5.out⟩

theorem okM_note (n : Nat) (h : n ≤ 4075) : errM 3 ((n + 2 : Nat) : Int) = 0 := by
  have : okM 3 ((n + 2 : Nat) : Int) = true := by simp [okM, knownB, fitsM, leastL]; omega
  unfold errM; rw [this]; rfl
set_option maxRecDepth 100000 in
set_option maxHeartbeats 8000000 in
theorem puts_yes (K : Nat) (k s : Int) (hkk : k = K) (q : Option Addr) (xs : List Int) (n c : Nat) (w : World) (ht : Tabs w) (hf : Tab w) (hb : BytesAt w q xs) (hn : xs.length = n) (hc : n ≤ c) (hk : okN k s n = true) :
    Calls Tryd.prog 3 #[.agg #[.int .i64 k, .int .i64 s, .slice q n c]] w fun e w' => e = .returned (.bool true) ∧ Below w.heap.size w w' := by
  obtain ⟨k1, k6, s0, s255, n4⟩ := okN_yes hk
  have h0 := (Below.refl w.heap.size w).alloc (Nat.le_refl _) (.cells #[.int .i64 k, .int .i64 s, .slice q n c] 24)
  obtain ⟨m, hm⟩ : ∃ m, n + 2 = m := ⟨_, rfl⟩
  have HP := Lib.hid (show Calls Tryd.prog 7 #[.agg #[.int .i64 k, .int .i64 s, .slice q n c]] (w.alloc (.cells #[.int .i64 k, .int .i64 s, .slice q n c] 24)) fun e w' => ∃ p cap, e = .returned (.tuple #[.agg #[.int .i64 3, .slice p m cap], .int .i64 0]) ∧ Own w' (w.alloc (.cells #[.int .i64 k, .int .i64 s, .slice q n c] 24)).heap.size p cap (k :: s :: xs) ∧ Below (w.alloc (.cells #[.int .i64 k, .int .i64 s, .slice q n c] 24)).heap.size (w.alloc (.cells #[.int .i64 k, .int .i64 s, .slice q n c] 24)) w' from by
    have h := putN_ok k s q xs n c _ (hb.below h0) hn hk
    unfold PutNPost at h
    rw [hn, hm] at h
    exact h)
  have HC := Lib.hid (fun w => rcheckN_any k s q n c w)
  have HD := Lib.hid (fun w => checkN_any k s q n c w)
  have HNM := Lib.hid (fun w (h : Tabs w) => show Calls Tryd.prog 10 #[.agg #[.int .i64 k, .int .i64 s, .slice q n c]] w fun e w' => e = .returned (.string ⟨(nameN K s).toArray⟩) ∧ Below w.heap.size w w' from by subst hkk; exact name_ok K s q n c w h hk)
  have HRN := Lib.hid (fun w => show Calls Tryd.prog 15 #[.agg #[.int .i64 k, .int .i64 s, .slice q n c]] w fun e w' => e = .returned (.string ⟨(nameN K s).toArray⟩) ∧ Below w.heap.size w w' from by subst hkk; exact rname_ok K s q n c w hk)
  have HRB := Lib.hid (fun w (h : BytesAt w q xs) => show Calls Tryd.prog 12 #[.agg #[.int .i64 k, .int .i64 s, .slice q n c]] w fun e w' => ∃ p cap, e = .returned (.slice p m cap) ∧ Own w' w.heap.size p cap (k :: s :: xs) ∧ Below w.heap.size w w' from by rw [← hm, Nat.add_comm]; exact rbody_ok k s q xs n c w h hn hk)
  have HFC := Lib.hid (fun w (h : Tab w) (p : Option Addr) (cap : Nat) => show Calls Tryd.prog 13 #[.agg #[.int .i64 3, .slice p m cap]] w fun e w' => e = .returned (.int .i64 0) ∧ Below w.heap.size w w' from by have h := checkM_any 3 p m cap w h (by omega); rw [← hm, okM_note n n4] at h; rw [← hm]; exact h)
  have HGT := Lib.hid (fun w (p : Option Addr) (cap : Nat) (h : BytesAt w p (k :: s :: xs)) (hc : m ≤ cap) => show Calls Tryd.prog 11 #[.slice p m cap] w fun e w' => ∃ p2 cap2, e = .returned (.tuple #[.agg #[.int .i64 k, .int .i64 s, .slice p2 n cap2], .int .i64 0]) ∧ Own w' w.heap.size p2 cap2 xs ∧ Below w.heap.size w w' from by
    have h := getN_any p (k :: s :: xs) m cap w h (by simp [hn, hm]) hc
    rw [show getN (k :: s :: xs) = some (k, s, xs) from by simp [getN, hn, hk]] at h
    unfold GetNPost at h
    simp only [hn] at h
    exact h)
  have HSM := Lib.hid (fun w (p2 : Option Addr) (cap2 : Nat) (h : BytesAt w q xs) (h2 : BytesAt w p2 xs) => show Calls Tryd.prog 14 #[.agg #[.int .i64 k, .int .i64 s, .slice q n c], .agg #[.int .i64 k, .int .i64 s, .slice p2 n cap2]] w fun e w' => e = .returned (.bool true) ∧ Below w.heap.size w w' from by
    have h := rsameN_any k s q xs n c k s p2 xs n cap2 w h h2 hn hn
    rw [sameN_refl] at h; exact h)
  rw [hk] at HC
  rw [errN_yes hk] at HD
  obtain ⟨NV, hNV⟩ : ∃ NV : ByteArray, (⟨(nameN K s).toArray⟩ : ByteArray) = NV := ⟨_, rfl⟩
  rw [hNV] at HNM HRN
  obtain ⟨S, hSS⟩ : ∃ S : ByteArray, strOfNums (k :: s :: xs) = S := ⟨_, rfl⟩
  have HSS := Lib.hid hSS
  have hl2 : (k :: s :: xs).length = m := by simp [hn, hm]
  have HL2 := Lib.hid hl2
  have H0 := Lib.hid h0
  have HT := Lib.hid ht
  have HF := Lib.hid hf
  have HY := Lib.hid hb
  have K0 := Lib.hid (Blk.new w 24 [.int .i64 k, .int .i64 s, .slice q n c])
  have t1 : decide ((6000 : Int) < (n : Int)) = false := by simp; omega
  clear h0 ht hk hb hf hn hm hl2 hSS hNV hkk hc
  go_enter Tryd.func3, Tryd.ntmps3
  go_wp2_with fail
  refine HP.out.mono ?_; rintro e w1 ⟨p, cap, rfl, hO, hb⟩
  obtain ⟨W1, hW1⟩ : ∃ W1, w1.alloc (.cells #[.int .i64 3, .slice p m cap] 27) = W1 := ⟨_, rfl⟩
  have hb1 : Below w1.heap.size w1 W1 := by rw [← hW1]; exact newB _ _
  have M1 := Lib.hid (show Blk W1 w1.heap.size 27 [.int .i64 3, .slice p m cap] by rw [← hW1]; exact Blk.new w1 27 [.int .i64 3, .slice p m cap])
  have HB1 := Lib.hid (H0.out.trans ((hb.trans (hb1.mono hb.size)).mono (by simp)))
  have K1 := Lib.hid ((K0.out.next hb).next hb1)
  have O1 := Lib.hid (hO.below hb1).bytes
  have hcap : m ≤ cap := by have := hO.le; rw [HL2.out] at this; exact this
  have HL := Lib.hid (lives_any _ (HT.out.below HB1.out))
  have HW1 := Lib.hid hW1
  clear hb hb1 HP hO hW1 K0
  go_wp2_with fail
  rw [HW1.out]
  refine HL.out.mono ?_; rintro e w2 ⟨rfl, hb⟩
  have HB2 := Lib.hid (HB1.out.trans (hb.mono HB1.out.size))
  have K2 := Lib.hid (K1.out.next hb)
  have M2 := Lib.hid (M1.out.next hb)
  have O2 := Lib.hid (O1.out.below hb)
  have c0 := K2.out.cell 0 (by simp)
  have c1 := K2.out.cell 1 (by simp)
  have c2 := K2.out.cell 2 (by simp)
  clear hb HL K1 M1 O1 HB1
  go_wp2_with fail
  refine (HC.out w2).mono ?_; rintro e w3 ⟨rfl, hb⟩
  have HB3 := Lib.hid (HB2.out.trans (hb.mono HB2.out.size))
  have K3 := Lib.hid (K2.out.next hb)
  have M3 := Lib.hid (M2.out.next hb)
  have O3 := Lib.hid (O2.out.below hb)
  have m1 := M3.out.cell 1 (by simp)
  clear hb c0 c1 c2 K2 M2 O2 HB2 HC
  go_wp2_with fail
  refine (HGT.out w3 p cap O3.out hcap).mono ?_; rintro e w4 ⟨p2, cap2, rfl, hO4, hb⟩
  obtain ⟨W, hW⟩ : ∃ W, w4.alloc (.cells #[.int .i64 k, .int .i64 s, .slice p2 n cap2] 24) = W := ⟨_, rfl⟩
  have hb1 : Below w4.heap.size w4 W := by rw [← hW]; exact newB _ _
  have N4 : Blk W w4.heap.size 24 [.int .i64 k, .int .i64 s, .slice p2 n cap2] := by rw [← hW]; exact Blk.new w4 24 [.int .i64 k, .int .i64 s, .slice p2 n cap2]
  have HB4 := Lib.hid (HB3.out.trans ((hb.trans (hb1.mono hb.size)).mono HB3.out.size))
  have K4 := (K3.out.next hb).next hb1
  have M4 := (M3.out.next hb).next hb1
  have hO5 := (O3.out.below hb).below hb1
  have hP5 := (hO4.below hb1).bytes
  have HALL := Lib.hid (fun V (h : Below W.heap.size W V) => show V.cell? ⟨w.heap.size, 0, none⟩ = some (.int .i64 k) ∧ V.cell? ⟨w.heap.size, 1, none⟩ = some (.int .i64 s) ∧ V.cell? ⟨w.heap.size, 2, none⟩ = some (.slice q n c) ∧ V.cell? ⟨w1.heap.size, 0, none⟩ = some (.int .i64 3) ∧ V.cell? ⟨w1.heap.size, 1, none⟩ = some (.slice p m cap) ∧ V.cell? ⟨w4.heap.size, 0, none⟩ = some (.int .i64 k) ∧ V.cell? ⟨w4.heap.size, 1, none⟩ = some (.int .i64 s) ∧ V.cell? ⟨w4.heap.size, 2, none⟩ = some (.slice p2 n cap2) ∧ (convert 22 9 (.slice p m cap)).run Tryd.prog V = .ok (.string S) V from
    ⟨kept h (K4.cell 0 (by simp)), kept h (K4.cell 1 (by simp)), kept h (K4.cell 2 (by simp)), kept h (M4.cell 0 (by simp)), kept h (M4.cell 1 (by simp)), kept h (N4.cell 0 (by simp)), kept h (N4.cell 1 (by simp)), kept h (N4.cell 2 (by simp)), by
      have h := run_text (hO5.below h) cap
      rw [HL2.out, HSS.out] at h; exact h⟩)
  have HQ5 := Lib.hid (fun V (h : Below W.heap.size W V) => HY.out.below (HB4.out.trans (h.mono HB4.out.size)))
  have HP5 := Lib.hid (fun V (h : Below W.heap.size W V) => hP5.below h)
  have HT5 := Lib.hid (fun V (h : Below W.heap.size W V) => HT.out.below (HB4.out.trans (h.mono HB4.out.size)))
  have HF5 := Lib.hid (fun V (h : Below W.heap.size W V) => HF.out.below (HB4.out.trans (h.mono HB4.out.size)))
  have BB : Hid (Below W.heap.size W W.drew) := Lib.hid (Below.refl _ _).drew
  have hS := HALL.out _ BB.out
  have HW := Lib.hid hW
  clear hb hb1 m1 hO4 N4 K4 M4 hO5 hP5 hW K3 M3 O3 HB3 HGT HY HT HF
  go_wp2_with fail
  rw [HW.out]
  go_region_held (fun w' => w'.cell? ⟨w.heap.size, 0, none⟩ = some (.int .i64 k) ∧ w'.cell? ⟨w.heap.size, 1, none⟩ = some (.int .i64 s) ∧ w'.cell? ⟨w.heap.size, 2, none⟩ = some (.slice q n c) ∧ w'.cell? ⟨w1.heap.size, 0, none⟩ = some (.int .i64 3) ∧ w'.cell? ⟨w1.heap.size, 1, none⟩ = some (.slice p m cap) ∧ w'.cell? ⟨w4.heap.size, 0, none⟩ = some (.int .i64 k) ∧ w'.cell? ⟨w4.heap.size, 1, none⟩ = some (.int .i64 s) ∧ w'.cell? ⟨w4.heap.size, 2, none⟩ = some (.slice p2 n cap2) ∧ (convert 22 9 (.slice p m cap)).run Tryd.prog w' = .ok (.string S) w') (with_reducible assumption) (first
    | (go_at_call 9; (with_reducible refine (HD.out _).mono ?_); rintro e v ⟨rfl, hb⟩; have BB := Lib.hid (BB.out.trans (hb.mono BB.out.size)); have hS := HALL.out _ BB.out; clear hb)
    | (go_at_call 12; (with_reducible refine (HRB.out _ (HQ5.out _ BB.out)).mono ?_); rintro e v ⟨p6, cap6, rfl, hO6, hb⟩; have BB := Lib.hid (BB.out.trans (hb.mono BB.out.size)); have hS := HALL.out _ BB.out; have d6 := run_text hO6.bytes cap6; rw [HL2.out, HSS.out] at d6; clear hb hO6)
    | (go_at_call 13; (with_reducible refine (HFC.out _ (HF5.out _ BB.out) p cap).mono ?_); rintro e v ⟨rfl, hb⟩; have BB := Lib.hid (BB.out.trans (hb.mono BB.out.size)); have hS := HALL.out _ BB.out; clear hb)
    | (go_at_call 14; (with_reducible refine (HSM.out _ p2 cap2 (HQ5.out _ BB.out) (HP5.out _ BB.out)).mono ?_); rintro e v ⟨rfl, hb⟩; have BB := Lib.hid (BB.out.trans (hb.mono BB.out.size)); have hS := HALL.out _ BB.out; clear hb)
    | (go_at_call 10; (with_reducible refine (HNM.out _ (HT5.out _ BB.out)).mono ?_); rintro e v ⟨rfl, hb⟩; have BB := Lib.hid (BB.out.trans (hb.mono BB.out.size)); have hS := HALL.out _ BB.out; clear hb)
    | (go_at_call 15; (with_reducible refine (HRN.out _).mono ?_); rintro e v ⟨rfl, hb⟩; have BB := Lib.hid (BB.out.trans (hb.mono BB.out.size)); have hS := HALL.out _ BB.out; clear hb))
  all_goals
    go_wp2_with fail
    go_ret
    exact ⟨ret_bool (by simp), HB4.out.trans (BB.out.mono HB4.out.size)⟩

theorem puts_go (w : World) (ht : Tabs w) (hf : Tab w) (k s : Int) (q : Option Addr) (xs : List Int) (c : Nat) (hb : BytesAt w q xs) (hc : xs.length ≤ c) :
    Calls Tryd.prog 3 #[.agg #[.int .i64 k, .int .i64 s, .slice q xs.length c]] w fun e w' => e = .returned (.bool true) ∧ Below w.heap.size w w' := by
  by_cases h : 6000 < xs.length
  · exact puts_big k s q xs.length c w ht h
  · rcases hk : okN k s xs.length with _ | _
    · exact puts_no k s q xs.length c w ht h hk
    · obtain ⟨k1, _⟩ := okN_yes hk
      obtain ⟨K, rfl⟩ := Int.eq_ofNat_of_zero_le (show 0 ≤ k by omega)
      exact puts_yes K K s rfl q xs xs.length c w ht hf hb rfl hc hk
end Go.Proofs.YtmeejbkcaghhgaaDoor
