/- 'FrameBack': messages that are put, one behind the other, and fed in pieces, are told again, in order. -/
import Derived.Test.YtondoljehdhocaaDoorFB1
namespace Go.Proofs.YtondoljehdhocaaDoor
open Go.RowKit

theorem back_out (p : Option Addr) (n c : Nat) (piece : Int) (w : World) (ht : Tab w) (hn : 12 < n ∨ piece < 1) :
    Calls Tryd.prog 5 #[.slice p n c, .int .i64 piece] w fun e w' => e = .returned (.bool true) ∧ Below w.heap.size w w' := by
  by_cases h : 12 < n
  · have t1 : decide ((12 : Int) < (n : Int)) = true := by simp; omega
    go_enter Tryd.func5, Tryd.ntmps5
    go_wp2_with (go_at_call 8; refine (lives_any _ ht).mono ?_; rintro e w1 ⟨rfl, hb⟩; have HB := Lib.hid hb; clear hb)
    go_ret
    exact ⟨rfl, HB.out⟩
  · have t1 : decide ((12 : Int) < (n : Int)) = false := by simp; omega
    have h2 : piece < 1 := by omega
    go_enter Tryd.func5, Tryd.ntmps5
    go_wp2_with (go_at_call 8; refine (lives_any _ ht).mono ?_; rintro e w1 ⟨rfl, hb⟩; have HB := Lib.hid hb; clear hb)
    go_ret
    exact ⟨rfl, HB.out⟩

def BRel1 (w : World) (ms : List Msg) (b i : Value) (wr : World) : Prop :=
  ∃ (j : Nat) (p : Option Addr) (cap : Nat), j ≤ ms.length ∧ i = .int .i64 j ∧ b = .slice p (flat (ms.take j)).length cap ∧ Own wr w.heap.size p cap (flat (ms.take j)) ∧ Below w.heap.size w wr ∧ (∀ m ∈ ms.take j, okM m.k m.ys.length = true)

def BRel2 (w : World) (g : Nat) (ms : List Msg) (b k : Value) (wr : World) : Prop :=
  ∃ (i : Nat) (p : Option Addr) (cap : Nat) (rest xs : List Int), k = .int .i64 i ∧ b = .slice p rest.length cap ∧ i ≤ ms.length ∧ flat (ms.drop i) = xs ++ rest ∧ Few (ms.drop i) xs ∧ Str wr g xs ∧ Own wr w.heap.size p cap rest ∧ (∀ b, p.map (·.block) = some b → b < g) ∧ Below w.heap.size w wr
def lenOf' : Value → Nat | .slice _ n _ => n | _ => 0
def BRel3 (w0 : World) (g : Nat) (ms : List Msg) (rest : List Int) (k : Value) (wr : World) : Prop :=
  ∃ (i : Nat) (xs : List Int), k = .int .i64 i ∧ i ≤ ms.length ∧ flat (ms.drop i) = xs ++ rest ∧ Str wr g xs ∧ Below g w0 wr

theorem few_head {ms : List Msg} {xs rest : List Int} (hok : ∀ m ∈ ms, okM m.k m.ys.length = true) (h : flat ms = xs ++ rest) (hf : Few ms xs) : ∃ (k : Int) (s : Nat), headM xs = ⟨k, s, 0, 0, []⟩ ∧ (s = 0 ∨ xs.length < s) := by
  rcases Nat.lt_or_ge xs.length 19 with h19 | h19
  · exact ⟨0, 0, headM_few h19, .inl rfl⟩
  · rcases ms with _ | ⟨m, t⟩
    · have := congrArg List.length h
      simp [flat] at this
      omega
    · exact ⟨m.k, 19 + m.ys.length, head_at (hok m (by simp)) h h19, .inr (hf m t rfl)⟩
theorem not_few {ms : List Msg} {xs : List Int} (h : ¬ Few ms xs) : ∃ m t, ms = m :: t ∧ 19 + m.ys.length ≤ xs.length := by
  unfold Few at h
  simp only [Classical.not_forall] at h
  obtain ⟨m, t, e, h⟩ := h
  exact ⟨m, t, e, by omega⟩

set_option maxRecDepth 100000 in
set_option maxHeartbeats 8000000 in
theorem back_in (p : Option Addr) (ms : List Msg) (L c : Nat) (P : Nat) (w : World) (ht : Tab w) (hm : MsgsAt w p ms) (hL : ms.length = L) (hL12 : L ≤ 12) (hP : 1 ≤ P) (hP2 : P ≤ 9223372036854775807) :
    Calls Tryd.prog 5 #[.slice p L c, .int .i64 P] w fun e w' => e = .returned (.bool true) ∧ Below w.heap.size w w' := by
  have HT := Lib.hid ht
  have HMS := Lib.hid hm
  have HL := Lib.hid hL
  have t1 : decide ((12 : Int) < (L : Int)) = false := by simp; omega
  have t2 : decide ((P : Int) < 1) = false := by simp; omega
  clear ht hm hL
  go_enter Tryd.func5, Tryd.ntmps5
  go_wp2_with fail
  clear t1 t2
  go_loopw [5, 6] (fun b i wr => BRel1 w ms b i wr) (fun _ i _ => L - (intOf i).toNat)
  case atStart => exact ⟨0, none, 0, by omega, rfl, rfl, Own.nil _ _, Below.refl _ _, fun m hm => by simp at hm⟩
  case round =>
    obtain ⟨j, p1, c1, hj, rfl, rfl, hO, hB, hok⟩ := hrel
    have HO := Lib.hid hO
    have HB := Lib.hid hB
    have HOK := Lib.hid hok
    have HFL := Lib.hid (flat_le (ms.take j) hok)
    have hjL : j ≤ L := by have := HL.out; omega
    obtain ⟨F, hF⟩ : ∃ F, (flat (ms.take j)).length = F := ⟨_, rfl⟩
    rw [hF]
    have HF := Lib.hid hF
    clear hO hB hok hj hF
    by_cases hlt : j < L
    · obtain ⟨m, hm⟩ : ∃ m, ms[j]? = some m := ⟨ms[j]'(by have := HL.out; omega), List.getElem?_eq_getElem (by have := HL.out; omega)⟩
      obtain ⟨b, off, rfl, hcl⟩ := (HMS.out.below HB.out).2.resolve_left (by intro h; have := HL.out; rw [h] at this; simp at this; omega)
      obtain ⟨hc0, hc1⟩ := hcl j m hm
      have HBY := Lib.hid ((HMS.out.below HB.out).1 j m hm)
      have HMJ := Lib.hid hm
      obtain ⟨k, q, ys, cq⟩ := m
      dsimp only at hc0 hc1 HBY
      obtain ⟨n, hn⟩ : ∃ n, ys.length = n := ⟨_, rfl⟩
      rw [hn] at hc1
      have HN := Lib.hid hn
      have hnm : n ≤ 9223372036854775807 := by have := HBY.out.2; unfold maxLen at this; omega
      have HC0 := Lib.hid hc0
      have HC1 := Lib.hid hc1
      clear hcl hm hn
      have hjl : (j : Int) < (L : Int) := by omega
      rcases hk : okM k n with _ | _
      · have HCK := Lib.hid (rcheckM_any k q n cq wr hnm)
        rw [hk] at HCK
        go_wp2_with fail
        refine HCK.out.mono ?_; rintro e w2 ⟨rfl, hb⟩
        have HB2 := Lib.hid (HB.out.trans (hb.mono HB.out.size))
        have HLV := Lib.hid (lives_any w2 (HT.out.below HB2.out))
        clear hb hc0 hc1
        go_wp2_with fail
        refine HLV.out.mono ?_; rintro e w3 ⟨rfl, hb⟩
        have HB3 := Lib.hid (HB2.out.trans (hb.mono HB2.out.size))
        clear hb
        go_wp2_with fail
        go_ret
        exact ⟨rfl, HB3.out⟩
      · have n4 := (okM_parts hk).2.2
        have HCK := Lib.hid (rcheckM_any k q n cq wr hnm)
        rw [hk] at HCK
        have HK := Lib.hid hk
        clear hk
        go_wp2_with fail
        refine HCK.out.mono ?_; rintro e w2 ⟨rfl, hb⟩
        have HB2 := Lib.hid (HB.out.trans (hb.mono HB.out.size))
        have HO2 := Lib.hid (HO.out.below hb)
        have hd0 := kept hb HC0.out
        have hd1 := kept hb HC1.out
        have HP := Lib.hid (putM_ok k q ys n cq w2 (HT.out.below HB2.out) (HBY.out.1.below hb) HN.out HK.out)
        rw [putM_len, HN.out] at HP
        clear hb hc0 hc1
        go_wp2_with fail
        refine HP.out.mono ?_; rintro e w3 ⟨p3, c3, rfl, hO3, hb⟩
        have HB3 := Lib.hid (HB2.out.trans (hb.mono HB2.out.size))
        have HO3 := Lib.hid (HO2.out.below hb)
        have HY3 := Lib.hid hO3.bytes
        have HPL := Lib.hid (show (putM k ys).length = 19 + n by rw [putM_len, HN.out])
        have hF1 : F ≤ 49152 := by have h1 := HFL.out; have h2 := HF.out; have h3 : (ms.take j).length ≤ 12 := by simp; omega
                                   omega
        clear hb hO3 hd0 hd1
        go_wp2_with (refine wpList_appo (o := ⟨some 48, _, _, _, _, _⟩) (by rfl) (.tmp 46) (.tmp 47) (by rfl) w.heap.size p1 c1 (flat (ms.take j)) HO3.out F HF.out (by rfl) p3 (19 + n) c3 (putM k ys) HY3.out HPL.out (by rfl) (F + (19 + n)) (by omega) (by omega) HB3.out.size ?_; intro p4 c4 w4 hO4 hB4 hG4)
        go_roundw
        case rel =>
          have hs := flat_snoc ms j _ HMJ.out
          have hl : (flat (ms.take (j + 1))).length = F + (19 + n) := by rw [hs, List.length_append, HF.out, HPL.out]
          refine ⟨j + 1, p4, c4, by have := HL.out; omega, by go_num, by rw [hl], by rw [hs]; exact hO4.out, HB3.out.trans hB4.out, fun x hx => ?_⟩
          rw [List.take_succ_eq_append_getElem (by have := HL.out; omega)] at hx
          rcases List.mem_append.1 hx with h | h
          · exact HOK.out x h
          · obtain ⟨hj', e⟩ := List.getElem?_eq_some_iff.1 HMJ.out
            have hx' : x = ms[j] := by simpa using h
            rw [hx', e]
            rw [HN.out]; exact HK.out
        case measure => simp [intOf]; omega
    · obtain rfl : j = L := by omega
      have hall : ms.take j = ms := List.take_of_length_le (by rw [HL.out]; exact Nat.le_refl _)
      rw [hall] at HO HOK HFL HF
      clear hall
      have hF9 : F ≤ 49152 := by have := HFL.out; have := HF.out; have := HL.out; omega
      have HPB := Lib.hid (fun (b : Nat) (hb : p1.map (·.block) = some b) => (HO.out.block_lt hb).2)
      obtain ⟨wa, hwa⟩ : ∃ wa : World, wa = wr := ⟨_, rfl⟩
      subst hwa
      go_wp2_with fail
      refine (new_any wa).mono ?_; rintro e w2 ⟨rfl, hs, hb⟩
      have HB2 := Lib.hid (HB.out.trans (hb.mono HB.out.size))
      have HO2 := Lib.hid (HO.out.below hb)
      have HS2 := Lib.hid hs
      have HLV := Lib.hid (lives_any w2 (HT.out.below HB2.out))
      clear hs hb
      go_wp2_with fail
      refine HLV.out.mono ?_; rintro e w3 ⟨rfl, hb⟩
      have HB3 := Lib.hid (HB2.out.trans (hb.mono HB2.out.size))
      have HO3 := Lib.hid (HO2.out.below hb)
      have HS3 := Lib.hid (HS2.out.next hb)
      have hwg : w.heap.size ≤ wa.heap.size := HB.out.size
      obtain ⟨g, hg⟩ : ∃ g, wa.heap.size = g := ⟨_, rfl⟩
      rw [hg] at HS3 HPB hwg ⊢
      clear hb HLV HO2 HB2 HS2 HO HB hg
      go_wp2_with fail
      go_loopw [5, 10] (fun b k wr => BRel2 w g ms b k wr) (fun b _ _ => lenOf' b)
      case atStart => exact ⟨0, p1, c1, flat ms, [], rfl, by rw [HF.out], Nat.zero_le _, rfl, fun m t h => by simp; omega, HS3.out, HO3.out, HPB.out, HB3.out⟩
      case round =>
        obtain ⟨i, p2, c2, rest, xs, rfl, rfl, hi, hfl, hfew, hs, ho, hpb, hb⟩ := hrel
        have HI := Lib.hid hi
        have HFI := Lib.hid hfl
        have HFW := Lib.hid hfew
        have HS := Lib.hid hs
        have HO := Lib.hid ho
        have HP2 := Lib.hid hpb
        have HB := Lib.hid hb
        have hle := ho.le
        have hmx := ho.max
        unfold maxLen at hmx
        obtain ⟨R, hR⟩ : ∃ R, rest.length = R := ⟨_, rfl⟩
        have HR := Lib.hid hR
        rw [hR] at hle ⊢
        have hij : i ≤ j := by have := HL.out; omega
        clear hi hfl hfew hs ho hpb hb hR
        by_cases h0 : R = 0
        · subst h0
          have hre : rest = [] := List.eq_nil_of_length_eq_zero HR.out
          have hfe := few_end (by rw [← hre]; exact HFI.out) HFW.out
          have hij' : i = j := by
            have h1 := congrArg List.length hfe.1
            have := HL.out
            simp at h1; omega
          subst hij'
          have hlen := len_str wr g xs HS.out
          rw [show xs.length = 0 by rw [hfe.2]; rfl] at hlen
          have HLEN := Lib.hid hlen
          clear hre hfe hlen hij
          go_wp2_with (go_at_call 20; refine HLEN.out.mono ?_; rintro e w' ⟨rfl, rfl⟩)
          go_ret
          exact ⟨rfl, HB.out⟩
        · by_cases hp : R < P
          · have u1 : decide (R < P) = true := by simpa using hp
            have E1 := fun w => run_cut_h w p2 R c2 R R rfl (by omega)
            have E2 := fun w => run_cut_l w p2 R c2 R R rfl (by omega)
            have HC := Lib.hid (show BytesAt wr (cutP p2 c2 0) (rest.take R) by
              have := HO.out.bytes.cut c2 0 R (Nat.zero_le _) (by rw [HR.out]; omega) (by rw [HR.out]; omega)
              simpa using this)
            have HCL := Lib.hid (show (rest.take R).length = R by simp; have := HR.out; omega)
            have HDL := Lib.hid (show (rest.drop R).length = R - R by simp; have := HR.out; omega)
            have HXR := Lib.hid (show xs.length + R ≤ 49152 by
              have h1 := congrArg List.length HFI.out
              have h2 := flat_drop_le ms i
              have := HF.out; have := HR.out
              rw [List.length_append] at h1; omega)
            have HO5 := Lib.hid (HO.out.cutl R (by rw [HR.out]; omega))
            obtain ⟨p5, hp5⟩ : ∃ p5, cutP p2 c2 0 = p5 := ⟨_, rfl⟩
            obtain ⟨p6, hp6⟩ : ∃ p6, cutP p2 c2 R = p6 := ⟨_, rfl⟩
            have HP6 := Lib.hid (show ∀ b, p6.map (·.block) = some b → b < g from fun b h => HP2.out b (by rw [← hp6, cutP_block] at h; exact h))
            rw [hp5] at E1 HC
            rw [hp6] at E2 HO5
            clear hp5 hp6
            obtain ⟨wo, hwo⟩ : ∃ wo : World, wo = wr := ⟨_, rfl⟩
            subst hwo
            go_wp2_with fail
            refine (feed_ok g xs p5 (rest.take R) R c2 wo HS.out HC.out HCL.out (by have := HXR.out; omega)).mono ?_; rintro e w5 ⟨rfl, hs, hb⟩
            have HB5 := Lib.hid (HB.out.trans (hb.mono hwg))
            have HS5 := Lib.hid hs
            have HO6 := Lib.hid (HO5.out.of_block hb.size (fun b h => hb.block b (HP6.out b h)))
            have HFI5 := Lib.hid (show flat (ms.drop i) = (xs ++ rest.take R) ++ rest.drop R by rw [List.append_assoc, List.take_append_drop]; exact HFI.out)
            clear hs hb HC HCL
            go_wp2_with fail
            clear E1 E2
            go_loopw [10] (fun k wr => BRel3 w5 g ms (rest.drop R) k wr) (fun k _ => ms.length - (intOf k).toNat)
            case atStart => exact ⟨i, _, rfl, HI.out, HFI5.out, HS5.out, Below.refl _ _⟩
            case round =>
              obtain ⟨i2, xs2, rfl, hi2, hfl2, hs2, hb2⟩ := hrel
              have HI2 := Lib.hid hi2
              have HFL2 := Lib.hid hfl2
              have HS2 := Lib.hid hs2
              have HB2 := Lib.hid hb2
              have HXL2 := Lib.hid (show xs2.length ≤ 65536 by
                have h1 := congrArg List.length hfl2
                have h2 := flat_drop_le ms i2
                have := HF.out
                rw [List.length_append] at h1; omega)
              have hi2j : i2 ≤ j := by have := HL.out; omega
              have HT2 := Lib.hid (HT.out.below (HB5.out.trans (hb2.mono hwg)))
              clear hi2 hfl2 hs2 hb2
              by_cases hfw : Few (ms.drop i2) xs2
              · obtain ⟨k', s, hh, hs⟩ := few_head (fun m hm => HOK.out m (List.mem_of_mem_drop hm)) HFL2.out hfw
                have HH := Lib.hid hh
                have HSS := Lib.hid hs
                have HFW2 := Lib.hid hfw
                clear hh hs hfw
                go_wp2_with fail
                refine (next_none g xs2 k' s _ HT2.out HS2.out HH.out HSS.out HXL2.out).mono ?_; rintro e w7 ⟨⟨q7, c7, r7, d7, rfl, _, _⟩, hs, hb⟩
                dsimp only [List.length_nil]
                have h7 := hb.trans ((two_below w7 (.cells #[.int .i64 0, .slice q7 0 c7] 24) (.cells #[.int .i64 0, .int .i64 0, .slice r7 0 d7] 33)).mono hb.size)
                have HG7 := Lib.hid (HB2.out.trans (h7.mono (by obtain ⟨_, _, h3, _⟩ := HS2.out; exact Nat.le_of_lt h3.lt)))
                have HS7 := Lib.hid (HS2.out.next h7)
                clear hs hb h7
                go_wp2_with fail
                go_roundw
                case rel => exact ⟨i2, p6, c2 - R, rest.drop R, xs2, rfl, (by rw [HDL.out] <;> simp), HI2.out, HFL2.out, HFW2.out, HS7.out, HO6.out.of_block HG7.out.size (fun b h => HG7.out.block b (HP6.out b h)), HP6.out, HB5.out.trans (HG7.out.mono hwg)⟩
                case measure => simp [lenOf']; omega
              · obtain ⟨m, tl, hd, hml⟩ := not_few hfw
                have hmi : ms[i2]? = some m := by
                  have := congrArg (fun l => l[0]?) hd
                  simpa using this
                have hi2l : i2 < j := by
                  have := (List.getElem?_eq_some_iff.1 hmi).1
                  have := HL.out; omega
                have hok := HOK.out m (List.mem_of_getElem? hmi)
                have hF := HFL2.out
                rw [hd] at hF
                have hta := take_at hF hml
                have HTA := Lib.hid hta
                have HH := Lib.hid (head_at hok hF (by omega))
                have HDD := Lib.hid (show ms.drop (i2 + 1) = tl by rw [← List.tail_drop, hd]; rfl)
                obtain ⟨b, off, rfl, hcl⟩ := HMS.out.2.resolve_left (by rintro rfl; simp at hmi)
                have hcm := hcl i2 m hmi
                have HCM := Lib.hid hcm
                have HBM := Lib.hid ((HMS.out.1 i2 m hmi).1)
                have HMI := Lib.hid hmi
                have HML := Lib.hid hml
                clear hcl hmi hok hF hta hd hfw hcm hml
                obtain ⟨k, q, ys, cq⟩ := m
                dsimp only at HTA HH HCM HBM HML
                obtain ⟨n, hn⟩ : ∃ n, ys.length = n := ⟨_, rfl⟩
                rw [hn] at HTA HH HCM HML
                have HN := Lib.hid hn
                clear hn
                go_wp2_with fail
                refine (next_yes g xs2 k (19 + n) _ HT2.out HS2.out HH.out ⟨by omega, HML.out⟩ HXL2.out).mono ?_; rintro e w7 ⟨⟨q7, c7, r7, d7, rfl, hO7, _⟩, hs, hb⟩
                rw [HTA.out.1, HN.out]
                rw [HTA.out.1] at hO7
                dsimp only [List.length_nil]
                obtain ⟨W8, hW8⟩ : ∃ W8, (w7.alloc (.cells #[.int .i64 k, .slice q7 n c7] 24)).alloc (.cells #[.int .i64 0, .int .i64 0, .slice r7 0 d7] 33) = W8 := ⟨_, rfl⟩
                have h8 : Below w7.heap.size w7 W8 := by rw [← hW8]; exact two_below _ _ _
                have hgw7 : g < w7.heap.size := by obtain ⟨_, _, h3, _⟩ := hs; exact h3.lt
                have HG8 := Lib.hid (HB2.out.trans (hb.trans (h8.mono (Nat.le_of_lt hgw7))))
                have HS8 := Lib.hid (hs.next h8)
                have HY8 := Lib.hid (hO7.below h8).bytes
                have HM8 := Lib.hid (show Blk W8 w7.heap.size 24 [.int .i64 k, .slice q7 n c7] by rw [← hW8]; exact (Blk.new w7 24 [.int .i64 k, .slice q7 n c7]).alloc _)
                have HB8 := Lib.hid (HB5.out.trans (HG8.out.mono hwg))
                have HW8 := Lib.hid hW8
                clear hs hb h8 hO7 hW8
                have hij2 : decide (j ≤ i2) = false := by simp; omega
                have hlt2 : (i2 : Int) < (j : Int) := by omega
                go_wp2_with fail
                rw [HW8.out]
                have e0 := kept HB8.out HCM.out.1
                have e1 := kept HB8.out HCM.out.2
                have HY9 := Lib.hid (HBM.out.below HB8.out)
                have hS := And.intro (show W8.drew.cell? ⟨b, off + i2 * 2, none⟩ = some (.int .i64 k) from e0) (And.intro (show W8.drew.cell? ⟨b, off + i2 * 2 + 1, none⟩ = some (.slice q n cq) from e1) (And.intro (show W8.drew.cell? ⟨w7.heap.size, 0, none⟩ = some (.int .i64 k) from HM8.out.cell 0 (by simp)) (show W8.drew.cell? ⟨w7.heap.size, 1, none⟩ = some (.slice q7 n c7) from HM8.out.cell 1 (by simp))))
                have HSS := Lib.hid hS
                have HSD := Lib.hid (Str.next HS8.out ((Below.refl W8.heap.size W8).drew))
                clear e0 e1
                go_region_held (fun w' => w'.cell? ⟨b, off + i2 * 2, none⟩ = some (.int .i64 k) ∧ w'.cell? ⟨b, off + i2 * 2 + 1, none⟩ = some (.slice q n cq) ∧ w'.cell? ⟨w7.heap.size, 0, none⟩ = some (.int .i64 k) ∧ w'.cell? ⟨w7.heap.size, 1, none⟩ = some (.slice q7 n c7)) (with_reducible assumption) (first
                  | (go_at_call 19; refine (rsame_yes k q7 ys n c7 q cq W8.drew HY8.out.drew HY9.out.drew HN.out).mono ?_; rintro e w9 ⟨rfl, hb9⟩; have hS9 := And.intro (kept hb9 HSS.out.1) (And.intro (kept hb9 HSS.out.2.1) (And.intro (kept hb9 HSS.out.2.2.1) (kept hb9 HSS.out.2.2.2))); have HG9 := Lib.hid hb9; have HS9 := Lib.hid (Str.next HSD.out hb9); clear hb9))
                go_wp2_with fail
                go_roundw
                case rel =>
                  refine ⟨i2 + 1, xs2.drop (19 + n), by go_num, by have := HL.out; omega, ?_, HS9.out, HG8.out.drew.trans (HG9.out.mono ?_)⟩
                  · rw [HDD.out]; exact HTA.out.2
                  · obtain ⟨_, _, h3, _⟩ := HS8.out; exact Nat.le_of_lt h3.lt
                case measure => simp [intOf]; have := HL.out; omega
          · have u1 : decide (R < P) = false := by simpa using hp
            have E1 := fun w => run_cut_h w p2 R c2 P P rfl (by omega)
            have E2 := fun w => run_cut_l w p2 R c2 P P rfl (by omega)
            have HC := Lib.hid (show BytesAt wr (cutP p2 c2 0) (rest.take P) by
              have := HO.out.bytes.cut c2 0 P (Nat.zero_le _) (by rw [HR.out]; omega) (by rw [HR.out]; omega)
              simpa using this)
            have HCL := Lib.hid (show (rest.take P).length = P by simp; have := HR.out; omega)
            have HDL := Lib.hid (show (rest.drop P).length = R - P by simp; have := HR.out; omega)
            have HXR := Lib.hid (show xs.length + R ≤ 49152 by
              have h1 := congrArg List.length HFI.out
              have h2 := flat_drop_le ms i
              have := HF.out; have := HR.out
              rw [List.length_append] at h1; omega)
            have HO5 := Lib.hid (HO.out.cutl P (by rw [HR.out]; omega))
            obtain ⟨p5, hp5⟩ : ∃ p5, cutP p2 c2 0 = p5 := ⟨_, rfl⟩
            obtain ⟨p6, hp6⟩ : ∃ p6, cutP p2 c2 P = p6 := ⟨_, rfl⟩
            have HP6 := Lib.hid (show ∀ b, p6.map (·.block) = some b → b < g from fun b h => HP2.out b (by rw [← hp6, cutP_block] at h; exact h))
            rw [hp5] at E1 HC
            rw [hp6] at E2 HO5
            clear hp5 hp6
            obtain ⟨wo, hwo⟩ : ∃ wo : World, wo = wr := ⟨_, rfl⟩
            subst hwo
            go_wp2_with fail
            refine (feed_ok g xs p5 (rest.take P) P c2 wo HS.out HC.out HCL.out (by have := HXR.out; omega)).mono ?_; rintro e w5 ⟨rfl, hs, hb⟩
            have HB5 := Lib.hid (HB.out.trans (hb.mono hwg))
            have HS5 := Lib.hid hs
            have HO6 := Lib.hid (HO5.out.of_block hb.size (fun b h => hb.block b (HP6.out b h)))
            have HFI5 := Lib.hid (show flat (ms.drop i) = (xs ++ rest.take P) ++ rest.drop P by rw [List.append_assoc, List.take_append_drop]; exact HFI.out)
            clear hs hb HC HCL
            go_wp2_with fail
            clear E1 E2
            go_loopw [10] (fun k wr => BRel3 w5 g ms (rest.drop P) k wr) (fun k _ => ms.length - (intOf k).toNat)
            case atStart => exact ⟨i, _, rfl, HI.out, HFI5.out, HS5.out, Below.refl _ _⟩
            case round =>
              obtain ⟨i2, xs2, rfl, hi2, hfl2, hs2, hb2⟩ := hrel
              have HI2 := Lib.hid hi2
              have HFL2 := Lib.hid hfl2
              have HS2 := Lib.hid hs2
              have HB2 := Lib.hid hb2
              have HXL2 := Lib.hid (show xs2.length ≤ 65536 by
                have h1 := congrArg List.length hfl2
                have h2 := flat_drop_le ms i2
                have := HF.out
                rw [List.length_append] at h1; omega)
              have hi2j : i2 ≤ j := by have := HL.out; omega
              have HT2 := Lib.hid (HT.out.below (HB5.out.trans (hb2.mono hwg)))
              clear hi2 hfl2 hs2 hb2
              by_cases hfw : Few (ms.drop i2) xs2
              · obtain ⟨k', s, hh, hs⟩ := few_head (fun m hm => HOK.out m (List.mem_of_mem_drop hm)) HFL2.out hfw
                have HH := Lib.hid hh
                have HSS := Lib.hid hs
                have HFW2 := Lib.hid hfw
                clear hh hs hfw
                go_wp2_with fail
                refine (next_none g xs2 k' s _ HT2.out HS2.out HH.out HSS.out HXL2.out).mono ?_; rintro e w7 ⟨⟨q7, c7, r7, d7, rfl, _, _⟩, hs, hb⟩
                dsimp only [List.length_nil]
                have h7 := hb.trans ((two_below w7 (.cells #[.int .i64 0, .slice q7 0 c7] 24) (.cells #[.int .i64 0, .int .i64 0, .slice r7 0 d7] 33)).mono hb.size)
                have HG7 := Lib.hid (HB2.out.trans (h7.mono (by obtain ⟨_, _, h3, _⟩ := HS2.out; exact Nat.le_of_lt h3.lt)))
                have HS7 := Lib.hid (HS2.out.next h7)
                clear hs hb h7
                go_wp2_with fail
                go_roundw
                case rel => exact ⟨i2, p6, c2 - P, rest.drop P, xs2, rfl, (by rw [HDL.out] <;> simp), HI2.out, HFL2.out, HFW2.out, HS7.out, HO6.out.of_block HG7.out.size (fun b h => HG7.out.block b (HP6.out b h)), HP6.out, HB5.out.trans (HG7.out.mono hwg)⟩
                case measure => simp [lenOf']; omega
              · obtain ⟨m, tl, hd, hml⟩ := not_few hfw
                have hmi : ms[i2]? = some m := by
                  have := congrArg (fun l => l[0]?) hd
                  simpa using this
                have hi2l : i2 < j := by
                  have := (List.getElem?_eq_some_iff.1 hmi).1
                  have := HL.out; omega
                have hok := HOK.out m (List.mem_of_getElem? hmi)
                have hF := HFL2.out
                rw [hd] at hF
                have hta := take_at hF hml
                have HTA := Lib.hid hta
                have HH := Lib.hid (head_at hok hF (by omega))
                have HDD := Lib.hid (show ms.drop (i2 + 1) = tl by rw [← List.tail_drop, hd]; rfl)
                obtain ⟨b, off, rfl, hcl⟩ := HMS.out.2.resolve_left (by rintro rfl; simp at hmi)
                have hcm := hcl i2 m hmi
                have HCM := Lib.hid hcm
                have HBM := Lib.hid ((HMS.out.1 i2 m hmi).1)
                have HMI := Lib.hid hmi
                have HML := Lib.hid hml
                clear hcl hmi hok hF hta hd hfw hcm hml
                obtain ⟨k, q, ys, cq⟩ := m
                dsimp only at HTA HH HCM HBM HML
                obtain ⟨n, hn⟩ : ∃ n, ys.length = n := ⟨_, rfl⟩
                rw [hn] at HTA HH HCM HML
                have HN := Lib.hid hn
                clear hn
                go_wp2_with fail
                refine (next_yes g xs2 k (19 + n) _ HT2.out HS2.out HH.out ⟨by omega, HML.out⟩ HXL2.out).mono ?_; rintro e w7 ⟨⟨q7, c7, r7, d7, rfl, hO7, _⟩, hs, hb⟩
                rw [HTA.out.1, HN.out]
                rw [HTA.out.1] at hO7
                dsimp only [List.length_nil]
                obtain ⟨W8, hW8⟩ : ∃ W8, (w7.alloc (.cells #[.int .i64 k, .slice q7 n c7] 24)).alloc (.cells #[.int .i64 0, .int .i64 0, .slice r7 0 d7] 33) = W8 := ⟨_, rfl⟩
                have h8 : Below w7.heap.size w7 W8 := by rw [← hW8]; exact two_below _ _ _
                have hgw7 : g < w7.heap.size := by obtain ⟨_, _, h3, _⟩ := hs; exact h3.lt
                have HG8 := Lib.hid (HB2.out.trans (hb.trans (h8.mono (Nat.le_of_lt hgw7))))
                have HS8 := Lib.hid (hs.next h8)
                have HY8 := Lib.hid (hO7.below h8).bytes
                have HM8 := Lib.hid (show Blk W8 w7.heap.size 24 [.int .i64 k, .slice q7 n c7] by rw [← hW8]; exact (Blk.new w7 24 [.int .i64 k, .slice q7 n c7]).alloc _)
                have HB8 := Lib.hid (HB5.out.trans (HG8.out.mono hwg))
                have HW8 := Lib.hid hW8
                clear hs hb h8 hO7 hW8
                have hij2 : decide (j ≤ i2) = false := by simp; omega
                have hlt2 : (i2 : Int) < (j : Int) := by omega
                go_wp2_with fail
                rw [HW8.out]
                have e0 := kept HB8.out HCM.out.1
                have e1 := kept HB8.out HCM.out.2
                have HY9 := Lib.hid (HBM.out.below HB8.out)
                have hS := And.intro (show W8.drew.cell? ⟨b, off + i2 * 2, none⟩ = some (.int .i64 k) from e0) (And.intro (show W8.drew.cell? ⟨b, off + i2 * 2 + 1, none⟩ = some (.slice q n cq) from e1) (And.intro (show W8.drew.cell? ⟨w7.heap.size, 0, none⟩ = some (.int .i64 k) from HM8.out.cell 0 (by simp)) (show W8.drew.cell? ⟨w7.heap.size, 1, none⟩ = some (.slice q7 n c7) from HM8.out.cell 1 (by simp))))
                have HSS := Lib.hid hS
                have HSD := Lib.hid (Str.next HS8.out ((Below.refl W8.heap.size W8).drew))
                clear e0 e1
                go_region_held (fun w' => w'.cell? ⟨b, off + i2 * 2, none⟩ = some (.int .i64 k) ∧ w'.cell? ⟨b, off + i2 * 2 + 1, none⟩ = some (.slice q n cq) ∧ w'.cell? ⟨w7.heap.size, 0, none⟩ = some (.int .i64 k) ∧ w'.cell? ⟨w7.heap.size, 1, none⟩ = some (.slice q7 n c7)) (with_reducible assumption) (first
                  | (go_at_call 19; refine (rsame_yes k q7 ys n c7 q cq W8.drew HY8.out.drew HY9.out.drew HN.out).mono ?_; rintro e w9 ⟨rfl, hb9⟩; have hS9 := And.intro (kept hb9 HSS.out.1) (And.intro (kept hb9 HSS.out.2.1) (And.intro (kept hb9 HSS.out.2.2.1) (kept hb9 HSS.out.2.2.2))); have HG9 := Lib.hid hb9; have HS9 := Lib.hid (Str.next HSD.out hb9); clear hb9))
                go_wp2_with fail
                go_roundw
                case rel =>
                  refine ⟨i2 + 1, xs2.drop (19 + n), by go_num, by have := HL.out; omega, ?_, HS9.out, HG8.out.drew.trans (HG9.out.mono ?_)⟩
                  · rw [HDD.out]; exact HTA.out.2
                  · obtain ⟨_, _, h3, _⟩ := HS8.out; exact Nat.le_of_lt h3.lt
                case measure => simp [intOf]; have := HL.out; omega
end Go.Proofs.YtondoljehdhocaaDoor
