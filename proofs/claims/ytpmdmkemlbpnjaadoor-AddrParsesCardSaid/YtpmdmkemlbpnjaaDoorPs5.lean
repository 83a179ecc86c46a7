/- The document's own Address and Parse: the walks. -/
import Derived.Test.YtpmdmkemlbpnjaaDoorPs4
import Derived.Test.YtpmdmkemlbpnjaaDoorRefB02
namespace Go.Proofs.YtpmdmkemlbpnjaaDoor
open Go.RowKit

theorem numsOf_bad : ∀ {P : List (List UInt8)} {k : Nat}, k < P.length → numOf 255 (P.getD k []) = none → numsOf P = none
  | p :: ps, 0, _, h => numsOf_none (by simpa using h)
  | p :: ps, k + 1, hk, h => by
    rcases ho : numOf 255 p with _ | v
    · exact numsOf_none ho
    · rw [numsOf_some ho, numsOf_bad (k := k) (by simpa using hk) (by simpa using h)]; rfl
theorem numsOf_good : ∀ {P : List (List UInt8)} {vs : List Int}, vs.length = P.length → (∀ j, j < P.length → numOf 255 (P.getD j []) = some (vs.getD j 0)) → numsOf P = some vs
  | [], [], _, _ => rfl
  | p :: ps, v :: vs, hl, h => by
    have h0 := h 0 (by simp)
    rw [numsOf_some (v := v) (by simpa using h0), numsOf_good (vs := vs) (by simpa using hl) (fun j hj => by
      have := h (j + 1) (by simpa using hj)
      simpa using this)]
    rfl
theorem splitL_part (c : UInt8) : ∀ {l : List UInt8} {p : List UInt8}, p ∈ splitL c l → p.length ≤ l.length
  | [], p, h => by simp [splitL] at h; subst h; simp
  | b :: l, p, h => by
    rw [splitL_cons] at h
    split at h
    · rcases List.mem_cons.1 h with rfl | h
      · simp
      · have := splitL_part c h; simp; omega
    · cases hs : splitL c l with
      | nil => exact absurd hs (splitL_ne c l)
      | cons q qs =>
        rw [hs] at h
        simp only [glueS, List.mem_cons] at h
        rcases h with rfl | h
        · have := splitL_part c (l := l) (p := q) (by rw [hs]; simp)
          simp; omega
        · have := splitL_part c (l := l) (p := p) (by rw [hs]; exact List.mem_cons_of_mem _ h)
          simp; omega
theorem toL_get {l : List ByteArray} {P : List (List UInt8)} (h : toL l = P) {i : Nat} (hi : i < P.length) : (l.getD i ⟨#[]⟩).data.toList = P.getD i [] := by
  subst h
  unfold toL at *
  have hi' : i < l.length := by simpa using hi
  simp [List.getD, List.getElem?_eq_getElem hi']
def RAddrOut (o : Option (List Int)) (e : Ending) : Prop := e = .returned (.tuple #[.int .u32 (match o with | none => 0 | some l => getV l), .bool o.isSome])
theorem split_c (s : ByteArray) (c : UInt8) (C : Int) (hC : C = (c.toNat : Int)) (w : World) (hs : s.size ≤ 1000) :
    Calls Tryd.prog 21 #[.string s, .int .u8 C] w fun e w' => ∃ q cap l, e = .returned (.slice q (splitL c s.data.toList).length cap) ∧ StrsOwn w' w.heap.size q (splitL c s.data.toList).length cap l ∧ toL l = splitL c s.data.toList ∧ Below w.heap.size w w' := by
  subst hC; exact split_any s c w hs
set_option maxRecDepth 100000 in
set_option maxHeartbeats 4000000 in
theorem raddress_any (s : ByteArray) (w : World) (hs : s.size ≤ 1000) :
    Calls Tryd.prog 8 #[.string s] w fun e w' => RAddrOut (addrL s.data.toList) e ∧ Below w.heap.size w w' := by
  rw [addrL_split]
  have HP := Lib.hid (split_c s 46 46 (by decide) w hs)
  obtain ⟨P, hP⟩ : ∃ P, splitL 46 s.data.toList = P := ⟨_, rfl⟩
  obtain ⟨R, hR⟩ : ∃ R, raddrL s.data.toList = R := ⟨_, rfl⟩
  have HR := Lib.hid (show R = if P.length = 4 then numsOf P else none from by rw [← hR, ← hP]; rfl)
  rw [hP] at HP
  rw [hR]
  clear hP hR
  obtain ⟨n, hn⟩ : ∃ n, P.length = n := ⟨_, rfl⟩
  rw [hn] at HP HR
  have HN := Lib.hid hn
  clear hn
  by_cases h4 : n = 4
  · subst h4
    have HR4 := Lib.hid (show R = numsOf P from by rw [HR.out, if_pos rfl])
    go_enter Tryd.func8, Tryd.ntmps8
    go_wp2_with fail
    refine HP.out.mono ?_; rintro e w1 ⟨q, cap, l, rfl, hO, hT, hb⟩
    have HO := Lib.hid hO
    have HT := Lib.hid hT
    have HB := Lib.hid hb
    clear hO hT hb
    go_wp2_with fail
    go_loopw [5, 6] (fun a i wr => ∃ (k : Nat) (vs : List Int), k ≤ 4 ∧ i = .int .i64 k ∧ a = .int .u32 (getV vs) ∧ vs.length = k ∧ InByte vs ∧ (∀ j, j < k → numOf 255 (P.getD j []) = some (vs.getD j 0)) ∧ wr = w1) (fun _ i _ => 4 - (intOf i).toNat)
    case atStart => exact ⟨0, [], by omega, rfl, rfl, rfl, fun i hi => by simp at hi, fun j hj => by omega, rfl⟩
    case round =>
      obtain ⟨k, vs, hk, rfl, rfl, hvl, hvb, hvn, rfl⟩ := hrel
      have HVL := Lib.hid hvl
      have HVB := Lib.hid hvb
      have HVN := Lib.hid hvn
      have hgb := getV_bd vs hvb k (by omega)
      rw [List.take_of_length_le (by omega)] at hgb
      obtain ⟨av, hav⟩ : ∃ av, getV vs = av := ⟨_, rfl⟩
      rw [hav] at hgb ⊢
      have HAV := Lib.hid hav
      clear hvl hvb hvn hav
      by_cases hlt : k < 4
      · have ha0 : 0 ≤ av := hgb.1
        have ha1 : av < 16777216 := by
          have : (256 : Int) ^ k ≤ 16777216 := pow_small (by omega)
          omega
        obtain ⟨g, rfl, hc⟩ := HO.out.cell hlt
        have hc' : wr.cell? ⟨g, k, none⟩ = some (.string (l.getD k ⟨#[]⟩)) := by rw [Nat.zero_add] at hc; exact hc
        have htl := toL_get HT.out (i := k) (by rw [HN.out]; exact hlt)
        obtain ⟨y, hy⟩ : ∃ y, l.getD k ⟨#[]⟩ = y := ⟨_, rfl⟩
        rw [hy] at hc hc' htl
        have HS := Lib.hid (small_any y 255 wr (by omega) (by omega))
        rw [htl] at HS
        unfold smallV at HS
        clear hy htl hgb
        rcases ho : numOf 255 (P.getD k []) with _ | v
        · rw [ho] at HS
          have HRN := Lib.hid (show R = none from by rw [HR4.out]; exact numsOf_bad (k := k) (by rw [HN.out]; exact hlt) ho)
          rw [show (none : Option Int).getD (-1) = -1 from rfl] at HS
          clear ho
          go_wp2_with fail
          refine HS.out.mono ?_; rintro e w2 ⟨rfl, rfl⟩
          go_wp2_with fail
          go_ret2
          exact ⟨by rw [HRN.out]; rfl, HB.out⟩
        · obtain ⟨v0, v1⟩ := numOf_bd (by omega) ho
          rw [ho, show (some v).getD (-1) = v from rfl] at HS
          have HO1 := Lib.hid ho
          have HGV := Lib.hid (show getV (vs ++ [v]) = 256 * av + v from by
            have := getV_snoc (vs ++ [v]) k (by simp [HVL.out])
            rw [List.take_of_length_le (by simp [HVL.out]), List.take_left' HVL.out, HAV.out] at this
            rw [this]
            simp [List.getD, HVL.out])
          have wv : IntKind.u32.wrap v = v := by rw [show IntKind.u32.wrap v = v % 4294967296 from by first | rfl | exact IntKind.wrap_u32 _ | exact IntKind.wrap_u32' _]; omega
          have wm : IntKind.u32.wrap (256 * av) = 256 * av := by rw [show IntKind.u32.wrap (256 * av) = (256 * av) % 4294967296 from by first | rfl | exact IntKind.wrap_u32 _ | exact IntKind.wrap_u32' _]; omega
          have ws : IntKind.u32.wrap (256 * av + v) = 256 * av + v := by rw [show IntKind.u32.wrap (256 * av + v) = (256 * av + v) % 4294967296 from by first | rfl | exact IntKind.wrap_u32 _ | exact IntKind.wrap_u32' _]; omega
          have tv : decide (v < 0) = false := by simp; omega
          clear ho
          go_wp2_with fail
          refine HS.out.mono ?_; rintro e w2 ⟨rfl, rfl⟩
          go_wp2_with fail
          go_roundw
          case rel => exact ⟨k + 1, vs ++ [v], by omega, by go_num, by rw [HGV.out], by simp [HVL.out], inByte_app HVB.out v0 (by omega), fun j hj => by
            rcases Nat.lt_or_ge j k with h | h
            · rw [HVN.out j h, getD_app, if_pos (by rw [HVL.out]; exact h)]
            · obtain rfl : j = k := by omega
              rw [HO1.out, getD_app, if_neg (by rw [HVL.out]; omega), if_pos HVL.out.symm], by first | rfl | trivial⟩
          case measure => simp [intOf]; omega
      · obtain rfl : k = 4 := by omega
        have HRV := Lib.hid (show R = some vs from by rw [HR4.out]; exact numsOf_good (by rw [HVL.out, HN.out]) (fun j hj => HVN.out j (by rw [HN.out] at hj; exact hj)))
        go_wp2_with fail
        go_ret2
        exact ⟨by rw [HRV.out, ← HAV.out]; rfl, HB.out⟩
  · have HRN := Lib.hid (show R = none from by rw [HR.out, if_neg h4])
    have t0 : ((n : Int) != 4) = true := by rw [bne_iff_ne]; omega
    go_enter Tryd.func8, Tryd.ntmps8
    go_wp2_with fail
    refine HP.out.mono ?_; rintro e w1 ⟨q, cap, l, rfl, hO, hT, hb⟩
    have HB := Lib.hid hb
    clear hO hT hb
    go_wp2_with fail
    go_ret2
    exact ⟨by rw [HRN.out]; rfl, HB.out⟩
def RParseOut (o : Option (Int × Int)) (e : Ending) : Prop :=
  e = .returned (.tuple #[.agg #[.int .u32 (o.getD (0, 0)).1, .int .i64 (o.getD (0, 0)).2], .bool o.isSome])
theorem addrL_bd {l : List UInt8} {b : List Int} (h : addrL l = some b) : 0 ≤ getV b ∧ getV b < 4294967296 := by
  rw [addrL_split] at h
  unfold raddrL at h
  split at h
  · rename_i h4
    have key : ∀ {P : List (List UInt8)} {b : List Int}, numsOf P = some b → b.length = P.length ∧ InByte b := by
      intro P
      induction P with
      | nil => intro b h; simp [numsOf] at h; subst h; exact ⟨rfl, fun i hi => by simp at hi⟩
      | cons p ps ih =>
        intro b h
        rcases ho : numOf 255 p with _ | v
        · rw [numsOf_none ho] at h; cases h
        · rw [numsOf_some ho] at h
          obtain ⟨z, hz, rfl⟩ := Option.map_eq_some_iff.1 h
          obtain ⟨h1, h2⟩ := ih hz
          have hv := numOf_bd (by omega) ho
          refine ⟨by simp [h1], fun i hi => ?_⟩
          cases i with
          | zero => simpa using hv
          | succ i => simpa using h2 i (by simpa using hi)
    obtain ⟨h1, h2⟩ := key h
    have := getV_bd b h2 4 (by omega)
    rw [List.take_of_length_le (by omega)] at this
    exact this
  · cases h
end Go.Proofs.YtpmdmkemlbpnjaaDoor
