/- The document's own split: the walk. -/
import Derived.Test.YtpmdmkemlbpnjaaDoorPs3
import Derived.Laws.AppendOwn
import Derived.Deep.Onto
namespace Go.Proofs.YtpmdmkemlbpnjaaDoor
open Go.RowKit

theorem newS (w : World) (o : Obj) : Below w.heap.size w (w.alloc o) := (Below.refl _ _).alloc (Nat.le_refl _) o
theorem infoStr : (Tryd.prog.info? 9).map (fun i => (i.zero, i.size, i.bytes)) = some (some (.string ⟨#[]⟩), 1, 16) := by kernel_rfl
theorem gb_belowS {a b : World} {r : Option Nat} (h : Below a.heap.size a b) : a.grownBy b r :=
  ⟨h.os, h.tape, h.output, h.size, fun i hi _ => h.block i hi⟩
theorem rowS_below {w w' : World} {B : Nat} {E : TypeId} {size : Nat} {v : Value} {n : Nat} {xs : List Value} (h : w.ownsRow B E size v n xs) (hb : Below w.heap.size w w') : w'.ownsRow B E size v n xs := by
  refine h.kept (row := none) (gb_belowS hb) ?_
  rcases hv : v.ownBlock with _ | g
  · exact .inl rfl
  · exact .inr (by simp)
theorem rowS_form {w : World} {B : Nat} {E : TypeId} {size : Nat} {v : Value} {n : Nat} {xs : List Value} (h : w.ownsRow B E size v n xs) :
    ∃ p c, v = .slice p n c ∧ n ≤ c ∧ c ≤ maxLen := by
  rcases h.2 with ⟨rfl, rfl⟩ | ⟨g, cap, cur, rfl, _, _, h1, h2, _⟩
  · exact ⟨none, 0, rfl, Nat.le_refl _, by unfold maxLen; omega⟩
  · exact ⟨_, cap, rfl, h1, h2⟩
theorem add_litS (b off j : Nat) : (⟨b, off, none⟩ : Addr).add j = ⟨b, off + j, none⟩ := by unfold Addr.add; split <;> simp_all
/-- Texts of the call's own. -/
def StrsOwn (w : World) (B : Nat) (q : Option Addr) (n cap : Nat) (l : List ByteArray) : Prop :=
  l.length = n ∧ w.ownsRow B 9 1 (.slice q n cap) n (l.map Value.string)
theorem StrsOwn.nil (w : World) (B : Nat) : StrsOwn w B none 0 0 [] := ⟨rfl, World.ownsRow_nil _ _ _ _⟩
theorem StrsOwn.below {w w' : World} {B n cap : Nat} {q : Option Addr} {l : List ByteArray} (h : StrsOwn w B q n cap l) (hb : Below w.heap.size w w') : StrsOwn w' B q n cap l := ⟨h.1, rowS_below h.2 hb⟩
theorem StrsOwn.cell {w : World} {B n cap : Nat} {q : Option Addr} {l : List ByteArray} (h : StrsOwn w B q n cap l) {i : Nat} (hi : i < n) : ∃ g, q = some ⟨g, 0, none⟩ ∧ w.cell? ⟨g, 0 + i, none⟩ = some (.string (l.getD i ⟨#[]⟩)) := by
  rcases h.2.2 with ⟨hv, h0⟩ | ⟨g, cap', cur, hv, _⟩
  · simp only [Value.slice.injEq] at hv; omega
  · simp only [Value.slice.injEq] at hv
    obtain ⟨rfl, _, rfl⟩ := hv
    refine ⟨g, rfl, ?_⟩
    have hl : i < l.length := by rw [h.1]; exact hi
    have c := h.2.cells (g := g) rfl i (.string (l.getD i ⟨#[]⟩)) (by simp [List.getD, List.getElem?_eq_getElem hl])
    rw [add_litS] at c
    exact c
theorem wpList_appstr {ops : Array Oper} {rest : List Oper} {o : Oper} {a : Act} {w : World} {Q : Exit → Act → World → Prop} (hgd : o.guard = none) (s x : Operand)
    (ho : o.op = .call { callee := .builtin .append, args := #[s, x], argTypes := #[53, 53] })
    (B : Nat) (q : Option Addr) (cap n : Nat) (l : List ByteArray) (hown : StrsOwn w B q n cap l) (hs : a.eval s = .slice q n cap)
    (g : Nat) (y : ByteArray) (hx : a.eval x = .slice (some ⟨g, 0, none⟩) 1 1) (hc : w.cell? ⟨g, 0, none⟩ = some (.string y)) (h40 : n + 1 ≤ 1099511627776) (hB : B ≤ w.heap.size)
    (h : ∀ q' cap' w', Hid (StrsOwn w' B q' (n + 1) cap' (l ++ [y])) → Hid (Below B w w') → wpList Tryd.prog ops Q rest (a.put o.dst (.slice q' (n + 1) cap')) w') :
    wpList Tryd.prog ops Q (o :: rest) a w := by
  obtain ⟨i0, hi, hz0, hz1, hz2⟩ := info_parts infoStr
  refine wpList_append_own w hgd s x 53 ho B 9 i0 (.string ⟨#[]⟩) 1 16 Tryd.underlying53 hi hz0 hz1 hz2 rfl (by decide) _ n _ hs hown.2 ⟨g, 0, none⟩ 1 1 [.string y] hx rfl (fun j u hj => ?_) (fun u hu => ?_) (by unfold maxLen; omega) (by omega) hB (fun v' w' h2 h3 _ => ?_)
  · obtain ⟨rfl, rfl⟩ : j = 0 ∧ u = .string y := by
      match j, hj with
      | 0, hj => simp at hj; exact ⟨rfl, hj.symm⟩
    simpa [Addr.add] using hc
  · simp at hu; subst hu; rfl
  · obtain ⟨q', cap', rfl, _, _⟩ := rowS_form h2
    refine h q' cap' w' (Lib.hid ⟨by rw [List.length_append, hown.1]; rfl, by rw [List.map_append]; exact h2⟩) (Lib.hid ?_)
    refine (Below.refl B w).grown h3 hB fun k hk => ?_
    rcases hown.2.2 with ⟨hv, _⟩ | ⟨g', cap2, cur, hv, hB2, _⟩
    · rw [hv] at hk; cases hk
    · rw [hv] at hk
      have : g' = k := by simpa [Value.ownBlock] using hk
      omega

def toL (l : List ByteArray) : List (List UInt8) := l.map (fun s => s.data.toList)
def SplRel (s : ByteArray) (c : UInt8) (R : List (List UInt8)) (w : World) (v f i : Value) (wr : World) : Prop :=
  ∃ (k fr n : Nat) (q : Option Addr) (cap : Nat) (done : List ByteArray), i = .int .i64 k ∧ f = .int .i64 fr ∧ v = .slice q n cap ∧ n ≤ k ∧ StrsOwn wr w.heap.size q n cap done ∧ Below w.heap.size w wr ∧
    ((k ≤ s.size ∧ fr ≤ k ∧ toL done ++ glueS ((s.data.toList.take k).drop fr) (splitL c (s.data.toList.drop k)) = R) ∨ (k = s.size + 1 ∧ toL done = R))
theorem str_cell (w : World) (y : ByteArray) : (w.alloc (.cells #[.string y] 9)).cell? ⟨w.heap.size, 0, none⟩ = some (.string y) := by
  have h := World.rowIs_alloc w #[.string y] 9 (fun _ => .string y) (fun i hi => by
    have : i = 0 := by simpa using hi
    subst this; rfl)
  exact World.rowIs.cell h (i := 0) (by simp)
theorem extract_mid (s : ByteArray) (a b : Nat) (h : b ≤ s.size) (hab : a ≤ b) : (s.extract a b).data.toList = (s.data.toList.take b).drop a := by
  rw [Lib.extract_data, List.drop_take]
theorem take_more (s : ByteArray) (k fr : Nat) (h : k < s.size) (hf : fr ≤ k) : (s.data.toList.take (k + 1)).drop fr = (s.data.toList.take k).drop fr ++ [s[k]] := by
  rw [List.take_succ_eq_append_getElem (by rw [data_len]; exact h), List.drop_append_of_le_length (by rw [List.length_take, data_len]; omega)]
  rfl
set_option maxRecDepth 100000 in
set_option maxHeartbeats 4000000 in
theorem split_any (s : ByteArray) (c : UInt8) (w : World) (hs : s.size ≤ 1000) :
    Calls Tryd.prog 21 #[.string s, .int .u8 (c.toNat : Int)] w fun e w' => ∃ q cap l, e = .returned (.slice q (splitL c s.data.toList).length cap) ∧ StrsOwn w' w.heap.size q (splitL c s.data.toList).length cap l ∧ toL l = splitL c s.data.toList ∧ Below w.heap.size w w' := by
  obtain ⟨R, hR⟩ : ∃ R, splitL c s.data.toList = R := ⟨_, rfl⟩
  rw [hR]
  have HR := Lib.hid hR
  have HST := Lib.hid (show toL [] ++ glueS ((s.data.toList.take 0).drop 0) (splitL c (s.data.toList.drop 0)) = R from by
    rw [← hR]; simp only [toL, List.map_nil, List.nil_append, List.take_zero, List.drop_zero]; exact glue_nil (splitL_ne c _))
  clear hR
  go_enter Tryd.func21, Tryd.ntmps21
  go_wp2_with fail
  go_loopw [5, 6, 7] (fun v f i wr => SplRel s c R w v f i wr) (fun _ _ i _ => s.size + 1 - (intOf i).toNat)
  case atStart => exact ⟨0, 0, 0, none, 0, [], rfl, rfl, rfl, Nat.le_refl _, StrsOwn.nil _ _, Below.refl _ _, .inl ⟨Nat.zero_le _, Nat.le_refl _, HST.out⟩⟩
  case round =>
    obtain ⟨k, fr, n, q, cap, done, rfl, rfl, rfl, hnk, hO, hB, hcase⟩ := hrel
    have HOW := Lib.hid hO
    have HB := Lib.hid hB
    clear hO hB
    rcases hcase with ⟨hk, hf, hd⟩ | ⟨hk, hd⟩
    · have HD := Lib.hid hd
      have HXM := Lib.hid (extract_mid s fr k hk hf)
      have hy := newS wr (.cells #[.string (s.extract fr k)] 9)
      have HYO := Lib.hid (HOW.out.below hy)
      have HYB := Lib.hid (HB.out.trans (hy.mono HB.out.size))
      have HYC := Lib.hid (str_cell wr (s.extract fr k))
      clear hd hy
      by_cases he : k = s.size
      · subst he
        have t0 : ((s.size : Int) == (s.size : Int)) = true := by simp
        have HE := Lib.hid (show toL (done ++ [s.extract fr s.size]) = R from by
          rw [← HD.out, show s.data.toList.drop s.size = [] from List.drop_eq_nil_of_le (by rw [data_len]; omega)]
          unfold toL
          rw [List.map_append, List.map_cons, List.map_nil, HXM.out]
          simp [splitL, glueS])
        go_wp2_with (refine wpList_appstr (o := ⟨some 31, _, _, _, _, _⟩) (by rfl) (.tmp 25) (.tmp 30) (by rfl) w.heap.size q cap n done HYO.out (by rfl) wr.heap.size (s.extract fr s.size) (by rfl) HYC.out (by omega) HYB.out.size ?_; intro q3 cap3 w3 hO3 hB3)
        go_roundw
        case rel => exact ⟨s.size + 1, s.size + 1, n + 1, q3, cap3, done ++ [s.extract fr s.size], by go_num, by go_num, rfl, by omega, hO3.out, HYB.out.trans hB3.out, .inr ⟨by omega, HE.out⟩⟩
        case measure => simp [intOf]
      · have hlt : k < s.size := by omega
        have t0 : ((k : Int) == (s.size : Int)) = false := by simp; omega
        have hdk := data_drop s k hlt
        by_cases hc : s[k] = c
        · have t1 : ((s[k].toNat : Int) == (c.toNat : Int)) = true := by rw [hc]; simp
          have HE := Lib.hid (show toL (done ++ [s.extract fr k]) ++ glueS ((s.data.toList.take (k + 1)).drop (k + 1)) (splitL c (s.data.toList.drop (k + 1))) = R from by
            rw [← HD.out, hdk, show splitL c (s[k] :: s.data.toList.drop (k + 1)) = [] :: splitL c (s.data.toList.drop (k + 1)) from by rw [splitL, if_pos hc]]
            rw [show (s.data.toList.take (k + 1)).drop (k + 1) = [] from List.drop_eq_nil_of_le (by rw [List.length_take]; omega), glue_nil (splitL_ne c _)]
            unfold toL
            rw [List.map_append, List.map_cons, List.map_nil, HXM.out]
            simp [glueS])
          clear hdk hc
          go_wp2_with (refine wpList_appstr (o := ⟨some 31, _, _, _, _, _⟩) (by rfl) (.tmp 25) (.tmp 30) (by rfl) w.heap.size q cap n done HYO.out (by rfl) wr.heap.size (s.extract fr k) (by rfl) HYC.out (by omega) HYB.out.size ?_; intro q3 cap3 w3 hO3 hB3)
          go_roundw
          case rel => exact ⟨k + 1, k + 1, n + 1, q3, cap3, done ++ [s.extract fr k], by go_num, by go_num, rfl, by omega, hO3.out, HYB.out.trans hB3.out, .inl ⟨by omega, by omega, HE.out⟩⟩
          case measure => simp [intOf]; omega
        · have t1 : ((s[k].toNat : Int) == (c.toNat : Int)) = false := by
            simp only [beq_eq_false_iff_ne, ne_eq]
            intro e
            exact hc (UInt8.toNat_inj.1 (by omega))
          have HE := Lib.hid (show toL done ++ glueS ((s.data.toList.take (k + 1)).drop fr) (splitL c (s.data.toList.drop (k + 1))) = R from by
            rw [← HD.out, hdk, show splitL c (s[k] :: s.data.toList.drop (k + 1)) = glueS [s[k]] (splitL c (s.data.toList.drop (k + 1))) from by rw [splitL, if_neg hc]]
            rw [glue_glue _ _ _ (splitL_ne c _), take_more s k fr hlt hf])
          clear hdk hc
          go_wp2_with fail
          go_roundw
          case rel => exact ⟨k + 1, fr, n, q, cap, done, by go_num, rfl, rfl, by omega, HOW.out, HB.out, .inl ⟨by omega, by omega, HE.out⟩⟩
          case measure => simp [intOf]; omega
    · have t0 : decide ((k : Int) ≤ (s.size : Int)) = false := by simp; omega
      have HD := Lib.hid hd
      clear hd
      go_wp2_with fail
      go_ret
      have hl : R.length = n := by rw [← HD.out]; unfold toL; rw [List.length_map]; exact HOW.out.1
      rw [hl]
      exact ⟨q, cap, done, rfl, HOW.out, HD.out, HB.out⟩
end Go.Proofs.YtpmdmkemlbpnjaaDoor
