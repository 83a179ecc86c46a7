/- note: Name; the document's own Digits and Name. -/
import Derived.Test.YtmeejbkcaghhgaaDoorNt4
import Derived.Test.YtmeejbkcaghhgaaDoorShelf
namespace Go.Proofs.YtmeejbkcaghhgaaDoor
open Go.RowKit

/-- The library's table of powers of ten holds what the program's text lays. -/
def TabI (w : World) : Prop := Lib.TabIs Tryd.prog w "internal/strconv.uint64pow10" .u64 Lib.pow10Tab
theorem tabI_named : Tryd.prog.globalNamed "internal/strconv.uint64pow10" = some 2 := by kernel_rfl
theorem TabI.lt {w : World} (h : TabI w) : 2 < w.heap.size := by
  unfold TabI Lib.TabIs World.var? at h
  rw [tabI_named] at h
  rcases Nat.lt_or_ge 2 w.heap.size with h1 | h1
  · exact h1
  · simp [Array.getElem?_eq_none h1] at h
theorem TabI.below {w w' : World} (h : TabI w) (hb : Below w.heap.size w w') : TabI w' := by
  have e := hb.block _ h.lt
  unfold TabI Lib.TabIs World.var? at *
  rw [tabI_named] at *
  simp only [Option.bind_eq_bind, Option.bind_some] at *
  rw [e]
  exact h
def nameL : List (List UInt8) := [[], [104, 101, 97, 100], [111, 112, 101, 110], [117, 112, 100, 97, 116, 101], [104, 111, 108, 100], [115, 116, 97, 116, 101], [99, 101, 97, 115, 101]]
/-- The table of names as its initialiser lays it. -/
def TabN (w : World) : Prop := ∀ i, i < 7 → w.cell? ⟨0, i, none⟩ = some (.string ⟨(nameL.getD i []).toArray⟩)
theorem TabN.below {w w' : World} (h : TabN w) (hb : Below w.heap.size w w') : TabN w' := fun i hi =>
  (hb.cell (p := ⟨0, i, none⟩) (World.block_lt_of_cell? w _ (h i hi))).trans (h i hi)
structure Tabs (w : World) : Prop where
  i : TabI w
  n : TabN w
theorem Tabs.below {w w' : World} (h : Tabs w) (hb : Below w.heap.size w w') : Tabs w' := ⟨h.i.below hb, h.n.below hb⟩

theorem below_grow (w : World) (os : Array Obj) : Below w.heap.size w (Go.Sort.grow w os) :=
  ⟨rfl, rfl, rfl, by simp [Go.Sort.grow], fun k hk => by simp [Go.Sort.grow, Array.getElem?_append_left hk]⟩
theorem itoa_any (n : Int) (w : World) (h0 : 0 ≤ n) (h1 : n ≤ 1000000) (ht : TabI w) :
    Calls Tryd.prog 18 #[.int .i64 n] w fun e w' => e = .returned (.string ⟨(Lib.itoa n).toArray⟩) ∧ Below w.heap.size w w' := by
  refine (Tryd.strconv_Itoa n (by omega) (by omega) w ht).mono ?_
  rintro e w' ⟨rfl, k, os, rfl⟩
  exact ⟨rfl, (below_drewN (Below.refl w.heap.size w) k).trans (below_grow (w.drewN k) os)⟩
theorem itoa_len : ∀ n : Nat, n < 256 → (Lib.itoa n).length ≤ 3 := by decide +kernel
theorem itoa_size (n : Int) (h0 : 0 ≤ n) (h1 : n ≤ 255) : (⟨(Lib.itoa n).toArray⟩ : ByteArray).size ≤ 3 := by
  obtain ⟨k, rfl⟩ := Int.eq_ofNat_of_zero_le h0
  have := itoa_len k (by omega)
  simpa [ByteArray.size] using this
theorem append_data (a b : ByteArray) : (a ++ b).data.toList = a.data.toList ++ b.data.toList := by simp
theorem append_size (a b : ByteArray) : (a ++ b).size = a.size + b.size := by simp
theorem str_eq {S : ByteArray} {a : Array UInt8} (h : S.data.toList = a.toList) : S = ⟨a⟩ := by
  obtain ⟨b⟩ := S
  congr 1
  exact Array.toList_inj.1 h
theorem data_len (s : ByteArray) : s.data.toList.length = s.size := by simp
theorem itoa_next : ∀ n : Nat, n < 256 → 10 ≤ n → Lib.itoa n = Lib.itoa (n / 10 : Nat) ++ [(48 + (n % 10)).toUInt8] := by decide +kernel
theorem itoa_last : ∀ n : Nat, n < 10 → Lib.itoa n = [(48 + (n % 10)).toUInt8] := by decide +kernel

/-- The name of a note that may be. -/
def nameN (k : Nat) (s : Int) : List UInt8 := nameL.getD k [] ++ (32 :: Lib.itoa s)
theorem name_no (k s : Int) (q : Option Addr) (n c : Nat) (w : World) (hk : okN k s n = false) :
    Calls Tryd.prog 10 #[.agg #[.int .i64 k, .int .i64 s, .slice q n c]] w fun e w' => e = .returned (.string ⟨#[]⟩) ∧ Below w.heap.size w w' := by
  have hal := (Below.refl w.heap.size w).alloc (Nat.le_refl _) (.cells #[.int .i64 k, .int .i64 s, .slice q n c] 24)
  have HB := Lib.hid hal
  have HC := Lib.hid (checkN_any k s q n c (w.alloc (.cells #[.int .i64 k, .int .i64 s, .slice q n c] 24)))
  rw [errN_no hk] at HC
  clear hal hk
  go_enter Tryd.func10, Tryd.ntmps10
  go_wp2_with fail
  refine HC.out.mono ?_; rintro e w1 ⟨rfl, hb1⟩
  have HB1 := Lib.hid (HB.out.trans (hb1.mono HB.out.size))
  clear hb1
  go_wp2_with fail
  go_ret
  exact ⟨rfl, HB1.out⟩
theorem nameL_size : ∀ k : Nat, k < 7 → (⟨(nameL.getD k []).toArray⟩ : ByteArray).size ≤ 6 := by decide +kernel
set_option maxHeartbeats 2000000 in
theorem name_ok (k : Nat) (s : Int) (q : Option Addr) (n c : Nat) (w : World) (ht : Tabs w) (hk : okN k s n = true) :
    Calls Tryd.prog 10 #[.agg #[.int .i64 k, .int .i64 s, .slice q n c]] w fun e w' => e = .returned (.string ⟨(nameN k s).toArray⟩) ∧ Below w.heap.size w w' := by
  obtain ⟨k1, k6, s0, s255, n4⟩ := okN_yes hk
  have hal := (Below.refl w.heap.size w).alloc (Nat.le_refl _) (.cells #[.int .i64 k, .int .i64 s, .slice q n c] 24)
  have HB := Lib.hid hal
  have HC := Lib.hid (checkN_any k s q n c (w.alloc (.cells #[.int .i64 k, .int .i64 s, .slice q n c] 24)))
  rw [errN_yes hk] at HC
  have HT := Lib.hid (ht.below hal)
  have K0 := Lib.hid (Blk.new w 24 [.int .i64 k, .int .i64 s, .slice q n c])
  have sn := nameL_size k (by omega)
  have sv := itoa_size s s0 s255
  have hI : ∀ W, Tabs W → Calls Tryd.prog 18 #[.int .i64 s] W fun e w' => e = .returned (.string ⟨(Lib.itoa s).toArray⟩) ∧ Below W.heap.size W w' := fun W h => itoa_any s W s0 (by omega) h.i
  obtain ⟨V, hV⟩ : ∃ V : ByteArray, V = ⟨(Lib.itoa s).toArray⟩ := ⟨_, rfl⟩
  rw [← hV] at sv hI
  have HVV := Lib.hid hV
  have HI := Lib.hid hI
  have hN : ∀ W, Tabs W → W.cell? ⟨0, k, none⟩ = some (.string ⟨(nameL.getD k []).toArray⟩) := fun W h => h.n k (by omega)
  obtain ⟨U, hU⟩ : ∃ U : ByteArray, U = ⟨(nameL.getD k []).toArray⟩ := ⟨_, rfl⟩
  rw [← hU] at sn hN
  have HUU := Lib.hid hU
  have HNN := Lib.hid hN
  have k7 : (k : Nat) < 7 := by omega
  clear hal hk ht hV hU hI hN
  go_enter Tryd.func10, Tryd.ntmps10
  go_wp2_with fail
  refine HC.out.mono ?_; rintro e w1 ⟨rfl, hb1⟩
  have HB1 := Lib.hid (HB.out.trans (hb1.mono HB.out.size))
  have K1 := Lib.hid (K0.out.next hb1)
  have T1 : Tabs w1.drew := (HT.out.below hb1).below ((Below.refl _ _).drew)
  have C0 : w1.drew.cell? ⟨w.heap.size, 0, none⟩ = some (.int .i64 k) := K1.out.cell 0 (by simp)
  have C1 : w1.drew.cell? ⟨w.heap.size, 1, none⟩ = some (.int .i64 s) := K1.out.cell 1 (by simp)
  have C2 : w1.drew.cell? ⟨0, k, none⟩ = some (.string U) := HNN.out _ T1
  have BB : Hid (Below w.heap.size w w1.drew) := HB1.out.drew
  clear hb1 K0 HB
  go_wp2_with fail
  go_region_held (fun w' => w'.cell? ⟨w.heap.size, 0, none⟩ = some (.int .i64 k) ∧ w'.cell? ⟨w.heap.size, 1, none⟩ = some (.int .i64 s) ∧ w'.cell? ⟨0, k, none⟩ = some (.string U)) (refine ⟨?_, ?_, ?_⟩ <;> with_reducible assumption) (first
    | (go_at_call 18; refine (HI.out _ (by with_reducible assumption)).mono ?_; rintro e w2 ⟨rfl, hb2⟩; have k0 : w2.cell? ⟨w.heap.size, 0, none⟩ = some (.int .i64 k) := kept hb2 (by with_reducible assumption); have k1 : w2.cell? ⟨w.heap.size, 1, none⟩ = some (.int .i64 s) := kept hb2 (by with_reducible assumption); have k2 : w2.cell? ⟨0, k, none⟩ = some (.string U) := kept hb2 (by with_reducible assumption); have BB := Lib.hid (BB.out.trans (hb2.mono BB.out.size)); clear hb2))
  all_goals
    go_wp2_with fail
    go_ret
    refine ⟨?_, BB.out⟩
    have e : (U ++ ⟨#[32]⟩ ++ V) = ⟨(nameN k s).toArray⟩ := str_eq (by rw [append_data, append_data, HVV.out, HUU.out]; simp [nameN])
    exact congrArg (fun x => Ending.returned (.string x)) e

/-- The digits still to come, ahead of those that stand. -/
def lead (m : Nat) : List UInt8 := if m = 0 then [] else Lib.itoa m
def DigRel (n : Nat) (m s : Value) : Prop :=
  ∃ (k : Nat) (S : ByteArray), k ≤ 255 ∧ m = .int .i64 k ∧ s = .string S ∧ S.size ≤ 3 ∧ (S.data.toList = [] ∧ k = n ∨ S.data.toList ≠ [] ∧ Lib.itoa n = lead k ++ S.data.toList)
def strSize : Value → Nat
  | .string S => S.size
  | _ => 0

theorem digit_cut : ∀ d : Nat, d < 10 → (ByteArray.extract ⟨#[48, 49, 50, 51, 52, 53, 54, 55, 56, 57]⟩ d (d + 1)).data.toList = [(48 + d).toUInt8] := by decide +kernel
theorem lead_next (m : Nat) (h0 : 0 < m) (h : m < 256) : Lib.itoa m = lead (m / 10) ++ [(48 + (m % 10)).toUInt8] := by
  unfold lead
  by_cases hm : m < 10
  · rw [if_pos (by omega)]; exact itoa_last m hm
  · rw [if_neg (by omega)]; exact itoa_next m h (by omega)

theorem digits_any (n : Nat) (w : World) (hn : n ≤ 255) :
    Calls Tryd.prog 22 #[.int .i64 n] w fun e w' => e = .returned (.string ⟨(Lib.itoa n).toArray⟩) ∧ w = w' := by
  go_enter Tryd.func22, Tryd.ntmps22
  go_wp2_with fail
  go_loop [0, 3] (fun m s => DigRel n m s) (fun m s => 2 * (intOf m).toNat + (if strSize s = 0 then 1 else 0))
  case atStart => exact ⟨n, ⟨#[]⟩, hn, rfl, rfl, by decide, .inl ⟨rfl, rfl⟩⟩
  case round =>
    obtain ⟨k, S, hk, rfl, rfl, hsz, hrel⟩ := hrel
    by_cases hend : k = 0 ∧ S.data.toList ≠ []
    · obtain ⟨rfl, hne⟩ := hend
      have hfin : S = ⟨(Lib.itoa n).toArray⟩ := str_eq (by
        rcases hrel with ⟨h, _⟩ | ⟨_, h⟩
        · exact absurd h hne
        · rw [h]; simp [lead])
      have hl : S.toList.isEmpty = false := by
        rw [ByteArray.toList_eq]
        rcases hh : S.data.toList with _ | ⟨c, r⟩
        · exact absurd hh hne
        · rfl
      have HF := Lib.hid hfin
      clear hfin hrel hne
      go_wp2_with fail
      go_ret
      exact ⟨by rw [← HF.out]; rfl, rfl⟩
    · have hgo : 0 < k ∨ S.data.toList = [] := by
        rcases Nat.eq_zero_or_pos k with h | h
        · right
          rcases hl : S.data.toList with _ | ⟨c, r⟩
          · rfl
          · exact absurd ⟨h, by rw [hl]; simp⟩ hend
        · left; exact h
      have hnew : Lib.itoa n = lead (k / 10) ++ ([(48 + (k % 10)).toUInt8] ++ S.data.toList) := by
        rcases hrel with ⟨h, rfl⟩ | ⟨h, h'⟩
        · rw [h, List.append_nil]
          rcases Nat.eq_zero_or_pos k with rfl | h0
          · decide +kernel
          · exact lead_next k h0 (by omega)
        · have h0 : 0 < k := by
            rcases hgo with h0 | h0
            · exact h0
            · exact absurd h0 h
          rw [h', ← List.append_assoc, ← lead_next k h0 (by omega)]
          unfold lead; rw [if_neg (by omega)]
      have hlen : S.size + 1 ≤ 3 := by
        have h3 := itoa_len n (by omega)
        rw [hnew] at h3
        simp only [List.length_append, List.length_cons, List.length_nil, data_len] at h3
        omega
      obtain ⟨d, hd⟩ : ∃ d, k % 10 = d := ⟨_, rfl⟩
      obtain ⟨q, hq⟩ : ∃ q, k / 10 = q := ⟨_, rfl⟩
      rw [hd, hq] at hnew
      have d10 : d < 10 := by omega
      have t1 : Int.tmod (k : Int) 10 = (d : Int) := by rw [Int.tmod_eq_emod_of_nonneg (by omega)]; omega
      have t2 : (k : Int) % 10 = (d : Int) := by omega
      have t3 : Int.tdiv (k : Int) 10 = (q : Int) := by rw [Int.tdiv_eq_ediv_of_nonneg (by omega)]; omega
      have t4 : (k : Int) / 10 = (q : Int) := by omega
      have HN := Lib.hid hnew
      have HD := Lib.hid (digit_cut d d10)
      have hsz2 := Lib.hid hlen
      have HQ := Lib.hid (And.intro hq hgo)
      have hcond : 0 < k ∨ S = ⟨#[]⟩ := hgo.imp id fun h => str_eq h
      clear hnew hlen hd hq hgo hrel hend
      rcases Nat.eq_zero_or_pos k with hk0 | hk0
      · obtain rfl : S = ⟨#[]⟩ := hcond.resolve_left (by omega)
        clear hcond
        subst hk0
        obtain rfl : d = 0 := by omega
        obtain rfl : q = 0 := by omega
        go_wp2_with fail
        go_round
        case rel =>
          refine ⟨0, _, by omega, rfl, rfl, ?_, .inr ⟨?_, ?_⟩⟩
          · decide
          · decide
          · exact HN.out
        case measure => decide
      · clear hcond
        go_wp2_with fail
        have hdat : (ByteArray.extract ⟨#[48, 49, 50, 51, 52, 53, 54, 55, 56, 57]⟩ d (d + 1) ++ S).data.toList = [(48 + d).toUInt8] ++ S.data.toList := by rw [append_data, HD.out]
        go_round
        case rel =>
          refine ⟨q, _, by omega, rfl, rfl, ?_, .inr ⟨by rw [hdat]; simp, by rw [hdat]; exact HN.out⟩⟩
          rw [← data_len, hdat]
          have := hsz2.out
          simp only [List.length_append, List.length_cons, List.length_nil, data_len]
          omega
        case measure =>
          have hne : ¬ (ByteArray.extract ⟨#[48, 49, 50, 51, 52, 53, 54, 55, 56, 57]⟩ d (d + 1) ++ S).size = 0 := by
            rw [← data_len, hdat]; simp
          have := HQ.out.1
          rw [if_neg (show ¬ strSize (Value.string (ByteArray.extract ⟨#[48, 49, 50, 51, 52, 53, 54, 55, 56, 57]⟩ d (d + 1) ++ S)) = 0 from hne)]
          simp only [intOf]
          omega

end Go.Proofs.YtmeejbkcaghhgaaDoor
