/- load: All: the keys of a map, sorted. -/
import Derived.Test.YteeihjdkenlebaaE3
import Derived.Test.YteeihjdkenlebaaShelf
namespace Go.Proofs.Yteeihjdkenlebaa
open Go.RowKit Go.Maps Go.Sort Go.Shelf
set_option linter.unusedVariables false
set_option linter.unusedSimpArgs false
set_option maxRecDepth 100000

def inC (x : Int) : List Value := [.int .i64 x]
def InI (x : Int) : Prop := (Lit.int .i64 x).wf = true
theorem rowIn : RowC 45 3 inC InI 0 (.int .i64 0) 1 8 where
  len x := rfl
  pos := by omega
  zs := rfl
  byl := by omega
  info := by kernel_rfl
  under := Try.underlying45
  elem := by kernel_rfl
  size w := by kernel_rfl
  one x u hu := by
    simp [inC] at hu
    subst hu
    rfl
theorem in_cells (l : List Int) : cellsL inC l = l.map encZ := by
  induction l with
  | nil => rfl
  | cons x t ih => show [Value.int .i64 x] ++ cellsL inC t = _; rw [ih]; rfl
theorem srt_le : ∀ {l : List Int}, l.Pairwise (fun a b => leI a b = true) → l.Nodup → l.Pairwise (fun a b => a < b) := by
  intro l h hn
  refine (h.and hn).imp fun {a b} hab => ?_
  have h1 := hab.1
  simp only [leI, decide_eq_true_eq] at h1
  have h2 : a ≠ b := hab.2
  omega
theorem map_keys {w : World} {b n : Nat} {f : Int → Option Int} {D : DataW Unit} (hown : w.ownsMap Try.prog 3 (plainElem Try.prog 3) b n D) (h3 : ∀ x : Int, (Lit.int .i64 x).wf = true → Maps.has D (.int .i64 x) = (f x).isSome) {ss : List Int} (hp : ss.Perm (intKeys D)) :
    (ss.Nodup ∧ ∀ x, x ∈ ss ↔ (Lit.int .i64 x).wf = true ∧ (f x).isSome = true) ∧ ss.length = Maps.size D := by
  obtain ⟨es, hD, hpw, _⟩ := hown.entries (int_keyed Try.underlying3)
  obtain ⟨es', hD', hko⟩ := hown.keysOf
  obtain rfl : es = es' := by rw [hD] at hD'; simpa using hD'
  subst hD
  have hk : ∀ p ∈ es, ∃ x, p.1 = .int .i64 x := fun p hp => by obtain ⟨v, hv⟩ := hko p hp; obtain ⟨x, _, hx, _⟩ := Maps.keyOf_i64 Try.underlying3 hv; exact ⟨x, hx⟩
  have hnd : (es.map fun p => Go.intOf p.1).Nodup := by
    refine List.pairwise_map.2 (hpw.imp_of_mem fun {p q} hp' hq' hne e => hne ?_)
    obtain ⟨a, ha⟩ := hk p hp'
    obtain ⟨b, hb⟩ := hk q hq'
    rw [ha, hb] at e ⊢
    exact congrArg _ e
  have hwf := intKeys_wf hown Try.underlying3
  have hmem : ∀ x, x ∈ intKeys (.map es) ↔ Maps.has (.map es) (.int .i64 x) = true := fun x => by
    rw [has_eq, List.any_eq_true]
    show x ∈ (es.map fun p => Go.intOf p.1) ↔ _
    rw [List.mem_map]
    constructor
    · rintro ⟨p, hp', rfl⟩
      obtain ⟨a, ha⟩ := hk p hp'
      exact ⟨p, hp', by rw [ha]; simp [Lit.sameKey, Go.intOf]⟩
    · rintro ⟨p, hp', hs⟩
      obtain ⟨a, ha⟩ := hk p hp'
      rw [ha] at hs
      exact ⟨p, hp', by rw [ha]; simpa [Lit.sameKey, Go.intOf] using hs⟩
  refine ⟨⟨(hp.nodup_iff).2 hnd, fun x => ?_⟩, by rw [hp.length_eq]; simp [intKeys, Maps.size]⟩
  rw [hp.mem_iff]
  constructor
  · intro hx
    have h1 := hwf x hx
    exact ⟨h1, by rw [← h3 x h1]; exact (hmem x).1 hx⟩
  · rintro ⟨h1, h2⟩
    exact (hmem x).2 (by rw [h3 x h1]; exact h2)
theorem sorts_A (m : Nat) : AnyZI.SortsIn Try.prog Try.sortedA_ren Fence.wide m :=
  ⟨fun blk off cap ss W hH hblk hsz => callsIn_wide.2 (AnyM.slices_Sort_int Try.sortA blk off cap ss W hH hblk hsz),
   fun p cap W => callsIn_wide.2 (AnyM.slices_Sort_int_none Try.sortA p cap W)⟩
theorem ldkeys_any (w : World) (b : Nat) : Calls Try.prog 37 #[.map (some b)] w fun e w' => e = .returned (.func (.func 45) #[] #[.pointer (some ⟨w.heap.size, 0, none⟩)]) ∧ w' = w.alloc (.cells #[.map (some b)] 65) :=
  callsIn_wide.1 (AnyZI.keys_in Try.keysA Fence.wide 5 trivial rfl (some b) w)
/-- The keys, in order. -/
structure KeyL (f : Int → Option Int) (l : List Int) : Prop where
  intro ::
  srt : l.Pairwise (fun x y => x < y)
  mem : ∀ x, x ∈ l ↔ (Lit.int .i64 x).wf = true ∧ (f x).isSome = true
set_option maxHeartbeats 4000000 in
theorem ldsorted_any (w : World) (b n s : Nat) (f : Int → Option Int) (hm : MapI w b n s f) (hn : n < 1000000) :
    Calls Try.prog 36 #[.func (.func 45) #[] #[.pointer (some ⟨w.heap.size, 0, none⟩)]] (w.alloc (.cells #[.map (some b)] 65)) fun e w' => ∃ q c l, e = .returned (.slice q l.length c) ∧ KeyL f l ∧ LAt inC InI 0 1 w' q l ∧ l.length ≤ c ∧ l.length ≤ n ∧ Below w.heap.size w w' := by
  have hsz := hm.size_le
  obtain ⟨D, hown, hD, h3⟩ := hm
  have hbl := hown.lt
  have hseq : SeqGives Fence.wide 2 Try.prog 45 #[.pointer (some ⟨w.heap.size, 0, none⟩)] encZ (fun ss => ss.Perm (intKeys D)) (Maps.size D) (w.alloc (.cells #[.map (some b)] 65)) :=
    AnyZI.keys_gives (ρ := Try.keysA_ren) { Try.keysA with } Fence.wide _ trivial rfl (by omega) w.heap.size b n D _ (by simp) (by simp) (by
      obtain ⟨es, clock, hb, Ft, hs, hD⟩ := hown
      exact ⟨es, clock, (Below.heap_alloc _ _ b hbl).trans hb, Ft, hs, hD⟩)
  have cS := AnyZI.sorted_in Try.sortedA Fence.wide 5 trivial trivial trivial trivial rfl (by omega) (sorts_A _) (enters_of Try.func44 (by kernel_rfl) rfl) 45 #[.pointer (some ⟨w.heap.size, 0, none⟩)] trivial (enters_of Try.func45 (by kernel_rfl) rfl) _ _ (by unfold maxLen; omega) (by omega) _ hseq
  refine (callsIn_wide.1 cS).mono ?_
  rintro e w' ⟨v, ss, rfl, hS, hrow, hnil, hb⟩
  obtain ⟨hk, hkl⟩ := map_keys hown (fun x hx => (h3 x hx).1) ((List.mergeSort_perm ss leI).trans hS)
  have hlen : (ss.mergeSort leI).length = ss.length := List.length_mergeSort ss
  obtain ⟨q, c, rfl, hc1, hc2⟩ := rowL_form hrow
  rw [← in_cells, ← hlen] at hrow
  have hL : LOwn 3 inC InI 1 w' (w.alloc (.cells #[.map (some b)] 65)).heap.size q (ss.mergeSort leI).length c (ss.mergeSort leI) := ⟨rfl, fun x hx => ((hk.2 x).1 hx).1, by rw [hlen] at hrow ⊢; exact hrow⟩
  refine ⟨q, c, ss.mergeSort leI, by rw [hlen], ⟨srt_le (List.pairwise_mergeSort (fun a b c h1 h2 => by simp only [leI, decide_eq_true_eq] at *; omega) (fun a b => by simp only [leI, Bool.or_eq_true, decide_eq_true_eq]; omega) ss) hk.1, hk.2⟩, hL.at rowIn, by rw [hlen]; exact hc1, ?_, ?_⟩
  · rw [hkl, hD]; exact hsz
  · exact (newB w _).trans (hb.mono (newB w _).size)
/-- Loads of keys, in their order. -/
theorem keys_all {f : Int → Option Int} (hw : ∀ i v, f i = some v → (Lit.int .i64 i).wf = true) {l : List Int} (h : KeyL f l) : AllL f (l.map fun i => ⟨i, (f i).getD 0⟩) := by
  refine ⟨List.pairwise_map.2 (h.srt.imp fun hab => hab), fun i v => ?_⟩
  rw [List.mem_map]
  constructor
  · rintro ⟨x, hx, e⟩
    simp only [Lo.intro.injEq] at e
    obtain ⟨rfl, rfl⟩ := e
    have := ((h.mem x).1 hx).2
    rcases hf : f x with _ | u
    · rw [hf] at this; cases this
    · rfl
  · intro hf
    exact ⟨i, (h.mem i).2 ⟨hw i v hf, by rw [hf]; rfl⟩, by rw [hf]; rfl⟩
theorem in_cell {w : World} {p : Option Addr} {l : List Int} {n k : Nat} (h : LAt inC InI 0 1 w p l) (hn : l.length = n) (hk : k < n) : ∃ b off, p = some ⟨b, off, none⟩ ∧ w.cell? ⟨b, off + k, none⟩ = some (.int .i64 (l.getD k 0)) := by
  obtain ⟨b, off, rfl, hc⟩ := h.cell hn hk
  have := hc 0 _ rfl
  rw [Nat.mul_one] at this
  exact ⟨b, off, rfl, this⟩
theorem lo_one (w : World) (x : Lo) (hx : InLo x) : LosAt (w.alloc (.cells #[.int .i64 x.i, .int .i64 x.n] 63)) (some ⟨w.heap.size, 0, none⟩) [x] :=
  (LOwn.lit rowLo w 0 [x] (fun y hy => by simp at hy; rw [hy]; exact hx) (Nat.zero_le _) (by unfold maxLen; simp)).at rowLo
set_option maxHeartbeats 4000000 in
theorem ldall_any (w : World) (g b n s : Nat) (f : Int → Option Int) (ov : Bool) (H : LdAt w g b n s f ov) (hn : n < 1000000) (hw : ∀ i v, f i = some v → (Lit.int .i64 i).wf = true) :
    Calls Try.prog 15 #[.pointer (some ⟨g, 0, none⟩)] w fun e w' => ∃ q c l, e = .returned (.slice q l.length c) ∧ AllL f l ∧ LosAt w' q l ∧ l.length ≤ c ∧ l.length ≤ n ∧ Below w.heap.size w w' := by
  obtain ⟨c0, c1⟩ := H.at0
  have HC := Lib.hid (ldclosed_any w g b c0)
  have HK := Lib.hid (fun u => ldkeys_any u b)
  have HS := Lib.hid (ldsorted_any w b n s f H.map hn)
  have HH := Lib.hid H
  have HW := Lib.hid hw
  clear H hw
  go_enter Try.func15, Try.ntmps15
  go_wp2_with (first | (go_at_call 35; refine HC.out.mono ?_; rintro e w' ⟨rfl, rfl⟩) | (go_at_call 37; refine (HK.out _).mono ?_; rintro e w' ⟨rfl, rfl⟩) | (go_at_call 36; refine HS.out.mono ?_; rintro e V ⟨q, c, L, rfl, hkl, hat, hcc, hll, hb⟩))
  have HKL := Lib.hid hkl
  have HAT := Lib.hid hat
  have HCC := Lib.hid hcc
  have HLL := Lib.hid hll
  have HB := Lib.hid hb
  obtain ⟨m, hm⟩ : ∃ m, L.length = m := ⟨_, rfl⟩
  have HM := Lib.hid hm
  rw [hm]
  clear hkl hat hcc hll hb c0 c1 hm HC HK HS
  go_wp2_with fail
  go_loopw [15, 3] (fun i al wr => ∃ k : Nat, k ≤ m ∧ i = .int .i64 k ∧ (∃ q' c', al = .slice q' k c' ∧ LosOwn wr V.heap.size q' k c' ((L.take k).map fun i => (⟨i, (f i).getD 0⟩ : Lo))) ∧ Below V.heap.size V wr) (fun i _ _ => m - (intOf i).toNat)
  case atStart => exact ⟨0, Nat.zero_le _, rfl, ⟨none, 0, rfl, by rw [List.take_zero]; exact LOwn.nil _ _ _ _ _ _⟩, Below.refl _ _⟩
  case round =>
    obtain ⟨k, hk, rfl, ⟨q', c', rfl, hO⟩, hB2⟩ := hrel
    have HO := Lib.hid hO
    have HB2 := Lib.hid hB2
    clear hO hB2
    by_cases hlt : k < m
    · have hltI : (k : Int) < (m : Int) := by omega
      have HBW := Lib.hid (HB.out.trans (HB2.out.mono HB.out.size))
      obtain ⟨r, off, rfl, e0⟩ := in_cell (HAT.out.below HB2.out) HM.out hlt
      obtain ⟨y, hy⟩ : ∃ y, L.getD k 0 = y := ⟨_, rfl⟩
      rw [hy] at e0
      have hyl : y ∈ L := by rw [← hy]; simp [List.getD, show k < L.length by have := HM.out; omega]
      obtain ⟨hyw, hys⟩ := (HKL.out.mem y).1 hyl
      have hHX : (L.take (k + 1)).map (fun i => (⟨i, (f i).getD 0⟩ : Lo)) = (L.take k).map (fun i => (⟨i, (f i).getD 0⟩ : Lo)) ++ [⟨y, (f y).getD 0⟩] := by
        have e : L.take (k + 1) = L.take k ++ [y] := by rw [List.take_add_one, ← hy]; simp [List.getD, show k < L.length by have := HM.out; omega]
        rw [e, List.map_append]; rfl
      obtain ⟨v, hv⟩ : ∃ v, (f y).getD 0 = v := ⟨_, rfl⟩
      have hbd := loadV_bd HH.out.ok y
      have hHL := HH.out.next HBW.out
      have c0 := hHL.at0.1
      have hlk := hHL.map.look Try.underlying65 hyw
      rw [hv] at hlk hbd hHX
      have HX := Lib.hid hHX
      have LIT := Lib.hid (lo_one wr ⟨y, v⟩ ⟨hyw, wf_cap hbd.1 hbd.2⟩)
      have OW := Lib.hid (HO.out.below (newB wr (.cells #[.int .i64 y, .int .i64 v] 63)))
      have HSZ := Lib.hid (show V.heap.size ≤ (wr.alloc (.cells #[.int .i64 y, .int .i64 v] 63)).heap.size from Nat.le_trans HB2.out.size (newB wr _).size)
      have HN := Lib.hid (newB wr (.cells #[.int .i64 y, .int .i64 v] 63))
      have hm9 : m < 1000000 := Nat.lt_of_le_of_lt (by have h1 := HLL.out; have h2 := HM.out; omega) hn
      clear hy hyl hyw hys hv hbd hHL hHX
      go_wp2_with (refine wpList_appL (o := ⟨some 29, _, _, _, _, _⟩) rowLo (by kernel_rfl) (.tmp 19) (.tmp 28) rfl V.heap.size q' k c' _ OW.out rfl (some ⟨wr.heap.size, 0, none⟩) 1 1 [⟨y, v⟩] LIT.out rfl rfl (k + 1) rfl (by omega) HSZ.out ?_; intro q3 cap3 w3 hO3 hB3)
      go_roundw
      case rel =>
        refine ⟨k + 1, by omega, by go_num, ⟨q3, cap3, rfl, ?_⟩, (HB2.out.trans (HN.out.mono HB2.out.size)).trans hB3.out⟩
        rw [HX.out]
        exact hO3.out
      case measure => simp [intOf]; omega
    · obtain rfl : k = m := by omega
      go_wp2_with fail
      go_ret
      have e : L.take k = L := List.take_of_length_le (by rw [HM.out]; exact Nat.le_refl _)
      have ho := HO.out
      rw [e] at ho
      have hl := HLL.out
      refine ⟨q', c', L.map fun i => ⟨i, (f i).getD 0⟩, by rw [List.length_map, HM.out]; rfl, keys_all HW.out HKL.out, ho.at rowLo, ?_, by rw [List.length_map]; exact hl, HB.out.trans (HB2.out.mono HB.out.size)⟩
      rw [List.length_map, HM.out]
      exact ho.cap_.1
end Go.Proofs.Yteeihjdkenlebaa
