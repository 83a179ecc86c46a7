/- best: standings sorted, and stably. -/
import Derived.Test.YtljbebeaahcjaaaB6
namespace Go.Proofs.Ytljbebeaahcjaaa
open Go.RowKit Go.Maps Go.Sort Go.Shelf
set_option linter.unusedVariables false
set_option linter.unusedSimpArgs false
set_option maxRecDepth 100000

def cmpL (l m : List Int) : Int := orV (List.zipWith cmpI l m)
theorem cmpL_cons (x y : Int) (l m : List Int) : cmpL (x :: l) (y :: m) = if x < y then -1 else if y < x then 1 else cmpL l m := by
  unfold cmpL
  rw [List.zipWith_cons_cons]
  show (if cmpI x y ≠ 0 then cmpI x y else orV (List.zipWith cmpI l m)) = _
  generalize orV (List.zipWith cmpI l m) = T
  unfold cmpI
  by_cases a : x < y
  · simp [a]
  · by_cases b : y < x <;> simp [a, b]
theorem cmpL_nil : cmpL [] [] = 0 := rfl
theorem cmpL_self : ∀ l : List Int, cmpL l l = 0
  | [] => rfl
  | x :: l => by rw [cmpL_cons, if_neg (by omega), if_neg (by omega)]; exact cmpL_self l
theorem cmpL_trans : ∀ {l m n : List Int}, l.length = m.length → m.length = n.length → cmpL l m < 0 → cmpL m n < 0 → cmpL l n < 0
  | [], [], [], _, _, h, _ => h
  | x :: l, y :: m, z :: n, h1, h2, h, k => by
    rw [cmpL_cons] at h k ⊢
    have ih := @cmpL_trans l m n (by simpa using h1) (by simpa using h2)
    split at h
    · split at k
      · rw [if_pos (by omega)]; omega
      · split at k
        · omega
        · rw [if_pos (by omega)]; omega
    · split at h
      · omega
      · split at k
        · rw [if_pos (by omega)]; omega
        · split at k
          · omega
          · rw [if_neg (by omega), if_neg (by omega)]; exact ih h k
theorem cmpL_ntrans : ∀ {l m n : List Int}, l.length = m.length → m.length = n.length → ¬ cmpL l m < 0 → ¬ cmpL m n < 0 → ¬ cmpL l n < 0
  | [], [], [], _, _, h, _ => h
  | x :: l, y :: m, z :: n, h1, h2, h, k => by
    rw [cmpL_cons] at h k ⊢
    have ih := @cmpL_ntrans l m n (by simpa using h1) (by simpa using h2)
    split at h
    · omega
    · split at h
      · split at k
        · omega
        · split at k
          · rw [if_neg (by omega), if_pos (by omega)]; omega
          · rw [if_neg (by omega), if_pos (by omega)]; omega
      · split at k
        · omega
        · split at k
          · rw [if_neg (by omega), if_pos (by omega)]; omega
          · rw [if_neg (by omega), if_neg (by omega)]; exact ih h k
theorem cmpL_swap : ∀ {l m : List Int}, l.length = m.length → cmpL m l = - cmpL l m
  | [], [], _ => rfl
  | x :: l, y :: m, h => by
    rw [cmpL_cons, cmpL_cons]
    have ih := @cmpL_swap l m (by simpa using h)
    by_cases a : x < y
    · have b : ¬ y < x := by omega
      simp [a, b]
    · by_cases b : y < x
      · simp [a, b]
      · simp [a, b, ih]
theorem cmpL_zero : ∀ {l m : List Int}, l.length = m.length → cmpL l m = 0 → l = m
  | [], [], _, _ => rfl
  | x :: l, y :: m, h, k => by
    rw [cmpL_cons] at k
    split at k
    · omega
    · split at k
      · omega
      · rw [show x = y by omega, cmpL_zero (by simpa using h) k]
theorem orV_or (l r : List Int) : orV (orV l :: r) = orV (l ++ r) := by
  induction l with
  | nil => simp [orV]
  | cons x t ih =>
    rw [List.cons_append]
    by_cases hx : x = 0
    · subst hx
      rw [show orV (0 :: t) = orV t by simp [orV], show orV (0 :: (t ++ r)) = orV (t ++ r) by simp [orV]]
      exact ih
    · rw [show orV (x :: t) = x by simp [orV, hx], show orV (x :: (t ++ r)) = x by simp [orV, hx]]
      simp [orV, hx]
theorem orV_one (x : Int) : orV [x] = x := by simp [orV]; intro h; exact h.symm
def tierK (x : St) : List Int := [x.t0, x.t1, x.t2]
def turnK (x : St) : List Int := [x.u0, x.u1, x.u2]
def asK (x : St) : List Int := [x.t0, x.t1, x.t2, x.a, x.m, x.u0, x.u1, x.u2]
def trK (x : St) : List Int := [x.t0, x.t1, x.t2, x.u0, x.u1, x.u2]
theorem cmp3_l (x0 x1 x2 y0 y1 y2 : Int) : cmp3 (x0, x1, x2) (y0, y1, y2) = cmpL [x0, x1, x2] [y0, y1, y2] := rfl
theorem cmpAS_l (x y : St) : cmpAS x y = cmpL (asK x) (asK y) := by
  unfold cmpAS cmp3
  rw [orV_or]
  show (if _ ≠ 0 then _ else (if _ ≠ 0 then _ else (if _ ≠ 0 then _ else orV [_, _, orV _]))) = _
  rw [show ∀ a b c : Int, orV [a, b, c] = if a ≠ 0 then a else if b ≠ 0 then b else c from fun a b c => by rw [show orV [a, b, c] = if a ≠ 0 then a else if b ≠ 0 then b else orV [c] from rfl, orV_one]]
  rfl
theorem cmpTurn_l (x y : St) : cmpTurn x y = cmpL (trK x) (trK y) := by
  unfold cmpTurn cmp3
  rw [orV_or]
  show (if _ ≠ 0 then _ else (if _ ≠ 0 then _ else (if _ ≠ 0 then _ else orV [orV _]))) = _
  rw [orV_one]
  rfl
theorem swo_of {cf : St → St → Int} {k : St → List Int} {n : Nat} (hl : ∀ x, (k x).length = n) (h : ∀ x y, cf x y = cmpL (k x) (k y)) : SWO (ltOf cf) where
  irrefl x := by unfold ltOf; rw [h, cmpL_self]; rfl
  trans x y z p q := by
    unfold ltOf at *
    rw [decide_eq_true_iff, h] at *
    exact cmpL_trans (by rw [hl, hl]) (by rw [hl, hl]) p q
  ntrans x y z p q := by
    unfold ltOf at *
    rw [decide_eq_false_iff_not, h] at *
    exact cmpL_ntrans (by rw [hl, hl]) (by rw [hl, hl]) p q
theorem cmpAS_swo : SWO (ltOf cmpAS) := swo_of (k := asK) (n := 8) (fun _ => rfl) cmpAS_l
theorem cmpTurn_swo : SWO (ltOf cmpTurn) := swo_of (k := trK) (n := 6) (fun _ => rfl) cmpTurn_l
instance : Inhabited St := ⟨St.zero⟩
theorem st_isAgg (w : World) : (isAgg 57).run Try.prog w = .ok true w := by kernel_rfl
theorem st_sizeOf (w : World) : (Go.sizeOf 57).run Try.prog w = .ok 9 w := by kernel_rfl
theorem st_one (x : St) : ∀ u ∈ stC x, u.oneCell' = true := rowSt.one x
theorem as_cmpLays (blk off size : Nat) (w : World) : CmpLays Try.prog 21 #[] stC 9 cmpAS blk off size w := fun m os dk _ x y => byAS_gr x y (sortWorldK stC 9 w blk off m dk os)
theorem tr_cmpLays (blk off size : Nat) (w : World) : CmpLays Try.prog 24 #[] stC 9 cmpTurn blk off size w := fun m os dk _ x y => byTurn_gr x y (sortWorldK stC 9 w blk off m dk os)
theorem st_getD (ss : List St) (i : Nat) (h : i < ss.length) : ss.toArray[i]! = ss.getD i St.zero := by
  simp [List.getD, h]
theorem StsAt.holds {w : World} {R : Nat} {L : List St} (h : StsAt w R L) : HoldsK stC 9 w R 0 L.toArray := by
  refine fun t ht => ?_
  have ht' : t < L.length * 9 := by simpa using ht
  have hi : t / 9 < L.length := by omega
  have e := get_flatK stC 9 L.toArray t (by simpa using ht')
  rw [st_getD L _ hi] at e
  have hv : ∃ v, (stC (L.getD (t / 9) St.zero))[t % 9]? = some v := ⟨_, List.getElem?_eq_getElem (by rw [rowSt.len]; omega)⟩
  obtain ⟨v, hv⟩ := hv
  have hc := h.cells (t / 9) hi (t % 9) v hv
  rw [show t / 9 * 9 + t % 9 = t by omega] at hc
  constructor
  · rw [e, show (⟨R, 0 + t, none⟩ : Addr) = ⟨R, t, none⟩ by rw [Nat.zero_add], hc.1]
    simp only [List.getElem!_eq_getElem?_getD, hv, Option.getD_some]
    rfl
  · rw [show (⟨R, 0 + t, none⟩ : Addr) = ⟨R, t, none⟩ by rw [Nat.zero_add]]; exact hc.2
theorem StsAt.of_holds {w : World} {R : Nat} {L : List St} (h : HoldsK stC 9 w R 0 L.toArray) (hlt : R < w.heap.size) : StsAt w R L := by
  refine ⟨hlt, fun i hi j v hv => ?_⟩
  have hj : j < 9 := (List.getElem?_eq_some_iff.1 hv).1
  have hc := h.cell (i := i) (c := j) (by simpa using hi) hj
  rw [st_getD L i hi, show 0 + i * 9 + j = i * 9 + j by omega] at hc
  refine ⟨?_, hc.2⟩
  rw [hc.1]
  simp only [List.getElem!_eq_getElem?_getD, hv, Option.getD_some]
theorem turns_grow {S : Nat → Prop} {a w : World} (h : Turns S a w) (os : Array Obj) : Turns S a (grow w os) := by
  refine h.trans (.of_below ?_)
  refine ⟨rfl, rfl, rfl, ?_, fun b hb => ?_⟩
  · simp
  · show (w.heap ++ os)[b]? = w.heap[b]?
    rw [Array.getElem?_append_left hb]
theorem sort_turns (w : World) (g m : Nat) (d : Array St) (os : Array Obj) : Turns (fun k => k = g) w (sortWorldK stC 9 w g 0 m d os) := by
  unfold sortWorldK
  refine turns_grow (a := w) (w := putRowK stC 9 (Sort.ahead w m) g 0 d) ⟨rfl, rfl, rfl, ?_, fun b hb hn => ?_⟩ os
  · unfold putRowK; simp
  · unfold putRowK putRow mapBlock
    show (Array.modify w.heap g _)[b]? = w.heap[b]?
    rw [Array.getElem?_modify, if_neg (fun e => hn e.symm)]
theorem perm_ofIn {L : List St} {d : Array St} {n : Nat} (hn : L.length = n) (hp : PermIn 0 n L.toArray d) : d.size = n ∧ L.Perm d.toList := by
  obtain ⟨hsz, _, hperm⟩ := hp
  have hs : d.size = n := by rw [hsz]; simpa using hn
  have e1 : d.extract 0 n = d := by rw [← hs]; exact Array.extract_size
  have e2 : L.toArray.extract 0 n = L.toArray := by rw [show n = L.toArray.size by simp [hn]]; exact Array.extract_size
  rw [e1, e2] at hperm
  exact ⟨hs, hperm.symm⟩
theorem sorted_ofIn {lt : St → St → Bool} {d : Array St} {n : Nat} (hs : d.size = n) (h : SortedIn lt 0 n d) : d.toList.Pairwise (fun x y => lt y x = false) := by
  rw [List.pairwise_iff_getElem]
  intro i j hi hj hij
  have hj' : j < d.size := by simpa using hj
  have hi' : i < d.size := by omega
  have := h i j (Nat.zero_le _) hij (by omega)
  rw [getElem!_pos d i hi', getElem!_pos d j hj'] at this
  simpa using this
/-- slices.SortFunc at standings. -/
theorem sortAS_any (w : World) (R n cap : Nat) (L : List St) (h : StsAt w R L) (hn : L.length = n) (hn6 : n ≤ 1000000) :
    Calls Try.prog 20 #[.slice (some ⟨R, 0, none⟩) n cap, .func (.func 21) #[] #[]] w fun e w' =>
      e = .returned (.tuple #[]) ∧ ∃ M : List St, L.Perm M ∧ M.Pairwise (fun x y => ltOf cmpAS y x = false) ∧ StsAt w' R M ∧ Turns (fun k => k = R) w w' := by
  have eg : ∀ args w, (callFunc 21 args).run Try.prog w = .ok (.enter 21 args) w := enters_of Try.func21 (by kernel_rfl) rfl
  have hcon := AnyQ.slices_SortFunc Try.sortK 9 st_isAgg st_sizeOf stC (fun _ => rfl) st_one cmpAS cmpAS_swo 21 #[] R 0 cap L.toArray w eg (as_cmpLays R 0 _ w) h.holds h.lt (by simp; omega)
  simp only [List.size_toArray, hn] at hcon
  refine Calls.mono hcon fun e w' ⟨he, d', m, os, hp, hs, hw⟩ => ?_
  obtain ⟨hd, hL⟩ := perm_ofIn hn hp
  refine ⟨he, d'.toList, hL, sorted_ofIn hd hs, ?_, by rw [hw]; exact sort_turns w R m d' os⟩
  rw [hw]
  refine StsAt.of_holds ?_ ?_
  · rw [show d'.toList.toArray = d' by simp]
    exact holdsK_sortWorldK stC 9 w R 0 m L.toArray d' os h.lt h.holds (by simp [hd, hn])
  · exact Nat.lt_of_lt_of_le h.lt (sort_turns w R m d' os).size
/-- slices.SortStableFunc at standings: those of one turn stay as they are. -/
theorem sortTR_any (w : World) (R n cap : Nat) (L : List St) (h : StsAt w R L) (hn : L.length = n) (hn6 : n ≤ 1000000) (hd : L.Nodup) :
    Calls Try.prog 23 #[.slice (some ⟨R, 0, none⟩) n cap, .func (.func 24) #[] #[]] w fun e w' =>
      e = .returned (.tuple #[]) ∧ ∃ M : List St, L.Perm M ∧ M.Pairwise (fun x y => ltT (ltOf cmpTurn) (fun z => L.idxOf z) y x = false) ∧ StsAt w' R M ∧ Turns (fun k => k = R) w w' := by
  have eg : ∀ args w, (callFunc 24 args).run Try.prog w = .ok (.enter 24 args) w := enters_of Try.func24 (by kernel_rfl) rfl
  have hcon := sortStable_any (α := St) 9 st_isAgg st_sizeOf stC cmpTurn cmpTurn_swo (fun z => L.idxOf z) 24 #[] R 0 cap L.toArray w eg (tr_cmpLays R 0 _ w) ⟨fun _ => rfl, st_one, h.holds, h.lt⟩ w n (by simpa using hn) (SWK.start h.holds) (by simp; omega) (fun p q hpq hq => by
    have hq' : q < L.length := by simpa using hq
    rw [getElem!_pos L.toArray p (by simp; omega), getElem!_pos L.toArray q (by simpa using hq')]
    simp only [List.getElem_toArray]
    rw [hd.idxOf_getElem p (by omega), hd.idxOf_getElem q hq']
    exact hpq)
  refine Calls.mono hcon fun e w' ⟨he, d', hp, hs, hS⟩ => ?_
  rw [show L.toArray.size = n by simpa using hn] at hp hs
  obtain ⟨hdn, hL⟩ := perm_ofIn hn hp
  obtain ⟨m, os, hw⟩ := hS
  refine ⟨he, d'.toList, hL, sorted_ofIn hdn hs, ?_, by rw [hw]; exact sort_turns w R m d' os⟩
  rw [hw]
  refine StsAt.of_holds ?_ ?_
  · rw [show d'.toList.toArray = d' by simp]
    exact holdsK_sortWorldK stC 9 w R 0 m L.toArray d' os h.lt h.holds (by simp [hdn, hn])
  · exact Nat.lt_of_lt_of_le h.lt (sort_turns w R m d' os).size
end Go.Proofs.Ytljbebeaahcjaaa
