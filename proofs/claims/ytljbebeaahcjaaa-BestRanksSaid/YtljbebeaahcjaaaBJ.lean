/- best: Rank is in rank. -/
import Derived.Test.YtljbebeaahcjaaaBI
namespace Go.Proofs.Ytljbebeaahcjaaa
open Go.RowKit Go.Maps Go.Sort Go.Shelf
set_option linter.unusedVariables false
set_option linter.unusedSimpArgs false
set_option maxRecDepth 100000
theorem key_drop (K : Nat) (O : List Rv) (i d : Nat) : keyAt K (O.drop i) (d : Int) = keyV K (O.getD (i + d) Rv.zero) := by
  unfold keyAt
  rw [Int.toNat_natCast]
  congr 1
  simp [List.getD]
theorem as_drop (O : List Rv) (i d : Nat) : asAt (O.drop i) (d : Int) = firstL (O.getD (i + d) Rv.zero).x.L := by
  unfold asAt
  rw [Int.toNat_natCast]
  congr 3
  simp [List.getD]
/-- Of the one at k: its standing. -/
structure StandsAt (M N : List St) (O : List Rv) (n k j : Nat) (q : Int) : Prop where
  intro ::
  lt : j < n
  pos : N.idxOf (waitF M j) = k
  tier : tierK (M.getD j St.zero) = [keyV 0 (O.getD k Rv.zero), keyV 1 (O.getD k Rv.zero), keyV 2 (O.getD k Rv.zero)]
  as_ : (M.getD j St.zero).a = firstL (O.getD k Rv.zero).x.L
  med : (M.getD j St.zero).m = keyV 3 (O.getD k Rv.zero)
  turn : turnK (M.getD j St.zero) = [keyV 4 (O.getD k Rv.zero), keyV 5 (O.getD k Rv.zero)] ++ [q]
theorem stands_at {l O : List Rv} {n : Nat} {M N : List St} (hl : l.length = n) (hO : O.length = n) (hp : (standL l n).Perm M) (hq : (waitL M n).Perm N) (hlike : ∀ k, k < n → RvLike (l.getD ((N.map (fun x => x.p.toNat)).getD k 0) Rv.zero) (O.getD k Rv.zero)) (hs1 : ∀ y ∈ l, SegsOk y.x.L) (hs2 : ∀ y ∈ O, SegsOk y.x.L) {k : Nat} (hk : k < n) : ∃ j q, StandsAt M N O n k j q := by
  have hn : M.length = n := by rw [← hp.length_eq, standL_len]
  have hnN : N.length = n := by rw [← hq.length_eq, waitL_len]
  have hNd : N.Nodup := hq.nodup_iff.1 (waitL_nodup hp)
  have hx : N[k]'(by omega) ∈ waitL M n := (hq.mem_iff).2 (List.getElem_mem _)
  unfold waitL at hx
  obtain ⟨j, hj, hjk⟩ := List.mem_map.1 hx
  have hj := List.mem_range.1 hj
  have hMj := (hp.mem_iff).2 (getD_mem hn hj)
  unfold standL at hMj
  obtain ⟨q, hq1, hqe⟩ := List.mem_map.1 hMj
  have hq1 := List.mem_range.1 hq1
  have hB : (N.map (fun x => x.p.toNat)).getD k 0 = q := by
    have : (N.map (fun x => x.p.toNat)).getD k 0 = (N[k]'(by omega)).p.toNat := by simp [List.getD, show k < N.length by omega]
    rw [this, ← hjk, waitF_p, ← hqe]
    show ((q : Nat) : Int).toNat = q
    omega
  have hlk := hlike k hk
  rw [hB] at hlk
  have hm1 : l.getD q Rv.zero ∈ l := by
    rw [show l.getD q Rv.zero = l[q]'(by omega) by simp [List.getD, show q < l.length by omega]]; exact List.getElem_mem _
  have hm2 : O.getD k Rv.zero ∈ O := by
    rw [show O.getD k Rv.zero = O[k]'(by omega) by simp [List.getD, show k < O.length by omega]]; exact List.getElem_mem _
  obtain ⟨hkey, has⟩ := keyV_like hlk (hs1 _ hm1) (hs2 _ hm2)
  refine ⟨j, (q : Int), hj, ?_, ?_, ?_, ?_, ?_⟩
  · rw [hjk]; exact hNd.idxOf_getElem k (by omega)
  · rw [← hqe, hkey, hkey, hkey]; rfl
  · rw [← hqe, has]; rfl
  · rw [← hqe, hkey]; rfl
  · rw [← hqe, hkey, hkey]; rfl
theorem rank_first {l O : List Rv} {n : Nat} {B : List Nat} (hR : RankB l n B) (hl : l.length = n) (hO : O.length = n) (hlike : ∀ k, k < n → RvLike (l.getD (B.getD k 0) Rv.zero) (O.getD k Rv.zero)) (hs1 : ∀ y ∈ l, SegsOk y.x.L) (hs2 : ∀ y ∈ O, SegsOk y.x.L) {i : Nat} (hi : i < n) : ∃ t, bestL (O.drop i) (n - i) = 0 :: t := by
  obtain ⟨M, N, hp, hM, hq, hN, rfl⟩ := hR
  have W := rank_waits hp hM hq hN
  have hnN : N.length = n := by rw [← hq.length_eq, waitL_len]
  have HS : ∀ k, k < n → ∃ j q, StandsAt M N O n k j q := fun k hk => stands_at hl hO hp hq hlike hs1 hs2 hk
  have tiers : ∀ d, (keysA (O.drop i)).map (· d) = [keyV 0 (O.getD (i + d) Rv.zero), keyV 1 (O.getD (i + d) Rv.zero), keyV 2 (O.getD (i + d) Rv.zero)] := fun d => by
    unfold keysA
    simp only [List.map_cons, List.map_nil, key_drop]
  obtain ⟨a, qa, ha⟩ := HS i hi
  refine best_first (by omega) (fun d hd => ?_) (fun d hd ht hs => ?_) (fun d hd ht hm => ?_)
  · obtain ⟨b, qb, hb⟩ := HS (i + d) (by omega)
    rw [tiers, tiers, Nat.add_zero, ← ha.tier, ← hb.tier]
    refine leL_of (by rfl) ?_
    rcases Nat.eq_zero_or_pos d with e | e
    · subst e
      have : a = b := W.one a b ha.lt hb.lt (by show N.idxOf _ = N.idxOf _; rw [ha.pos, hb.pos]; rfl)
      subst this
      exact fun h => by rw [cmpL_self] at h; omega
    · exact (W.placed a b ha.lt hb.lt (by show N.idxOf _ < N.idxOf _; rw [ha.pos, hb.pos]; omega)).1
  · obtain ⟨b, qb, hb⟩ := HS (i + d) (by omega)
    rw [tiers, tiers, Nat.add_zero, ← ha.tier, ← hb.tier] at ht
    rw [show (0 : Int) = ((0 : Nat) : Int) from rfl, as_drop, as_drop, Nat.add_zero, ← ha.as_, ← hb.as_] at hs
    rw [show (0 : Int) = ((0 : Nat) : Int) from rfl, key_drop, key_drop, Nat.add_zero, ← ha.med, ← hb.med]
    refine W.med ha.lt hb.lt (by show N.idxOf _ ≤ N.idxOf _; rw [ha.pos, hb.pos]; omega) ?_
    show grpK _ = grpK _
    unfold tierK at ht
    unfold grpK
    simp only [List.cons.injEq, and_true] at ht ⊢
    exact ⟨ht.1, ht.2.1, ht.2.2, hs⟩
  · obtain ⟨b, qb, hb⟩ := HS (i + d) (by omega)
    have ht0 := ht
    rw [tiers, tiers, Nat.add_zero, ← ha.tier, ← hb.tier] at ht
    have hT := W.turn ha.lt hb.lt (by show N.idxOf _ ≤ N.idxOf _; rw [ha.pos, hb.pos]; omega) ht.symm (fun c hc hpc hgc => by
      have hpc : N.idxOf (waitF M a) ≤ N.idxOf (waitF M c) := hpc
      have hck : N.idxOf (waitF M c) < n := by
        rw [← hnN]
        refine List.idxOf_lt_length_iff.2 ((hq.mem_iff).1 ?_)
        obtain ⟨h1, h2⟩ := List.getElem?_eq_some_iff.1 (waitL_at (M := M) hc)
        rw [← h2]; exact List.getElem_mem _
      obtain ⟨c2, qc, hc2⟩ := HS _ hck
      have : c2 = c := W.one c2 c hc2.lt hc hc2.pos
      subst this
      rw [ha.pos] at hpc
      obtain ⟨d2, hd2⟩ : ∃ d2, N.idxOf (waitF M c2) = i + d2 := ⟨_, (Nat.add_sub_cancel' hpc).symm⟩
      rw [hd2] at hc2 hck
      have hgc : grpK (M.getD c2 St.zero) = grpK (M.getD b St.zero) := hgc
      have htc : tierK (M.getD c2 St.zero) = tierK (M.getD b St.zero) := W.same c2 b hc2.lt hb.lt hgc
      have := hm d2 (by omega) (by rw [tiers, tiers, Nat.add_zero, ← ha.tier, ← hc2.tier, htc, ht]) (by
        rw [as_drop, as_drop, ← hb.as_, ← hc2.as_]
        unfold grpK at hgc
        simp only [List.cons.injEq, and_true] at hgc
        exact hgc.2.2.2)
      rw [key_drop, key_drop, ← hb.med, ← hc2.med] at this
      exact this)
    have hT : leK (turnK (M.getD a St.zero)) (turnK (M.getD b St.zero)) := hT
    rw [ha.turn, hb.turn] at hT
    rw [show (0 : Int) = ((0 : Nat) : Int) from rfl, key_drop, key_drop, key_drop, key_drop, Nat.add_zero]
    exact leL_of (by rfl) (leK_app (by rfl) hT).1
end Go.Proofs.Ytljbebeaahcjaaa
