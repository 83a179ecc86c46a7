/- best: Rank, in numbers. -/
import Derived.Test.YtljbebeaahcjaaaB7
namespace Go.Proofs.Ytljbebeaahcjaaa
open Go.RowKit Go.Maps Go.Sort Go.Shelf
set_option linter.unusedVariables false
set_option linter.unusedSimpArgs false
set_option maxRecDepth 100000

def standL (l : List Rv) (n : Nat) : List St := (List.range n).map fun i : Nat => standV (i : Int) (l.getD i Rv.zero)
def waitF (M : List St) : Nat → St
  | 0 => M.getD 0 St.zero
  | i + 1 => waitV (M.getD (i + 1) St.zero) (waitF M i)
def waitL (M : List St) (n : Nat) : List St := (List.range n).map (waitF M)
def RankB (l : List Rv) (n : Nat) (B : List Nat) : Prop := ∃ M N : List St, (standL l n).Perm M ∧ M.Pairwise (fun x y => ltOf cmpAS y x = false) ∧ (waitL M n).Perm N ∧ N.Pairwise (fun x y => ltT (ltOf cmpTurn) (fun z => (waitL M n).idxOf z) y x = false) ∧ B = N.map (fun x => x.p.toNat)
theorem waitV_p (x o : St) : (waitV x o).p = x.p := by unfold waitV; rcases waitB x o with _ | _ <;> rfl
theorem waitF_p (M : List St) (i : Nat) : (waitF M i).p = (M.getD i St.zero).p := by
  cases i with
  | zero => rfl
  | succ i => exact waitV_p _ _
theorem getD_ext {L : List St} {n : Nat} (hn : L.length = n) {f : Nat → St} (h : ∀ i, i < n → L.getD i St.zero = f i) : L = (List.range n).map f := by
  apply List.ext_getElem (by simp [hn])
  intro i h1 h2
  have := h i (by omega)
  rw [List.getElem_map, List.getElem_range, ← this]
  simp [List.getD, h1]
theorem standL_len (l : List Rv) (n : Nat) : (standL l n).length = n := by simp [standL]
theorem waitL_len (M : List St) (n : Nat) : (waitL M n).length = n := by simp [waitL]
theorem standL_p (l : List Rv) (n : Nat) : (standL l n).map St.p = (List.range n).map (fun i : Nat => (i : Int)) := by
  unfold standL
  rw [List.map_map]
  rfl
theorem waitL_p {M : List St} {n : Nat} (hM : M.length = n) : (waitL M n).map St.p = M.map St.p := by
  unfold waitL
  rw [List.map_map]
  apply List.ext_getElem (by simp [hM])
  intro i h1 h2
  have hi : i < M.length := by simpa using h2
  rw [List.getElem_map, List.getElem_range, List.getElem_map]
  show (waitF M i).p = _
  rw [waitF_p]
  simp [List.getD, hi]
theorem range_nodup (n : Nat) : ((List.range n).map (fun i : Nat => (i : Int))).Nodup := by
  refine List.Pairwise.map _ (fun a b h => ?_) List.nodup_range
  omega
theorem nodup_ofP {L : List St} {R : List Int} (h : (L.map St.p).Perm R) (hR : R.Nodup) : L.Nodup := by
  have h1 : (L.map St.p).Nodup := h.nodup_iff.2 hR
  exact List.Pairwise.of_map St.p (fun a b hab e => hab (by rw [e])) h1
theorem waitL_perm {l : List Rv} {n : Nat} {M : List St} (hp : (standL l n).Perm M) : ((waitL M n).map St.p).Perm ((List.range n).map (fun i : Nat => (i : Int))) := by
  rw [waitL_p (by rw [← hp.length_eq, standL_len]), ← standL_p l n]
  exact (hp.map St.p).symm
theorem waitL_nodup {l : List Rv} {n : Nat} {M : List St} (hp : (standL l n).Perm M) : (waitL M n).Nodup := nodup_ofP (waitL_perm hp) (range_nodup n)
/-- The places in rank: those from 0 on, each once. -/
theorem rank_places {l : List Rv} {n : Nat} {M N : List St} (hp : (standL l n).Perm M) (hq : (waitL M n).Perm N) : (N.map St.p).Perm ((List.range n).map (fun i : Nat => (i : Int))) := ((hq.map St.p).symm).trans (waitL_perm hp)
theorem rank_plc {n : Nat} {N : List St} (h : (N.map St.p).Perm ((List.range n).map (fun i : Nat => (i : Int)))) : plc (N.map (fun x => x.p.toNat)) = N.map St.p := by
  unfold plc
  rw [List.map_map]
  refine List.map_congr_left fun x hx => ?_
  have := (h.mem_iff (a := x.p)).1 (List.mem_map.2 ⟨x, hx, rfl⟩)
  obtain ⟨i, _, hi⟩ := List.mem_map.1 this
  show ((x.p.toNat : Nat) : Int) = x.p
  omega
theorem rank_lt {n : Nat} {N : List St} (h : (N.map St.p).Perm ((List.range n).map (fun i : Nat => (i : Int)))) : ∀ i ∈ N.map (fun x => x.p.toNat), i < n := by
  intro i hi
  obtain ⟨x, hx, rfl⟩ := List.mem_map.1 hi
  have := (h.mem_iff (a := x.p)).1 (List.mem_map.2 ⟨x, hx, rfl⟩)
  obtain ⟨j, hj, hi⟩ := List.mem_map.1 this
  have := List.mem_range.1 hj
  omega
theorem RankB.len {l : List Rv} {n : Nat} {B : List Nat} (h : RankB l n B) : B.length = n := by
  obtain ⟨M, N, h1, _, h2, _, rfl⟩ := h
  rw [List.length_map, ← h2.length_eq, waitL_len]
/-- Row k told anew. -/
theorem StsAt.nine {w : World} {R n k : Nat} {L : List St} (h : StsAt w R L) (hn : L.length = n) (hk : k < n) (x : St) :
    StsAt (((((((((w.setCell ⟨R, k * 9, none⟩ (.int .i64 x.p)).setCell ⟨R, k * 9 + 1, none⟩ (.int .i64 x.t0)).setCell ⟨R, k * 9 + 2, none⟩ (.int .i64 x.t1)).setCell ⟨R, k * 9 + 3, none⟩ (.int .i64 x.t2)).setCell ⟨R, k * 9 + 4, none⟩ (.int .i64 x.a)).setCell ⟨R, k * 9 + 5, none⟩ (.int .i64 x.m)).setCell ⟨R, k * 9 + 6, none⟩ (.int .i64 x.u0)).setCell ⟨R, k * 9 + 7, none⟩ (.int .i64 x.u1)).setCell ⟨R, k * 9 + 8, none⟩ (.int .i64 x.u2)) R (L.set k x) := by
  show StsAt (w.setCells R (k * 9) (stC x)) R (L.set k x)
  obtain ⟨⟨h0, h1, h2, h3, h4, h5, h6, h7, h8⟩, _⟩ := h.one hn hk rfl
  have hz : (w.setCells R (k * 9) (stC x)).heap.size = w.heap.size := by simp [World.setCells, stC, World.setCell]
  refine h.put hn hk x (Nat.le_of_eq hz.symm) (fun j v hv => ?_) (fun t => World.frozen?_setCells _ _ _ _ _) fun t ht => ?_
  · have hj : j < (stC x).length := (List.getElem?_eq_some_iff.1 hv).1
    rw [World.cell?_setCells_in R (stC x) (k * 9) w (fun j hj => by
      have hj : j < 9 := hj
      rcases j with _ | _ | _ | _ | _ | _ | _ | _ | _ | j
      · rw [show k * 9 + 0 = k * 9 from rfl, h0]; rfl
      · rw [h1]; rfl
      · rw [h2]; rfl
      · rw [h3]; rfl
      · rw [h4]; rfl
      · rw [h5]; rfl
      · rw [h6]; rfl
      · rw [h7]; rfl
      · rw [h8]; rfl
      · omega) j hj, ← hv, List.getElem?_eq_getElem hj]
  · exact World.cell?_setCells_out R (stC x) (k * 9) w ⟨R, t, none⟩ (fun _ _ => by show t < k * 9 ∨ k * 9 + 9 ≤ t; exact ht)
theorem turns_nine {S : Nat → Prop} {a w : World} {R : Nat} (h : Turns S a w) (hR : S R) (k : Nat) (x : St) :
    Turns S a (((((((((w.setCell ⟨R, k * 9, none⟩ (.int .i64 x.p)).setCell ⟨R, k * 9 + 1, none⟩ (.int .i64 x.t0)).setCell ⟨R, k * 9 + 2, none⟩ (.int .i64 x.t1)).setCell ⟨R, k * 9 + 3, none⟩ (.int .i64 x.t2)).setCell ⟨R, k * 9 + 4, none⟩ (.int .i64 x.a)).setCell ⟨R, k * 9 + 5, none⟩ (.int .i64 x.m)).setCell ⟨R, k * 9 + 6, none⟩ (.int .i64 x.u0)).setCell ⟨R, k * 9 + 7, none⟩ (.int .i64 x.u1)).setCell ⟨R, k * 9 + 8, none⟩ (.int .i64 x.u2)) :=
  ((((((((h.setCell (.inl hR) _).setCell (.inl hR) _).setCell (.inl hR) _).setCell (.inl hR) _).setCell (.inl hR) _).setCell (.inl hR) _).setCell (.inl hR) _).setCell (.inl hR) _).setCell (.inl hR) _
/-- make([]standing, n). -/
theorem run_makeS (n : Nat) (h : n ≤ 1000000) (w : World) : (Instr.makeSlice 53 (.int .i64 (n : Int)) (.int .i64 (n : Int))).run Try.prog w = .ok (.slice (some ⟨w.heap.size, 0, none⟩) n n) (w.alloc (.cells (madeCells #[.int .i64 0, .int .i64 0, .int .i64 0, .int .i64 0, .int .i64 0, .int .i64 0, .int .i64 0, .int .i64 0, .int .i64 0] (n * 9)) 57)) := by
  obtain ⟨i, hi, hz, hs, hb⟩ := info_partsL rowSt.info
  have hr := run_make (P := Try.prog) w 53 57 i (.agg #[.int .i64 0, .int .i64 0, .int .i64 0, .int .i64 0, .int .i64 0, .int .i64 0, .int .i64 0, .int .i64 0, .int .i64 0]) Try.underlying53 hi hz .i64 .i64 n n (by omega) (by omega) (by rw [hb]; omega) (by omega)
  simp only [Int.toNat_natCast, hs] at hr
  exact hr
theorem StsAt.made (w : World) (n : Nat) : StsAt (w.alloc (.cells (madeCells #[.int .i64 0, .int .i64 0, .int .i64 0, .int .i64 0, .int .i64 0, .int .i64 0, .int .i64 0, .int .i64 0, .int .i64 0] (n * 9)) 57)) w.heap.size (List.replicate n St.zero) := by
  have hb : (w.alloc (.cells (madeCells #[.int .i64 0, .int .i64 0, .int .i64 0, .int .i64 0, .int .i64 0, .int .i64 0, .int .i64 0, .int .i64 0, .int .i64 0] (n * 9)) 57)).heap[w.heap.size]? = some (.cells (madeCells #[.int .i64 0, .int .i64 0, .int .i64 0, .int .i64 0, .int .i64 0, .int .i64 0, .int .i64 0, .int .i64 0, .int .i64 0] (n * 9)) 57) := by
    show (w.heap.push _)[w.heap.size]? = _; exact Array.getElem?_push_size
  refine ⟨by rw [sz_alloc]; omega, fun i hi j v hv => ?_⟩
  have hi : i < n := by simpa using hi
  have hj : j < 9 := (List.getElem?_eq_some_iff.1 hv).1
  have hx : (List.replicate n St.zero).getD i St.zero = St.zero := by simp [List.getD, hi]
  rw [hx] at hv
  have hz : (Value.int .i64 0) = v := by
    rcases j with _ | _ | _ | _ | _ | _ | _ | _ | _ | j <;> first | omega | (simp [stC, St.zero] at hv; exact hv)
  subst hz
  constructor
  · unfold World.cell?
    rw [hb]
    show (madeCells _ (n * 9))[i * 9 + j]? = _
    rw [Array.getElem?_eq_getElem (by rw [size_madeCells]; omega)]
    congr 1
    unfold madeCells
    rw [Array.getElem_map, Array.getElem_range]
    show #[Value.int .i64 0, .int .i64 0, .int .i64 0, .int .i64 0, .int .i64 0, .int .i64 0, .int .i64 0, .int .i64 0, .int .i64 0][(i * 9 + j) % 9]! = _
    rw [show (i * 9 + j) % 9 = j by omega]
    rcases j with _ | _ | _ | _ | _ | _ | _ | _ | _ | j <;> first | omega | rfl
  · unfold World.frozen?
    rw [hb]
    simp
end Go.Proofs.Ytljbebeaahcjaaa
