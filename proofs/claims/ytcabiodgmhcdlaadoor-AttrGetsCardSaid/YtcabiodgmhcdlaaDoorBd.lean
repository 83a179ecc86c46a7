/- The document's Get: what lies in memory while it reads. -/
import Derived.Test.YtcabiodgmhcdlaaDoorBc
namespace Go.Proofs.YtcabiodgmhcdlaaDoor
open Go.RowKit

theorem apart_rowIs {w : World} {g : Nat} {t : TypeId} {n : Nat} {f : Nat → Value} (hr : w.rowIs g t n f) (hf : ∀ i, i < n → ∀ x, f i ≠ .int .u8 x) {p : Option Addr} {xs : List Int} (hy : BytesAt w p xs) : xs = [] ∨ p.map (·.block) ≠ some g := by
  rcases hy.2 with h | ⟨b, off, rfl, hc⟩
  · exact .inl h
  · rcases xs with _ | ⟨x, r⟩
    · exact .inl rfl
    · right
      intro e
      obtain rfl : b = g := by simpa using e
      have hcell := hc 0 (by simp)
      obtain ⟨c, hb, hn, hcc⟩ := hr
      simp [World.cell?, hb] at hcell
      have hlt : off < n := by
        rcases Nat.lt_or_ge off c.size with h | h
        · omega
        · rw [Array.getElem?_eq_none h] at hcell; cases hcell
      rw [hcc off hlt] at hcell
      exact hf off hlt _ (Option.some.inj hcell)
theorem RRel.past {w w' : World} {g r : Nat} {s : Option (List Int)} {t : TypeId} {n : Nat} {f : Nat → Value} (h : RRel w g s) (hr : w.rowIs r t n f) (hf : ∀ i, i < n → ∀ x, f i ≠ .int .u8 x) (hne : g ≠ r) (hg : w.grownBy w' (some r)) : RRel w' g s := by
  have hlt := h.lt
  obtain ⟨xs, ⟨p, cap, hrow, hy, hl, hm, hne'⟩, he⟩ := h
  refine ⟨xs, ⟨p, cap, hrow.of_same (hg.block g hlt (fun e => hne (Option.some.inj e))), ?_, hl, hm, hne'⟩, he⟩
  rcases apart_rowIs hr hf hy with rfl | h
  · exact BytesAt.nil _ _
  · exact bytes_far hy hg (fun b hb e => h (by rw [hb]; exact e))
theorem atL_far (a : At) (l : Loc) : ∀ i, i < (atL a l).length → ∀ x, (atL a l).getD i undef ≠ .int .u8 x := by
  intro i hi x
  have h6 : i < 6 := hi
  have : i = 0 ∨ i = 1 ∨ i = 2 ∨ i = 3 ∨ i = 4 ∨ i = 5 := by omega
  rcases this with rfl | rfl | rfl | rfl | rfl | rfl <;> simp [atL]
def seenF (th : Int) (j : Nat) : Value := .bool (decide (j < 9) && seenB th j)
def zerosA : List Value := [.int .i64 0, .slice none 0 0, .int .u32 0, .int .i64 0, .int .i64 0, .slice none 0 0]
structure RGSt (w W wr : World) (gr : Nat) (a : At) (l : Loc) (th : Int) (st : Option (List Int)) : Prop where
  atA : RAt wr W.heap.size (w.heap.size + 1) a l
  seen : wr.rowIs (w.heap.size + 2) 4 256 (seenF th)
  out : Blk wr w.heap.size 26 zerosA
  rd : RRel wr gr st
  bel : Below w.heap.size w wr
  sz : W.heap.size ≤ wr.heap.size
theorem RGSt.next {w W wr w' : World} {gr : Nat} {a : At} {l : Loc} {th : Int} {st : Option (List Int)} (h : RGSt w W wr gr a l th st) (hb : Below wr.heap.size wr w') : RGSt w W w' gr a l th st :=
  ⟨h.atA.next hb, World.rowIs.of_block h.seen (hb.block _ h.seen.lt), h.out.next hb, h.rd.below hb, h.bel.trans (hb.mono h.bel.size), Nat.le_trans h.sz hb.size⟩
theorem RGSt.num {w W wr w' : World} {gr : Nat} {a : At} {l : Loc} {th : Int} {st st' : Option (List Int)} (h : RGSt w W wr gr a l th st) (hr : RRel w' gr st') (hg : wr.grownBy w' (some gr)) (h1 : w.heap.size + 2 < gr) (h2 : gr < W.heap.size) : RGSt w W w' gr a l th st' :=
  ⟨⟨h.atA.blk.grown (by omega) hg, h.atA.path.read hg h2, h.atA.comms.kept hg (row_not h.atA.comms h2), h.atA.n0, h.atA.n1⟩, World.rowIs.of_block h.seen (hg.block _ h.seen.lt (fun e => by have := Option.some.inj e; omega)), h.out.grown (by omega) hg, hr, below_new h.bel hg (by omega) h.bel.size, Nat.le_trans h.sz hg.size⟩
theorem RGSt.mark {w W wr : World} {gr : Nat} {a : At} {l : Loc} {th : Int} {st : Option (List Int)} (h : RGSt w W wr gr a l th st) (k : Nat) (hk : k = 1 ∨ k = 2 ∨ k = 3 ∨ k = 4 ∨ k = 5 ∨ k = 8) (hth : th ∈ allTh) (h1 : w.heap.size + 2 < gr) (h2 : gr < W.heap.size) : RGSt w W (wr.setCell ⟨w.heap.size + 2, k, none⟩ (.bool true)) gr a l (setT th k) st := by
  have hg := gb_set wr ⟨w.heap.size + 2, k, none⟩ (.bool true)
  have hB : w.heap.size + 2 < W.heap.size := by omega
  have hseen := World.rowIs.set h.seen k (.bool true)
  refine ⟨⟨h.atA.blk.grown (by simp) hg, h.atA.path.read hg hB, h.atA.comms.kept hg (row_not h.atA.comms hB), h.atA.n0, h.atA.n1⟩, World.rowIs.congr hseen (fun j hj => ?_), h.out.grown (by simp) hg, h.rd.past h.seen (fun i hi x => by simp [seenF]) (by omega) hg, below_new h.bel hg (by simp) h.bel.size, Nat.le_trans h.sz hg.size⟩
  have key : ∀ j ∈ List.range 9, seenB (setT th k) j = (j == k || seenB th j) := seen_set th hth k (by simpa using hk)
  by_cases h9 : j < 9
  · have := key j (by simpa using h9)
    unfold seenF
    rw [this]
    by_cases e : j = k
    · simp [e]; omega
    · have e' : (j == k) = false := by simpa using e
      rw [e']; simp [e]
  · have hne : j ≠ k := by omega
    unfold seenF
    simp [hne, h9]
theorem RGSt.put {w W wr w' : World} {gr : Nat} {a a' : At} {l l' : Loc} {th : Int} {st : Option (List Int)} (h : RGSt w W wr gr a l th st) (hh : RAt w' W.heap.size (w.heap.size + 1) a' l') (hg : wr.grownBy w' (some (w.heap.size + 1))) (h1 : w.heap.size + 2 < gr) : RGSt w W w' gr a' l' th st :=
  ⟨hh, World.rowIs.of_block h.seen (hg.block _ h.seen.lt (fun e => by have := Option.some.inj e; omega)), h.out.grown (by omega) hg, h.rd.past h.atA.blk (atL_far a l) (by omega) hg, below_new h.bel hg (by omega) h.bel.size, Nat.le_trans h.sz hg.size⟩
/-- One attribute, as the reader reads it. -/
theorem nextV_none (n : Int) : nextV none n = none := by simp [nextV, okTake]
theorem getS_read (four : Bool) (f : Nat) (s : At × Int) (x : Int) (t : List Int) (hb : InByte t) :
    getS four (f + 1) s (x :: t) = (nextV (numNext (numNext (some t) 1) (wideOf x : Nat)) (numV (numNext (some t) 1) (wideOf x : Nat))).bind (fun ys => (takeV four s x (numV (some t) 1).toNat (outV (numNext (numNext (some t) 1) (wideOf x : Nat)) (numV (numNext (some t) 1) (wideOf x : Nat)))).bind (fun s' => getS four f s' ys)) := by
  rcases t with _ | ⟨k, r⟩
  · rw [show numNext (some []) 1 = none from (numV_no (wide := 1) (xs := []) (by simp)).2, numNext_none, nextV_none]
    rfl
  · rw [(numV_one k r).1, (numV_one k r).2]
    have hw : 1 ≤ wideOf x ∧ wideOf x ≤ 4 := by unfold wideOf; split <;> omega
    have hd : getS four (f + 1) s (x :: k :: r) = if wideOf x ≤ r.length then
      (if (getV (r.take (wideOf x))).toNat ≤ (r.drop (wideOf x)).length then
        (takeV four s x k.toNat ((r.drop (wideOf x)).take (getV (r.take (wideOf x))).toNat)).bind (fun s' => getS four f s' ((r.drop (wideOf x)).drop (getV (r.take (wideOf x))).toNat))
      else none)
      else none := rfl
    rw [hd]
    by_cases hl : wideOf x ≤ r.length
    · rw [if_pos hl, (numV_ok hw.1 hw.2 hl).1, (numV_ok hw.1 hw.2 hl).2]
      have h0 := (getV_bd r (inByte_tail hb) (wideOf x) hl).1
      obtain ⟨n, hn⟩ := Int.eq_ofNat_of_zero_le h0
      rw [hn]
      by_cases h2 : n ≤ (r.drop (wideOf x)).length
      · have hk : okTake (some (r.drop (wideOf x))) (n : Int) = true := by simp [okTake]; simpa using h2
        rw [if_pos (by simpa using h2)]
        simp only [nextV, outV, hk, if_true, Option.getD_some, Option.bind_some, Int.toNat_natCast]
      · have hk : okTake (some (r.drop (wideOf x))) (n : Int) = false := by simp [okTake]; simpa using h2
        rw [if_neg (by simpa using h2)]
        simp only [nextV, hk]
        rfl
    · rw [if_neg hl, (numV_no (by omega)).2, nextV_none]; rfl
end Go.Proofs.YtcabiodgmhcdlaaDoor
