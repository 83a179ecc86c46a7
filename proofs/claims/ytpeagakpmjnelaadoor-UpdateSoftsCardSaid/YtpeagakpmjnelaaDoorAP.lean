/- attr: what is put is got. -/
import Derived.Test.YtpeagakpmjnelaaDoorAO
namespace Go.Proofs.YtpeagakpmjnelaaDoor.Ax
open Go.RowKit
set_option maxRecDepth 100000

theorem okA_comms {a : At} {four : Bool} (h : okA a four = true) : okComms a.comms = true := by
  unfold okA at h
  simp only [Bool.and_eq_true] at h
  exact h.2.2.2.2.2
theorem read_origin (four : Bool) (a : At) (x : Int) (h0 : 0 ≤ x) (h2 : x ≤ 2) : readV four a 1 [x] = some { a with origin := x } := by
  have hv : getV [x] = x := by simp [getV]
  have ho : oddB 0 2 x = false := by unfold oddB; rw [decide_eq_false (by omega), decide_eq_false (by omega)]; rfl
  rw [readV_1, hv, if_pos ⟨rfl, ho⟩]
theorem read_four (x : Int) (h0 : 0 ≤ x) (h1 : x ≤ 4294967295) : getV (putL x 4) = x := putL_back (by omega) (by omega) (by
  have : (2 : Int) ^ (8 * 4) = 4294967296 := rfl
  simp [fitsB, this]; omega)
theorem read_next (four : Bool) (a : At) (x : Int) (h0 : 0 ≤ x) (h1 : x ≤ 4294967295) (hx : x ≠ 0) : readV four a 3 (putL x 4) = some { a with next := x } := by
  rw [readV_3, read_four x h0 h1, if_pos ⟨putL_len _ _, hx⟩]
theorem read_med (four : Bool) (a : At) (x : Int) (h0 : 0 ≤ x) (h1 : x ≤ 4294967295) : readV four a 4 (putL x 4) = some { a with med := x } := by
  rw [readV_4, read_four x h0 h1, if_pos (putL_len _ _)]
theorem read_pref (four : Bool) (a : At) (x : Int) (h0 : 0 ≤ x) (h1 : x ≤ 4294967295) : readV four a 5 (putL x 4) = some { a with pref := x } := by
  rw [readV_5, read_four x h0 h1, if_pos (putL_len _ _)]
theorem segsL_ge (four : Bool) (l : List Seg) : l.length ≤ (segsL four l).length := by
  induction l with
  | nil => simp
  | cons s t ih => rw [segsL_cons]; simp; omega
theorem read_path (four : Bool) (a : At) (l : List Seg) (h : okPath l four = true) : readV four a 2 (segsL four l) = some { a with path := l } := by
  have hs : ∀ s ∈ l, segOdd (mostA four) s = false := by
    unfold okPath at h
    simp only [Bool.and_eq_true, Bool.not_eq_true', List.any_eq_false] at h
    intro s hs
    have := h.2 s hs
    rwa [Bool.not_eq_true] at this
  have hp := pathG_segs four l ((segsL four l).length + 1) hs (by have := segsL_ge four l; omega)
  have hd : readV four a 2 (segsL four l) = (match pathG (wideA four) ((segsL four l).length + 1) (segsL four l) with
    | some l => if okPath l four then some { a with path := l } else none
    | none => none) := rfl
  rw [hd, hp]
  simp only [h, if_true]
theorem read_comms (four : Bool) (a : At) (xs : List Int) (h0 : 0 < xs.length) (hf : FitAll 4 xs) (hk : okComms xs = true) : readV four a 8 (numsL 4 xs) = some { a with comms := xs } := by
  have hl := listV_numsL 4 (by omega) (by omega) xs ((numsL 4 xs).length + 1) (fun x hx => by
    obtain ⟨i, hi, rfl⟩ := List.getElem_of_mem hx
    have := hf i hi
    simpa [List.getD, List.getElem?_eq_getElem hi] using this) (by rw [numsL_len]; omega)
  rw [readV_8, hl, if_pos ⟨rfl, h0, hk⟩]
/-- What comes behind the first attribute. -/
def tailA (a : At) (four : Bool) : List Int := attrL 64 2 (segsL four a.path) ++ (attrL 64 3 (putL a.next 4) ++ (medL a.med ++ (prefL a.pref ++ commsL a.comms)))
theorem putA_tail (a : At) (four : Bool) : putA a four = attrL 64 1 [a.origin] ++ tailA a four := by
  simp only [putA, tailA, List.append_assoc]
theorem putA_drop (a : At) (four : Bool) : (putA a four).drop 4 = tailA a four := by
  rw [putA_tail, List.drop_left']; rfl
theorem getS_end (four : Bool) (f : Nat) (s : At × Int) : getS four (f + 1) s [] = some s := rfl
theorem getS_at (four : Bool) (f : Nat) (a : At) (th fl K : Int) (k : Nat) (data rest : List Int) (hK : K = k) (hfl : fl = 64 ∨ fl = 128 ∨ fl = 192) (hk : flagsL.getD k 0 = fl) (hs : seenB th k = false) (hm : data.length ≤ 65535) :
    getS four (f + 1) (a, th) (attrL fl K data ++ rest) = (readV four a k data).bind (fun a' => getS four f (a', setT th k) rest) := by
  subst hK
  exact getS_attr four f a th fl k data rest hfl hk hs hm
theorem getS_tail (a : At) (four : Bool) (o : Int) (th : Int) (hth : th = 0 ∨ th = 2) (hk : okA a four = true) (n0 : 0 ≤ a.next) (n1 : a.next ≤ 4294967295) (f : Nat) :
    ∃ t, getS four (f + 6) (⟨o, [], 0, -1, -1, []⟩, th) (tailA a four) = some ({ a with origin := o }, t) ∧ wholeB t = decide (th = 2) := by
  obtain ⟨hp, hn⟩ := okA_parts hk
  have hc := okA_comms hk
  have hsl := segsL_le hp.path
  obtain ⟨origin, path, next, med, pref, comms⟩ := a
  have hm0 := hp.m0
  have hm1 := hp.m1
  have hp0 := hp.p0
  have hp1 := hp.p1
  have hcl := hp.c0
  have hcf := hp.c1
  simp only at hn n0 n1 hc hsl hm0 hm1 hp0 hp1 hcl hcf
  have hpath := hp.path
  simp only at hpath
  have l3 : (putL next 4).length ≤ 65535 := by rw [putL_len]; omega
  have l4 : (putL med 4).length ≤ 65535 := by rw [putL_len]; omega
  have l5 : (putL pref 4).length ≤ 65535 := by rw [putL_len]; omega
  have l8 : (numsL 4 comms).length ≤ 65535 := by rw [numsL_len]; omega
  unfold tailA
  simp only
  rw [show f + 6 = (f + 5) + 1 from rfl, getS_at four (f + 5) _ th 64 2 2 (segsL four path) _ rfl (by simp) (by decide) (by rcases hth with rfl | rfl <;> decide +kernel) (by omega), read_path four _ path hpath, Option.bind_some]
  rw [show f + 5 = (f + 4) + 1 from rfl, getS_at four (f + 4) _ _ 64 3 3 (putL next 4) _ rfl (by simp) (by decide) (by rcases hth with rfl | rfl <;> decide +kernel) l3, read_next four _ next n0 n1 hn, Option.bind_some]
  have hz0 : 0 < comms.length ∨ comms = [] := by
    cases comms with
    | nil => exact .inr rfl
    | cons x t => exact .inl (by simp)
  have hm' : 0 ≤ med ∨ med = -1 := by omega
  have hq' : 0 ≤ pref ∨ pref = -1 := by omega
  clear hp hk
  rcases hm' with hm | rfl <;> rcases hq' with hq | rfl <;> rcases hz0 with hz | rfl
  all_goals (try rw [show medL (-1) = [] from rfl, List.nil_append])
  all_goals (try rw [show prefL (-1) = [] from rfl, List.nil_append])
  all_goals (try rw [show commsL [] = [] from rfl])
  all_goals (try rw [show medL med = attrL 128 4 (putL med 4) from if_pos hm])
  all_goals (try rw [show prefL pref = attrL 64 5 (putL pref 4) from if_pos hq])
  all_goals (try rw [show commsL comms = attrL 192 8 (numsL 4 comms) ++ [] from by rw [List.append_nil]; exact if_pos hz])
  all_goals (try rw [show f + 4 = (f + 3) + 1 from rfl, getS_at four (f + 3) _ _ 128 4 4 (putL med 4) _ rfl (by simp) (by decide) (by rcases hth with rfl | rfl <;> decide +kernel) l4, read_med four _ med hm hm1, Option.bind_some])
  all_goals (try rw [show f + 3 = (f + 2) + 1 from rfl, getS_at four (f + 2) _ _ 64 5 5 (putL pref 4) _ rfl (by simp) (by decide) (by rcases hth with rfl | rfl <;> decide +kernel) l5, read_pref four _ pref hq hp1, Option.bind_some])
  all_goals (try rw [show f + 4 = (f + 3) + 1 from rfl, getS_at four (f + 3) _ _ 64 5 5 (putL pref 4) _ rfl (by simp) (by decide) (by rcases hth with rfl | rfl <;> decide +kernel) l5, read_pref four _ pref hq hp1, Option.bind_some])
  all_goals (try rw [show f + 4 = (f + 3) + 1 from rfl, getS_at four (f + 3) _ _ 192 8 8 (numsL 4 comms) _ rfl (by simp) (by decide) (by rcases hth with rfl | rfl <;> decide +kernel) l8, read_comms four _ comms hz hcf hc, Option.bind_some])
  all_goals (try rw [show f + 3 = (f + 2) + 1 from rfl, getS_at four (f + 2) _ _ 192 8 8 (numsL 4 comms) _ rfl (by simp) (by decide) (by rcases hth with rfl | rfl <;> decide +kernel) l8, read_comms four _ comms hz hcf hc, Option.bind_some])
  all_goals (try rw [show f + 2 = (f + 1) + 1 from rfl, getS_at four (f + 1) _ _ 192 8 8 (numsL 4 comms) _ rfl (by simp) (by decide) (by rcases hth with rfl | rfl <;> decide +kernel) l8, read_comms four _ comms hz hcf hc, Option.bind_some])
  all_goals exact ⟨_, rfl, by rcases hth with rfl | rfl <;> decide +kernel⟩
end Go.Proofs.YtpeagakpmjnelaaDoor.Ax
