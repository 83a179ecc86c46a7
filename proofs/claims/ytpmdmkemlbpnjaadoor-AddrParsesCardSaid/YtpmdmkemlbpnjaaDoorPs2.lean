/- The document's own split, and what it tells of addresses and prefixes: as addr's cuts tell. -/
import Derived.Test.YtpmdmkemlbpnjaaDoorPs1
namespace Go.Proofs.YtpmdmkemlbpnjaaDoor
open Go.RowKit

def glueS (cur : List UInt8) : List (List UInt8) → List (List UInt8)
  | [] => [cur]
  | p :: ps => (cur ++ p) :: ps
/-- A text's parts at each c. -/
def splitL (c : UInt8) : List UInt8 → List (List UInt8)
  | [] => [[]]
  | b :: l => if b = c then [] :: splitL c l else glueS [b] (splitL c l)
theorem glue_nil : ∀ {x : List (List UInt8)}, x ≠ [] → glueS [] x = x
  | [], h => absurd rfl h
  | p :: ps, _ => rfl
theorem splitL_ne (c : UInt8) : ∀ l, splitL c l ≠ []
  | [] => by simp [splitL]
  | b :: l => by
    unfold splitL
    split
    · simp
    · cases splitL c l <;> simp [glueS]
theorem glue_glue (a b : List UInt8) (x : List (List UInt8)) (h : x ≠ []) : glueS a (glueS b x) = glueS (a ++ b) x := by
  cases x with
  | nil => exact absurd rfl h
  | cons p ps => simp [glueS]
theorem splitL_cons (c b : UInt8) (l : List UInt8) : splitL c (b :: l) = if b = c then [] :: splitL c l else glueS [b] (splitL c l) := by rw [splitL]
theorem cutL_cons (c b : UInt8) (l : List UInt8) : cutL c (b :: l) = if b = c then ([], l, true) else (b :: (cutL c l).1, (cutL c l).2.1, (cutL c l).2.2) := by rw [cutL]
theorem splitL_cut (c : UInt8) : ∀ l, splitL c l = (cutL c l).1 :: (if (cutL c l).2.2 then splitL c (cutL c l).2.1 else [])
  | [] => rfl
  | b :: l => by
    rw [splitL_cons, cutL_cons]
    by_cases h : b = c
    · rw [if_pos h, if_pos h]; simp
    · rw [if_neg h, if_neg h, splitL_cut c l]; simp [glueS]
theorem splitL_len (c : UInt8) : ∀ l, (splitL c l).length ≤ l.length + 1
  | [] => by simp [splitL]
  | b :: l => by
    have ih := splitL_len c l
    unfold splitL
    split
    · simp; omega
    · cases h : splitL c l with
      | nil => simp [glueS]
      | cons p ps => rw [h] at ih; simp [glueS] at *; omega
/-- What the document says of an address: the parts' numbers. -/
def numsOf : List (List UInt8) → Option (List Int)
  | [] => some []
  | p :: ps => match numOf 255 p with
    | none => none
    | some v => (numsOf ps).map (v :: ·)
def raddrL (l : List UInt8) : Option (List Int) := if (splitL 46 l).length = 4 then numsOf (splitL 46 l) else none
theorem numsOf_some {p : List UInt8} {ps : List (List UInt8)} {v : Int} (h : numOf 255 p = some v) : numsOf (p :: ps) = (numsOf ps).map (v :: ·) := by rw [numsOf, h]
theorem numsOf_none {p : List UInt8} {ps : List (List UInt8)} (h : numOf 255 p = none) : numsOf (p :: ps) = none := by rw [numsOf, h]
theorem split_end {c : UInt8} {l : List UInt8} (h : (cutL c l).2.2 = false) : splitL c l = [(cutL c l).1] := by rw [splitL_cut, h]; rfl
theorem split_more {c : UInt8} {l : List UInt8} (h : (cutL c l).2.2 = true) : splitL c l = (cutL c l).1 :: splitL c (cutL c l).2.1 := by rw [splitL_cut, h]; rfl
theorem addrGo_split : ∀ (k : Nat) (acc : List Int) (l : List UInt8), addrGo (k + 1) acc l = if (splitL 46 l).length = k + 1 then (numsOf (splitL 46 l)).map (acc ++ ·) else none
  | 0, acc, l => by
    rcases hf : (cutL 46 l).2.2 with _ | _
    · rw [split_end hf, if_pos (show [(cutL 46 l).1].length = 0 + 1 from rfl)]
      rcases ho : numOf 255 (cutL 46 l).1 with _ | v
      · rw [addrGo_none ho, numsOf_none ho]; rfl
      · rw [addrGo_next ho (by rw [hf]; decide), numsOf_some ho]; simp [addrGo, numsOf]
    · have hn := splitL_ne 46 (cutL 46 l).2.1
      rw [split_more hf, if_neg (by
        cases h : splitL 46 (cutL 46 l).2.1 with
        | nil => exact absurd h hn
        | cons p ps => simp)]
      rcases ho : numOf 255 (cutL 46 l).1 with _ | v
      · exact addrGo_none ho
      · exact addrGo_point ho (by rw [hf]; decide)
  | k + 1, acc, l => by
    rcases hf : (cutL 46 l).2.2 with _ | _
    · rw [split_end hf, if_neg (by simp)]
      rcases ho : numOf 255 (cutL 46 l).1 with _ | v
      · exact addrGo_none ho
      · exact addrGo_point ho (by rw [hf]; simp)
    · rw [split_more hf]
      rcases ho : numOf 255 (cutL 46 l).1 with _ | v
      · rw [addrGo_none ho, numsOf_none ho]; simp
      · rw [addrGo_next ho (by rw [hf]; simp), numsOf_some ho, addrGo_split k (acc ++ [v]) (cutL 46 l).2.1]
        by_cases h : (splitL 46 (cutL 46 l).2.1).length = k + 1
        · rw [if_pos h, if_pos (by simp [h]), Option.map_map]
          congr 1
          funext z
          simp
        · rw [if_neg h, if_neg (by simp; exact h)]
theorem addrL_split (l : List UInt8) : addrL l = raddrL l := by
  unfold addrL raddrL
  rw [addrGo_split 3 [] l]
  simp
theorem digs_has {most : Int} {c : UInt8} (hc : c < 48 ∨ 57 < c) : ∀ {l : List UInt8} {n : Int}, c ∈ l → digs most n l = none
  | b :: r, n, h => by
    unfold digs
    by_cases hb : b < 48 ∨ 57 < b
    · rw [if_pos hb]
    · rw [if_neg hb]
      split
      · rfl
      · rcases List.mem_cons.1 h with rfl | h
        · exact absurd hc hb
        · exact digs_has hc h
theorem numOf_has {most : Int} {c : UInt8} (hc : c < 48 ∨ 57 < c) {l : List UInt8} (h : c ∈ l) : numOf most l = none := by
  match l, h with
  | b :: r, h =>
    unfold numOf
    simp only
    split
    · rfl
    · exact digs_has hc h
theorem cutL_mem (c : UInt8) : ∀ {l : List UInt8}, (cutL c l).2.2 = true → c ∈ l
  | [], h => by simp [cutL] at h
  | b :: l, h => by
    unfold cutL at h
    by_cases hb : b = c
    · simp [hb]
    · rw [if_neg hb] at h
      exact List.mem_cons_of_mem _ (cutL_mem c h)
theorem cutL_no (c : UInt8) : ∀ {l : List UInt8}, (cutL c l).2.2 = false → (cutL c l).2.1 = []
  | [], _ => rfl
  | b :: l, h => by
    unfold cutL at h ⊢
    by_cases hb : b = c
    · rw [if_pos hb] at h; cases h
    · rw [if_neg hb] at h ⊢
      exact cutL_no c h
/-- What the document says of a prefix. -/
def rparseL (l : List UInt8) : Option (Int × Int) :=
  match splitL 47 l with
  | [p, q] => match raddrL p with
    | none => none
    | some b => match numOf 32 q with
      | none => none
      | some n => if okP (getV b) n then some (getV b, n) else none
  | _ => none
theorem cutL_all (c : UInt8) : ∀ {m : List UInt8}, (cutL c m).2.2 = false → (cutL c m).1 = m
  | [], _ => rfl
  | b :: t, h => by
    rw [cutL_cons] at h ⊢
    by_cases hb : b = c
    · rw [if_pos hb] at h; cases h
    · rw [if_neg hb] at h ⊢
      simp only at h ⊢
      rw [cutL_all c h]
theorem parseL_split (l : List UInt8) : parseL l = rparseL l := by
  rcases hf : (cutL 47 l).2.2 with _ | _
  · unfold parseL rparseL
    rw [split_end hf, cutL_no 47 hf]
    rcases addrL (cutL 47 l).1 with _ | b <;> rfl
  · rcases hf2 : (cutL 47 (cutL 47 l).2.1).2.2 with _ | _
    · unfold parseL rparseL
      rw [split_more hf, split_end hf2, cutL_all 47 hf2, addrL_split]
      rfl
    · have hn : numOf 32 (cutL 47 l).2.1 = none := numOf_has (c := 47) (.inl (by decide)) (cutL_mem 47 hf2)
      have hne := splitL_ne 47 (cutL 47 (cutL 47 l).2.1).2.1
      unfold parseL rparseL
      rw [split_more hf, split_more hf2, hn]
      cases hs : splitL 47 (cutL 47 (cutL 47 l).2.1).2.1 with
      | nil => exact absurd hs hne
      | cons p ps => rcases addrL (cutL 47 l).1 with _ | b <;> rfl
end Go.Proofs.YtpmdmkemlbpnjaaDoor
