/- open: what a router says, its body, and what any body says, on lists of numbers alone. -/
import Derived.Test.YtbacnjijfffobaaK0
namespace Go.Proofs.Ytbacnjijfffobaa
open Go.RowKit

/-- What a router says of itself. -/
structure Op where
  asn : Int
  hold : Int
  id : Int
  four : Bool
  paths : Int
def Op.v (o : Op) : Value := .agg #[.int .i64 o.asn, .int .i64 o.hold, .int .u32 o.id, .bool o.four, .int .i64 o.paths]
def Op.zero : Op := ⟨0, 0, 0, false, 0⟩
def holdB (h : Int) : Bool := h == 0 || (decide (3 ≤ h) && decide (h ≤ 65535))
def mostAS (four : Bool) : Int := if four then 4294967295 else 65535
def okO (o : Op) : Bool := decide (1 ≤ o.asn) && decide (o.asn ≤ mostAS o.four) && holdB o.hold && !(o.id == 0) && decide (0 ≤ o.paths) && decide (o.paths ≤ 3)
theorem okO_yes {o : Op} (h : okO o = true) : 1 ≤ o.asn ∧ o.asn ≤ mostAS o.four ∧ holdB o.hold = true ∧ o.id ≠ 0 ∧ 0 ≤ o.paths ∧ o.paths ≤ 3 := by
  unfold okO at h
  simp only [Bool.and_eq_true, decide_eq_true_eq, Bool.not_eq_true', beq_eq_false_iff_ne] at h
  obtain ⟨⟨⟨⟨⟨a, b⟩, c⟩, d⟩, e⟩, f⟩ := h
  exact ⟨a, b, c, d, e, f⟩
theorem holdB_yes {n : Int} (h : holdB n = true) : n = 0 ∨ (3 ≤ n ∧ n ≤ 65535) := by
  unfold holdB at h
  simpa only [Bool.or_eq_true, beq_iff_eq, Bool.and_eq_true, decide_eq_true_eq] using h
theorem mostAS_le (b : Bool) : 65535 ≤ mostAS b ∧ mostAS b ≤ 4294967295 := by cases b <;> simp [mostAS]

def shortAS (a : Int) : Int := if 65535 < a then 23456 else a
def fourC (o : Op) : List Int := if o.four then 65 :: 4 :: putL o.asn 4 else []
def pathsC (o : Op) : List Int := if o.paths = 0 then [] else [69, 4, 0, 1, 1, o.paths]
def capsO (o : Op) : List Int := 1 :: 4 :: 0 :: 1 :: 0 :: 1 :: (fourC o ++ pathsC o)
def saidO (o : Op) : List Int := 2 :: ((capsO o).length : Int) :: capsO o
def frontO (o : Op) : List Int := 4 :: (putL (shortAS o.asn) 2 ++ (putL o.hold 2 ++ putL o.id 4))
def putO (o : Op) : List Int := frontO o ++ (((saidO o).length : Int) :: saidO o)

/-- Parts, one behind the other, each looked at, up to one that is cut off or refused. -/
def eachV {σ : Type} (look : σ → Int → List Int → σ × Bool) : Nat → σ → List Int → σ × Bool
  | 0, st, _ => (st, true)
  | _ + 1, st, [] => (st, true)
  | _ + 1, st, [_] => (st, false)
  | f + 1, st, k :: n :: rest =>
    if n.toNat ≤ rest.length then
      match (look st k (rest.take n.toNat)).2 with
      | true => eachV look f (look st k (rest.take n.toNat)).1 (rest.drop n.toNat)
      | false => ((look st k (rest.take n.toNat)).1, false)
    else (st, false)
/-- Are all parts of the type that holds capabilities, as far as they are there? -/
def onlyV : Nat → List Int → Bool
  | 0, _ => true
  | _ + 1, [] => true
  | _ + 1, [k] => k == 2
  | f + 1, k :: n :: rest => if k = 2 then (if n.toNat ≤ rest.length then onlyV f (rest.drop n.toNat) else true) else false
def wayB (a b c d : Int) : Bool := getV [a, b, c] == 257 && (decide (1 ≤ d) && decide (d ≤ 3))
def pathsV : Nat → Op → List Int → Op × Bool
  | 0, st, _ => (st, true)
  | f + 1, st, a :: b :: c :: d :: rest => pathsV f (if wayB a b c d then { st with paths := d } else st) rest
  | _ + 1, st, [] => (st, true)
  | _ + 1, st, _ => (st, false)
def fourV (st : Op) (data : List Int) : Op × Bool := if data.length = 4 then ({ st with asn := getV data, four := true }, true) else (st, false)
def capV (st : Op) (code : Int) (data : List Int) : Op × Bool :=
  if code = 65 then fourV st data else if code = 69 then pathsV (data.length + 1) st data else (st, true)
def paramV (st : Op) (_ : Int) (data : List Int) : Op × Bool := eachV capV (data.length + 1) st data

/-- What a body says: or a code, its sub and bytes, and nothing. -/
structure Ans where
  o : Op
  code : Int
  sub : Int
  data : List Int
def wrongO (sub : Int) (data : List Int) : Ans := ⟨Op.zero, 2, sub, data⟩
def toldV (st : Op) : Ans := if st.asn = 0 then wrongO 2 [] else if holdB st.hold = false then wrongO 6 [] else if st.id = 0 then wrongO 3 [] else ⟨st, 0, 0, []⟩
def beginO (xs : List Int) : Op := ⟨getV ((xs.drop 1).take 2), getV ((xs.drop 3).take 2), getV ((xs.drop 5).take 4), false, 0⟩
def formB (xs : List Int) : Bool := decide (10 ≤ xs.length) && (xs.getD 9 0 == ((xs.length : Int) - 10))
def restO (xs : List Int) : Ans :=
  if onlyV (xs.length + 1) (xs.drop 10) then
    (if (eachV paramV (xs.length + 1) (beginO xs) (xs.drop 10)).2 then toldV (eachV paramV (xs.length + 1) (beginO xs) (xs.drop 10)).1 else wrongO 0 [])
  else wrongO 4 []
def firstB (xs : List Int) : Bool := decide (0 < xs.length) && !(xs.getD 0 0 == 4)
def getO (xs : List Int) : Ans := if firstB xs then wrongO 1 [0, 4] else if formB xs then restO xs else wrongO 0 []

/-! What is put is got. -/
theorem putL_two' (v : Int) : putL v 2 = [byteOf v 2 0, byteOf v 2 1] := by simp [putL, List.range_succ]
theorem putL_four (v : Int) : putL v 4 = [byteOf v 4 0, byteOf v 4 1, byteOf v 4 2, byteOf v 4 3] := by simp [putL, List.range_succ]
theorem fits2 {n : Int} (h0 : 0 ≤ n) (h1 : n ≤ 65535) : fitsB n 2 = true := by
  have : (2 : Int) ^ (8 * 2) = 65536 := rfl
  simp [fitsB, this]; omega
theorem fits4 {n : Int} (h0 : 0 ≤ n) (h1 : n ≤ 4294967295) : fitsB n 4 = true := by
  have : (2 : Int) ^ (8 * 4) = 4294967296 := rfl
  simp [fitsB, this]; omega
theorem back2 {n : Int} (h0 : 0 ≤ n) (h1 : n ≤ 65535) : getV [byteOf n 2 0, byteOf n 2 1] = n := by
  rw [← putL_two']; exact putL_back (by omega) (by omega) (fits2 h0 h1)
theorem back4 {n : Int} (h0 : 0 ≤ n) (h1 : n ≤ 4294967295) : getV [byteOf n 4 0, byteOf n 4 1, byteOf n 4 2, byteOf n 4 3] = n := by
  rw [← putL_four]; exact putL_back (by omega) (by omega) (fits4 h0 h1)
theorem short_bd {o : Op} (h : okO o = true) : 1 ≤ shortAS o.asn ∧ shortAS o.asn ≤ 65535 := by
  obtain ⟨a, _⟩ := okO_yes h
  unfold shortAS; split <;> omega
theorem short_same {o : Op} (h : okO o = true) (h4 : o.four = false) : shortAS o.asn = o.asn := by
  obtain ⟨_, b, _⟩ := okO_yes h
  rw [h4] at b
  simp [mostAS] at b
  unfold shortAS; rw [if_neg (by omega)]
/-- What the front of a body says. -/
def heardO (o : Op) : Op := ⟨shortAS o.asn, o.hold, o.id, false, 0⟩
theorem wayB_ok {p : Int} (h1 : 1 ≤ p) (h3 : p ≤ 3) : wayB 0 1 1 p = true := by
  simp [wayB, h1, h3, getV]
/-- The capabilities of o make what was heard o. -/
theorem caps_told {o : Op} (h : okO o = true) (f : Nat) (hf : 4 ≤ f) : eachV capV f (heardO o) (capsO o) = (o, true) := by
  have hs4 := short_same h
  obtain ⟨a1, a2, a3, a4, a5, a6⟩ := okO_yes h
  have hm := (mostAS_le o.four).2
  have hb := back4 (n := o.asn) (by omega) (by omega)
  obtain ⟨g, rfl⟩ : ∃ g, f = g + 4 := ⟨f - 4, by omega⟩
  obtain ⟨asn, hold, id, four, paths⟩ := o
  simp only at *
  unfold capsO fourC pathsC heardO
  rw [putL_four]
  generalize byteOf asn 4 0 = x0 at *
  generalize byteOf asn 4 1 = x1 at *
  generalize byteOf asn 4 2 = x2 at *
  generalize byteOf asn 4 3 = x3 at *
  cases four
  · have hs := hs4 rfl
    by_cases hp : paths = 0
    · simp [hp, eachV, capV, hs]
    · have hw := wayB_ok (p := paths) (by omega) a6
      simp [hp, eachV, capV, hs, pathsV, hw]
  · by_cases hp : paths = 0
    · simp [hp, eachV, capV, fourV, hb]
    · have hw := wayB_ok (p := paths) (by omega) a6
      simp [hp, eachV, capV, fourV, hb, pathsV, hw]
theorem caps_len {o : Op} : (capsO o).length ≤ 18 ∧ 6 ≤ (capsO o).length := by
  unfold capsO fourC pathsC
  rw [putL_four]
  split <;> split <;> simp
theorem front_len (o : Op) : (frontO o).length = 9 := by unfold frontO; simp [putL_len]
theorem front_begin {o : Op} (h : okO o = true) (hid0 : 0 ≤ o.id) (hid : o.id ≤ 4294967295) (t : List Int) : beginO (frontO o ++ t) = heardO o := by
  obtain ⟨a1, a2, a3, a4, a5, a6⟩ := okO_yes h
  obtain ⟨s1, s2⟩ := short_bd h
  have h3 := holdB_yes a3
  have b1 := back2 (n := shortAS o.asn) (by omega) s2
  have b2 := back2 (n := o.hold) (by omega) (by omega)
  have b3 := back4 hid0 hid
  unfold beginO frontO heardO
  rw [putL_two', putL_two', putL_four]
  simp [b1, b2, b3]
theorem front_first (o : Op) (t : List Int) : firstB (frontO o ++ t) = false := by simp [firstB, frontO]
theorem front_form (o : Op) (x : Int) (t : List Int) : formB (frontO o ++ x :: t) = (x == (t.length : Int)) := by
  have hl := front_len o
  have h9 : (frontO o ++ x :: t).getD 9 0 = x := by
    simp [List.getD, hl]
  unfold formB
  rw [h9]
  have hl2 : (frontO o ++ x :: t).length = 10 + t.length := by simp [hl]; omega
  rw [hl2, decide_eq_true (by omega), Bool.true_and]
  congr 1
  omega
theorem front_drop (o : Op) (x : Int) (t : List Int) : (frontO o ++ x :: t).drop 10 = t := by
  have hl := front_len o
  rw [List.drop_append, List.drop_eq_nil_of_le (by omega), hl]
  simp
theorem told_ok {o : Op} (h : okO o = true) : toldV o = ⟨o, 0, 0, []⟩ := by
  obtain ⟨a1, a2, a3, a4, a5, a6⟩ := okO_yes h
  unfold toldV
  rw [if_neg (by omega), if_neg (by simp [a3]), if_neg a4]
/-- Behind the capabilities of o others may stand that count for nothing. -/
theorem getO_more {o : Op} (h : okO o = true) (hid0 : 0 ≤ o.id) (hid : o.id ≤ 4294967295) (t : List Int) (ht : ∀ f, t.length < f → onlyV f t = true ∧ eachV paramV f o t = (o, true)) :
    getO (frontO o ++ (((saidO o ++ t).length : Int) :: (saidO o ++ t))) = ⟨o, 0, 0, []⟩ := by
  have hcl := caps_len (o := o)
  unfold getO
  rw [front_first, front_form]
  simp only [beq_self_eq_true, if_true, Bool.false_eq_true, if_false]
  unfold restO
  rw [front_drop, front_begin h hid0 hid]
  obtain ⟨f, hf⟩ : ∃ f, (frontO o ++ ((saidO o ++ t).length : Int) :: (saidO o ++ t)).length + 1 = f + 1 := ⟨_, rfl⟩
  have hfl : t.length + 20 < f + 20 ∧ t.length < f := by
    simp [front_len, saidO] at hf; omega
  rw [hf]
  have e1 : (capsO o ++ t).take (capsO o).length = capsO o := by simp
  have e2 : (capsO o ++ t).drop (capsO o).length = t := by simp
  have ho : onlyV (f + 1) (saidO o ++ t) = true := by
    unfold saidO
    simp only [List.cons_append, onlyV, if_true]
    rw [if_pos (by simp), Int.toNat_natCast, e2]
    exact (ht f hfl.2).1
  have he : eachV paramV (f + 1) (heardO o) (saidO o ++ t) = (o, true) := by
    unfold saidO
    simp only [List.cons_append, eachV]
    rw [if_pos (by simp), Int.toNat_natCast, e1, e2]
    unfold paramV
    rw [caps_told h _ (by omega)]
    exact (ht f hfl.2).2
  rw [ho, he]
  simp [told_ok h]
theorem getO_put {o : Op} (h : okO o = true) (hid0 : 0 ≤ o.id) (hid : o.id ≤ 4294967295) : getO (putO o) = ⟨o, 0, 0, []⟩ := by
  have := getO_more h hid0 hid [] (fun f hf => by cases f <;> simp [onlyV, eachV])
  rw [List.append_nil] at this
  exact this
/-- Capabilities that count for nothing. -/
theorem getO_caps {o : Op} (h : okO o = true) (hid0 : 0 ≤ o.id) (hid : o.id ≤ 4294967295) (code : Int) (hc1 : code ≠ 65) (hc2 : code ≠ 69) (data : List Int) :
    getO (frontO o ++ (((saidO o ++ (2 :: ((data.length + 2 : Nat) : Int) :: code :: (data.length : Int) :: data)).length : Int) :: (saidO o ++ (2 :: ((data.length + 2 : Nat) : Int) :: code :: (data.length : Int) :: data)))) = ⟨o, 0, 0, []⟩ := by
  refine getO_more h hid0 hid _ (fun f hf => ?_)
  obtain ⟨g, rfl⟩ : ∃ g, f = g + 2 := ⟨f - 2, by simp at hf; omega⟩
  have e1 : (code :: (data.length : Int) :: data).take (data.length + 2) = code :: (data.length : Int) :: data := List.take_of_length_le (by simp)
  have e2 : (code :: (data.length : Int) :: data).drop (data.length + 2) = [] := List.drop_eq_nil_of_le (by simp)
  refine ⟨?_, ?_⟩
  · simp only [onlyV, if_true]
    rw [if_pos (by rw [Int.toNat_natCast]; simp only [List.length_cons]; omega), Int.toNat_natCast, e2, onlyV]
  · simp only [eachV]
    rw [if_pos (by rw [Int.toNat_natCast]; simp only [List.length_cons]; omega), Int.toNat_natCast, e1, e2]
    have : paramV o 2 (code :: (data.length : Int) :: data) = (o, true) := by
      unfold paramV
      simp only [List.length_cons, eachV]
      rw [if_pos (by simp), Int.toNat_natCast, List.take_length, List.drop_length]
      simp [capV, hc1, hc2, eachV]
    rw [this]
    simp only [eachV]
/-- No beginning of a body says anything. -/
theorem getO_short {o : Op} (n : Nat) (hn : n < (putO o).length) : (getO ((putO o).take n)).o = Op.zero ∧ (getO ((putO o).take n)).code = 2 := by
  have hfl := front_len o
  unfold getO
  by_cases h0 : firstB ((putO o).take n) = true
  · rw [if_pos h0]; exact ⟨rfl, rfl⟩
  · rw [if_neg h0]
    have hf : formB ((putO o).take n) = false := by
      unfold formB
      have hl : ((putO o).take n).length = n := by rw [List.length_take]; omega
      rw [hl]
      by_cases h10 : 10 ≤ n
      · have h9 : ((putO o).take n).getD 9 0 = ((saidO o).length : Int) := by
          simp [List.getD, List.getElem?_take_of_lt (show 9 < n by omega), putO, hfl]
        rw [h9, decide_eq_true h10, Bool.true_and, beq_eq_false_iff_ne]
        simp [putO, hfl] at hn
        omega
      · rw [decide_eq_false h10, Bool.false_and]
    rw [hf]
    exact ⟨rfl, rfl⟩
end Go.Proofs.Ytbacnjijfffobaa
