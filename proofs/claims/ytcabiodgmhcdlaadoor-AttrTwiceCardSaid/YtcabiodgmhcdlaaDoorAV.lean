/- attr: what is there twice: the first ones count. -/
import Derived.Test.YtcabiodgmhcdlaaDoorAU
namespace Go.Proofs.YtcabiodgmhcdlaaDoor
open Go.RowKit

/-- An attribute of a type that was seen is passed over. -/
theorem getS_seen (four : Bool) (f : Nat) (a : At) (th fl K : Int) (k : Nat) (data rest : List Int) (hK : K = k) (hfl : fl = 64 ∨ fl = 128 ∨ fl = 192) (hk : flagsL.getD k 0 = fl) (hs : seenB th k = true) (hm : data.length ≤ 65535) :
    getS four (f + 1) (a, th) (attrL fl K data ++ rest) = getS four f (a, th) rest := by
  subst hK
  have h0 : ¬flagsL.getD k 0 = 0 := by rw [hk]; rcases hfl with rfl | rfl | rfl <;> decide
  have ht : ∀ g, takeV four (a, th) g k data = some (a, th) := by
    intro g
    unfold takeV
    rw [if_neg h0, hs, if_pos rfl]
  by_cases hd : data.length ≤ 255
  · rw [getS_step four f (a, th) fl k data rest hfl hd, ht fl]
    rfl
  · rw [getS_long four f (a, th) fl k data rest hfl (by omega) hm, ht (fl + 16)]
    rfl
/-- One of another type, that is optional, is passed over. -/
theorem getS_far (four : Bool) (f : Nat) (a : At) (th K : Int) (k : Nat) (data rest : List Int) (hK : K = k) (h9 : 9 ≤ k) (hd : data.length ≤ 255) :
    getS four (f + 1) (a, th) (attrL 192 K data ++ rest) = getS four f (a, th) rest := by
  subst hK
  have ht : takeV four (a, th) 192 k data = some (a, th) := by
    unfold takeV
    rw [if_pos (flags_far h9), if_pos (by decide +kernel)]
  rw [getS_step four f (a, th) 192 k data rest (by simp) hd, ht]
  rfl
/-- Bytes that change nothing behind what was heard. -/
def Passes (four : Bool) (s : At × Int) (xs : List Int) : Prop := ∀ (rest : List Int) (r : Option (At × Int)) (g : Nat), (∀ f, g ≤ f → getS four f s rest = r) → ∀ f, g + 1 ≤ f → getS four f s (xs ++ rest) = r
theorem Passes.nil (four : Bool) (s : At × Int) : Passes four s [] := fun _ _ _ h f hf => h f (by omega)
theorem Passes.attr (four : Bool) (a : At) (th fl K : Int) (k : Nat) (data : List Int) (hK : K = k) (hfl : fl = 64 ∨ fl = 128 ∨ fl = 192) (hk : flagsL.getD k 0 = fl) (hs : seenB th k = true) (hm : data.length ≤ 65535) : Passes four (a, th) (attrL fl K data) := fun rest r g h f hf => by
  obtain ⟨e, rfl⟩ : ∃ e, f = e + 1 := ⟨f - 1, by omega⟩
  rw [getS_seen four e a th fl K k data rest hK hfl hk hs hm]
  exact h e (by omega)
theorem passes_put (four : Bool) (a c : At) (hk : okA c four = true) (f : Nat) (hf : 7 ≤ f) : getS four f (a, 318) (putA c four) = some (a, 318) := by
  obtain ⟨hp, _⟩ := okA_parts hk
  have hsl := segsL_le hp.path
  have hcl := hp.c0
  have p1 : Passes four (a, 318) (attrL 64 1 [c.origin]) := Passes.attr four a 318 64 1 1 _ rfl (by simp) (by decide) (by decide +kernel) (by simp)
  have p2 : Passes four (a, 318) (attrL 64 2 (segsL four c.path)) := Passes.attr four a 318 64 2 2 _ rfl (by simp) (by decide) (by decide +kernel) (by omega)
  have p3 : Passes four (a, 318) (attrL 64 3 (putL c.next 4)) := Passes.attr four a 318 64 3 3 _ rfl (by simp) (by decide) (by decide +kernel) (by rw [putL_len]; omega)
  have p4 : Passes four (a, 318) (medL c.med) := by
    unfold medL; split
    · exact Passes.attr four a 318 128 4 4 _ rfl (by simp) (by decide) (by decide +kernel) (by rw [putL_len]; omega)
    · exact Passes.nil _ _
  have p5 : Passes four (a, 318) (prefL c.pref) := by
    unfold prefL; split
    · exact Passes.attr four a 318 64 5 5 _ rfl (by simp) (by decide) (by decide +kernel) (by rw [putL_len]; omega)
    · exact Passes.nil _ _
  have p6 : Passes four (a, 318) (commsL c.comms) := by
    unfold commsL; split
    · exact Passes.attr four a 318 192 8 8 _ rfl (by simp) (by decide) (by decide +kernel) (by rw [numsL_len]; omega)
    · exact Passes.nil _ _
  have q0 : ∀ f, 1 ≤ f → getS four f (a, 318) [] = some (a, 318) := fun f h => by
    obtain ⟨e, rfl⟩ : ∃ e, f = e + 1 := ⟨f - 1, by omega⟩
    rfl
  have q6 := p6 _ _ _ q0
  have q5 := p5 _ _ _ q6
  have q4 := p4 _ _ _ q5
  have q3 := p3 _ _ _ q4
  have q2 := p2 _ _ _ q3
  have q1 := p1 _ _ _ q2
  have h := q1 f hf
  rw [List.append_nil] at h
  rw [← h]
  simp only [putA, List.append_assoc]
/-- All six attributes, whatever stands behind. -/
theorem getS_all (a : At) (four : Bool) (hk : okA a four = true) (n0 : 0 ≤ a.next) (n1 : a.next ≤ 4294967295) (hm : 0 ≤ a.med) (hq : 0 ≤ a.pref) (hz : 0 < a.comms.length) (f : Nat) (rest : List Int) :
    getS four (f + 6) (At.start, 0) (putA a four ++ rest) = getS four f (a, 318) rest := by
  obtain ⟨hp, hn⟩ := okA_parts hk
  have hc := okA_comms hk
  have hsl := segsL_le hp.path
  obtain ⟨origin, path, next, med, pref, comms⟩ := a
  have hm1 := hp.m1
  have hp1 := hp.p1
  have hcl := hp.c0
  have hcf := hp.c1
  have ho0 := hp.o0
  have ho1 := hp.o1
  simp only at hn n0 n1 hc hsl hm1 hp1 hcl hcf hm hq hz ho0 ho1
  have hpath := hp.path
  simp only at hpath
  have l3 : (putL next 4).length ≤ 65535 := by rw [putL_len]; omega
  have l4 : (putL med 4).length ≤ 65535 := by rw [putL_len]; omega
  have l5 : (putL pref 4).length ≤ 65535 := by rw [putL_len]; omega
  have l8 : (numsL 4 comms).length ≤ 65535 := by rw [numsL_len]; omega
  have e : putA ⟨origin, path, next, med, pref, comms⟩ four ++ rest = attrL 64 1 [origin] ++ (attrL 64 2 (segsL four path) ++ (attrL 64 3 (putL next 4) ++ (attrL 128 4 (putL med 4) ++ (attrL 64 5 (putL pref 4) ++ (attrL 192 8 (numsL 4 comms) ++ rest))))) := by
    simp only [putA, List.append_assoc]
    rw [show medL med = attrL 128 4 (putL med 4) from if_pos hm, show prefL pref = attrL 64 5 (putL pref 4) from if_pos hq, show commsL comms = attrL 192 8 (numsL 4 comms) from if_pos hz]
  rw [e]
  rw [show f + 6 = (f + 5) + 1 from rfl, getS_at four (f + 5) At.start 0 64 1 1 [origin] _ rfl (by simp) (by decide) (by decide +kernel) (by simp), read_origin four _ _ ho0 ho1, Option.bind_some]
  rw [show f + 5 = (f + 4) + 1 from rfl, getS_at four (f + 4) _ _ 64 2 2 (segsL four path) _ rfl (by simp) (by decide) (by decide +kernel) (by omega), read_path four _ path hpath, Option.bind_some]
  rw [show f + 4 = (f + 3) + 1 from rfl, getS_at four (f + 3) _ _ 64 3 3 (putL next 4) _ rfl (by simp) (by decide) (by decide +kernel) l3, read_next four _ next n0 n1 hn, Option.bind_some]
  rw [show f + 3 = (f + 2) + 1 from rfl, getS_at four (f + 2) _ _ 128 4 4 (putL med 4) _ rfl (by simp) (by decide) (by decide +kernel) l4, read_med four _ med hm hm1, Option.bind_some]
  rw [show f + 2 = (f + 1) + 1 from rfl, getS_at four (f + 1) _ _ 64 5 5 (putL pref 4) _ rfl (by simp) (by decide) (by decide +kernel) l5, read_pref four _ pref hq hp1, Option.bind_some]
  rw [getS_at four f _ _ 192 8 8 (numsL 4 comms) _ rfl (by simp) (by decide) (by decide +kernel) l8, read_comms four _ comms hz hcf hc, Option.bind_some]
  rw [show setT (setT (setT (setT (setT (setT 0 1) 2) 3) 4) 5) 8 = 318 from by decide +kernel]
theorem getA_twice (a c : At) (four : Bool) (K : Int) (data : List Int) (ha : okA a four = true) (hc : okA c four = true) (n0 : 0 ≤ a.next) (n1 : a.next ≤ 4294967295) (hm : 0 ≤ a.med) (hq : 0 ≤ a.pref) (hz : 0 < a.comms.length) (k9 : 9 ≤ K) (hd : data.length ≤ 255) :
    getA (putA a four ++ [192, K, (data.length : Int)] ++ data ++ putA c four) four = (a, 1) := by
  have la := (putA_len a four ha).1
  have lc := (putA_len c four hc).1
  obtain ⟨k, rfl⟩ := Int.eq_ofNat_of_zero_le (show 0 ≤ K by omega)
  have e : putA a four ++ [192, (k : Int), (data.length : Int)] ++ data ++ putA c four = putA a four ++ (attrL 192 k data ++ putA c four) := by
    rw [attrL_short rfl hd]
    simp
  rw [e]
  unfold getA
  obtain ⟨g, hg⟩ : ∃ g, (putA a four ++ (attrL 192 k data ++ putA c four)).length + 1 = g + 1 + 6 ∧ 7 ≤ g := ⟨(putA a four ++ (attrL 192 k data ++ putA c four)).length - 6, by simp only [List.length_append]; omega, by simp only [List.length_append]; omega⟩
  rw [hg.1, getS_all a four ha n0 n1 hm hq hz (g + 1) _, getS_far four g a 318 k k data _ rfl (by omega) hd, passes_put four a c hc g hg.2]
  simp only [finA]
  rw [show wholeB 318 = true from by decide +kernel]
  rfl
end Go.Proofs.YtcabiodgmhcdlaaDoor
