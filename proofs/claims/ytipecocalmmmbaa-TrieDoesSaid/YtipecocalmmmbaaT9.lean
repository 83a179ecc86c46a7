/- trie: what drop does, on worlds alone. -/
import Derived.Test.YtipecocalmmmbaaT8
namespace Go.Proofs.Ytipecocalmmmbaa
open Go.RowKit
set_option linter.unusedVariables false
set_option linter.unusedSimpArgs false

structure DropS (TR ND TH : TypeId) (w w' : World) (B t r : Nat) (s : Int) (N : Int → Nat → Option Nat) (L : List TE) (a : Int) (m d : Nat) (N' : Int → Nat → Option Nat) : Prop where
  intro ::
  tr : TrAt TR ND TH w' B t r s N' (delT L a m)
  turn : Turns (TrIn t N) w w'
  sub : ∀ x e c, N' x e = some c → N x e = some c
  keep : ∀ x e, e ≤ d → N' x e = N x e
/-- Is nothing left of a node? -/
def goneB (N : Int → Nat → Option Nat) (L : List TE) (x : Int) (d : Nat) : Bool := (atT L x d).isNone && ((N x (d + 1)).isNone && (N (x + pw d) (d + 1)).isNone)
section
variable {TR ND TH : TypeId} {w w' w1 : World} {B t r : Nat} {s : Int} {N N' : Int → Nat → Option Nat} {L : List TE} {a : Int} {m d b : Nat}
theorem drop_base (h : TrAt TR ND TH w B t r s N L) (hb : N (mk a m) m = some b) (hok : okP a m = true) : DropS TR ND TH w (w.setCell ⟨b, 0, none⟩ (.pointer none)) B t r s N L a m m N := by
  rw [mk_self hok] at hb
  exact ⟨h.clear hb, (Turns.refl _ _).setCell (.inl (.inr ⟨_, _, hb⟩)) _, fun _ _ _ h => h, fun _ _ _ => rfl⟩
theorem DropS.up (h : TrAt TR ND TH w B t r s N L) (hd : d < m) (h1 : DropS TR ND TH w w1 B t r s N L a m (d + 1) N') : DropS TR ND TH w w1 B t r s N L a m d N' :=
  ⟨h1.tr, h1.turn, h1.sub, fun x e he => h1.keep x e (by omega)⟩
theorem DropS.cut (h : TrAt TR ND TH w B t r s N L) (a0 : 0 ≤ a) (a1 : a < 4294967296) (hd : d < m) (hm : m ≤ 32) (hb : N (mk a d) d = some b) (h1 : DropS TR ND TH w w1 B t r s N L a m (d + 1) N') (hg : goneB N' (delT L a m) (mk a ((d + 1 : Nat) : Int)) (d + 1) = true) :
    DropS TR ND TH w (w1.setCell (kid b (bitP a d).toNat) (.pointer none)) B t r s N L a m d (upd N' (mk a ((d + 1 : Nat) : Int)) (d + 1) none) := by
  have hy := node_mk (a := a) (d := d + 1) (by omega) a0 a1
  have hdn := mk_down (a := a) (d := d) (by omega) a0 a1
  have hbit : bitP (mk a ((d + 1 : Nat) : Int)) d = bitP a d := by
    have h1 := kid_bit (by omega) hy
    rw [hdn] at h1
    have h2 := mk_next a0 a1 (show d ≤ 31 by omega)
    have hp := pw_pos d
    rcases bit_cases a d with e | e <;> rcases bit_cases (mk a ((d + 1 : Nat) : Int)) d with e' | e' <;> rw [e] at h2 <;> rw [e'] at h1 <;> omega
  unfold goneB at hg
  simp only [Bool.and_eq_true, Option.isNone_iff_eq_none] at hg
  have hb' : N' (mk (mk a ((d + 1 : Nat) : Int)) d) d = some b := by rw [hdn, h1.keep _ _ (by omega)]; exact hb
  have hl := h1.tr.less (by omega) hy hb' hg.1 hg.2.1 hg.2.2
  rw [hbit] at hl
  refine ⟨hl, h1.turn.setCell (.inl (.inr ⟨_, _, hb⟩)) _, fun x e c hc => ?_, fun x e he => ?_⟩
  · rcases upd_some hc with ⟨_, _, e1⟩ | ⟨_, hc⟩
    · cases e1
    · exact h1.sub _ _ _ hc
  · rw [upd_other (by omega)]; exact h1.keep x e (by omega)
/-- What the last look of drop reads. -/
theorem DropS.look (h1 : DropS TR ND TH w w1 B t r s N L a m d N') (hb : N (mk a d) d = some b) :
    w1.cell? ⟨b, 0, none⟩ = some (optP ((atT (delT L a m) (mk a d) d).map TE.g)) ∧ w1.cell? ⟨b, 1, none⟩ = some (optP (N' (mk a d) (d + 1))) ∧ w1.cell? ⟨b, 2, none⟩ = some (optP (N' (mk a d + pw d) (d + 1))) := by
  have hb' : N' (mk a d) d = some b := by rw [h1.keep _ _ (Nat.le_refl _)]; exact hb
  have := h1.tr.node _ _ _ hb'
  exact ⟨this.cell 0 (by simp), this.cell 1 (by simp), this.cell 2 (by simp)⟩
theorem TrAt.kidA (h : TrAt TR ND TH w B t r s N L) (a0 : 0 ≤ a) (a1 : a < 4294967296) (hd : d ≤ 31) (hb : N (mk a d) d = some b) : w.cell? (kid b (bitP a d).toNat) = some (optP (N (mk a ((d + 1 : Nat) : Int)) (d + 1))) ∧ w.frozen? (kid b (bitP a d).toNat) = false := by
  have hy := node_mk (a := a) (d := d + 1) (by omega) a0 a1
  have hdn := mk_down (a := a) (d := d) (by omega) a0 a1
  have hbit : bitP (mk a ((d + 1 : Nat) : Int)) d = bitP a d := by
    have h1 := kid_bit (by omega) hy
    rw [hdn] at h1
    have h2 := mk_next a0 a1 (show d ≤ 31 by omega)
    have hp := pw_pos d
    rcases bit_cases a d with e | e <;> rcases bit_cases (mk a ((d + 1 : Nat) : Int)) d with e' | e' <;> rw [e] at h2 <;> rw [e'] at h1 <;> omega
  have := h.kids hd hy (by rw [hdn]; exact hb)
  rw [hbit] at this
  exact ⟨this, (h.node _ _ _ hb).f _⟩
end
end Go.Proofs.Ytipecocalmmmbaa
