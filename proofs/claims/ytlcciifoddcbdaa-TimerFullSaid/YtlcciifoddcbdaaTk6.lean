/- timer: Next. -/
import Derived.Test.YtlcciifoddcbdaaTk5
namespace Go.Proofs.Ytlcciifoddcbdaa
open Go.RowKit Go.Maps

/-- The least moment of those that have been seen. -/
def LeastT (D : DataW Unit) (left : Lit → Bool) (m : Int) (i : Bool) : Prop :=
  (i = false → m = 0 ∧ ∀ kl, has D kl = true → left kl = true) ∧
  (i = true → (∃ x, okT x ∧ has D (litT x) = true ∧ D.atKey (litT x) (inT 0) = inT m) ∧ ∀ x c, okT x → has D (litT x) = true → left (litT x) = false → D.atKey (litT x) (inT 0) = inT c → m ≤ c)
theorem LeastT.start (D : DataW Unit) : LeastT D (has D) 0 false := ⟨fun _ => ⟨rfl, fun _ h => h⟩, fun h => by cases h⟩
theorem sameKey_lit {x y : Tk} (hx : okT x) (hy : okT y) : (litT x).sameKey (litT y) = true ↔ x = y := by
  constructor
  · intro h; exact litT_inj hx hy (by simpa [litT, Lit.sameKey] using h)
  · rintro rfl; simp [litT, Lit.sameKey]
theorem LeastT.take {D : DataW Unit} {left : Lit → Bool} {m : Int} {i : Bool} (h : LeastT D left m i) (x : Tk) (hok : okT x) (c : Int) (hhas : has D (litT x) = true) (hat : D.atKey (litT x) (inT 0) = inT c) (hlt : i = false ∨ c < m) :
    LeastT D (fun z => left z && !z.sameKey (litT x)) c true := by
  refine ⟨fun e => (by cases e), fun _ => ⟨⟨x, hok, hhas, hat⟩, fun y cy hy hh hl hc => ?_⟩⟩
  by_cases hxy : y = x
  · subst hxy; rw [hat] at hc; exact Int.le_of_eq (inT_inj hc)
  · have hs : (litT y).sameKey (litT x) = false := by
      cases e : (litT y).sameKey (litT x) with
      | false => rfl
      | true => exact absurd ((sameKey_lit hy hok).1 e) hxy
    dsimp only at hl
    rw [hs] at hl
    simp only [Bool.not_false, Bool.and_true] at hl
    rcases i with _ | _
    · exact absurd ((h.1 rfl).2 _ hh) (by simp [hl])
    · have h1 := (h.2 rfl).2 y cy hy hh hl hc
      rcases hlt with hlt | hlt
      · cases hlt
      · omega
theorem LeastT.keep {D : DataW Unit} {left : Lit → Bool} {m : Int} (h : LeastT D left m true) (x : Tk) (hok : okT x) (c : Int) (hat : D.atKey (litT x) (inT 0) = inT c) (hle : m ≤ c) :
    LeastT D (fun z => left z && !z.sameKey (litT x)) m true := by
  refine ⟨fun e => (by cases e), fun _ => ⟨(h.2 rfl).1, fun y cy hy hh hl hc => ?_⟩⟩
  by_cases hxy : y = x
  · subst hxy; rw [hat] at hc; have := inT_inj hc; omega
  · have hs : (litT y).sameKey (litT x) = false := by
      cases e : (litT y).sameKey (litT x) with
      | false => rfl
      | true => exact absurd ((sameKey_lit hy hok).1 e) hxy
    dsimp only at hl
    rw [hs] at hl
    simp only [Bool.not_false, Bool.and_true] at hl
    exact (h.2 rfl).2 y cy hy hh hl hc
theorem LeastT.done {D : DataW Unit} {left : Lit → Bool} {m : Int} {i : Bool} (h : LeastT D left m i) (hl : ∀ kl, left kl = false) : LeastT D (fun _ => false) m i := by
  have : left = fun _ => false := funext hl
  rw [← this]; exact h
def NexR (w : World) (b n : Nat) (D : DataW Unit) (vm vi : Value) (wr : World) : Prop :=
  ∃ (left : Lit → Bool) (cnt : Nat) (m : Int) (i : Bool), vm = .int .i64 m ∧ vi = .bool i ∧ wr.ranges Try.prog 31 (plainElem Try.prog 3) b w.heap.size n D left cnt ∧ LeastT D left m i ∧ (∀ kl, left kl = true → has D kl = true) ∧ Below w.heap.size w wr

theorem tnext_any (w : World) (g b n : Nat) (D : DataW Unit) (h : TmP w g b n D) :
    Calls Try.prog 18 #[.pointer (some ⟨g, 0, none⟩)] w fun e w' => ∃ m i, e = .returned (.tuple #[.int .i64 m, .bool i]) ∧ LeastT D (fun _ => false) m i ∧ Below w.heap.size w w' := by
  have H := Lib.hid h
  clear h
  go_enter Try.func18, Try.ntmps18
  go_wp2_with (first
    | (go_at_call 21; refine (tall_any _ _ _ _ _ H.out).mono ?_; rintro e w' ⟨rfl, rfl⟩)
    | (at_range; refine wpList_range_own _ rfl _ 49 rfl 31 3 tk_keyed Try.underlying49 _ b n D rfl H.out.map ?_; intro w0 hrg0 hg0 hs0))
  go_frame
  go_loopw [4, 5] (fun vm vi wr => NexR w b n D vm vi wr) (fun _ _ wr => wr.rangeLeft b w.heap.size)
  case atStart => exact ⟨_, _, 0, false, rfl, rfl, hrg0, LeastT.start D, fun _ h => h, (Below.refl _ w).grown hg0 (Nat.le_refl _) (fun k e => by cases e)⟩
  case round =>
    obtain ⟨left, cnt, m, i, rfl, rfl, hrg, hle, hsub, hbw⟩ := hrel
    go_wp2_with (at_next; refine wpList_next_ranges _ rfl _ rfl 31 tk_keyed _ tkV (Value.int .i64) (fun key kl hkey => by obtain ⟨x, rfl, _⟩ := keyT_inv hkey; exact ⟨x, rfl⟩) (fun v y hv => by obtain ⟨c, rfl, _⟩ := plainElem_int_inv Try.underlying3 hv; exact ⟨c, rfl⟩) b w.heap.size n D left cnt rfl hrg ?_ ?_)
    · intro _ hl0
      go_wp2_with fail
      exact bodyPost_ret (v := .tuple #[.int .i64 m, .bool i]) (by simp [results, Try.results18, go_sem]) rfl ⟨m, i, rfl, hle.done hl0, hbw⟩
    · intro x c kl y1 y2 w1 cnt1 hkey hlk hv hat hrg1 hlt hg1 hs1 hen
      obtain ⟨x', hxx, hok, rfl⟩ := keyT_inv hkey
      obtain ⟨c', hcc, hy, hwc⟩ := plainElem_int_inv Try.underlying3 hv
      cases hcc
      cases hy
      obtain rfl : x = x' := by
        obtain ⟨p, q⟩ := x; obtain ⟨p', q'⟩ := x'; unfold tkV at hxx; simp at hxx; obtain ⟨rfl, rfl⟩ := hxx; rfl
      have hat0 : D.atKey (litT x) (inT 0) = inT c := hat _
      have hhas := hsub _ hlk
      have hbw1 := hbw.grown hg1 hbw.size (fun k e => by cases e; exact Nat.le_refl _)
      have hsub1 : ∀ kl, (left kl && !kl.sameKey (litT x)) = true → has D kl = true := fun kl hl => hsub kl (by simp at hl; exact hl.1)
      have hdrop : wr.rangeLeft b w.heap.size > w1.rangeLeft b w.heap.size := by rw [hrg1.left_eq, hrg.left_eq]; exact hlt
      rcases i with _ | _
      · go_wp2_with fail
        go_roundw
        case rel => exact ⟨_, cnt1, c, true, rfl, rfl, hrg1, hle.take x hok c hhas hat0 (Or.inl rfl), hsub1, hbw1⟩
        case measure => exact hdrop
      · by_cases hcm : c < m
        · have t0 : decide (c < m) = true := by simp [hcm]
          go_wp2_with fail
          go_roundw
          case rel => exact ⟨_, cnt1, c, true, rfl, rfl, hrg1, hle.take x hok c hhas hat0 (Or.inr hcm), hsub1, hbw1⟩
          case measure => exact hdrop
        · have t0 : decide (c < m) = false := by simp [hcm]
          go_wp2_with fail
          go_roundw
          case rel => exact ⟨_, cnt1, m, true, rfl, rfl, hrg1, hle.keep x hok c hat0 (by omega), hsub1, hbw1⟩
          case measure => exact hdrop
end Go.Proofs.Ytlcciifoddcbdaa
