/- Numbers in lists; copies of nothing; where a list of one's own lies (for a seat without load). -/
import Derived.Test.YtljbebeaahcjaaaZa
namespace Go.Proofs.Ytljbebeaahcjaaa
open Go.RowKit Go.Maps
set_option linter.unusedVariables false
set_option linter.unusedSimpArgs false
set_option maxRecDepth 100000

def inC (x : Int) : List Value := [.int .i64 x]
def InI (x : Int) : Prop := (Lit.int .i64 x).wf = true
theorem rowIn : RowC 31 3 inC InI 0 (.int .i64 0) 1 8 where
  len x := rfl
  pos := by omega
  zs := rfl
  byl := by omega
  info := by kernel_rfl
  under := Try.underlying31
  elem := by kernel_rfl
  size w := by kernel_rfl
  one x u hu := by
    simp [inC] at hu
    subst hu
    rfl
theorem in_cell {w : World} {p : Option Addr} {l : List Int} {n k : Nat} (h : LAt inC InI 0 1 w p l) (hn : l.length = n) (hk : k < n) : ∃ b off, p = some ⟨b, off, none⟩ ∧ w.cell? ⟨b, off + k, none⟩ = some (.int .i64 (l.getD k 0)) := by
  obtain ⟨b, off, rfl, hc⟩ := h.cell hn hk
  have := hc 0 _ rfl
  rw [Nat.mul_one] at this
  exact ⟨b, off, rfl, this⟩
theorem seg_eq_nil (w : World) : (binOp .eql 30 (.slice none 0 0) (.slice none 0 0)).run Try.prog w = .ok (.bool true) w := by kernel_rfl
theorem ints_eq_nil (w : World) : (binOp .eql 31 (.slice none 0 0) (.slice none 0 0)).run Try.prog w = .ok (.bool true) w := by kernel_rfl
theorem clone_nil1 (w : World) : Calls Try.prog 69 #[.slice none 0 0] w fun e w' => e = .returned (.slice none 0 0) ∧ w = w' := by
  have hq := seg_eq_nil w
  go_enter Try.func69, Try.ntmps69
  go_wp2_with fail
  go_ret
  exact ⟨rfl, rfl⟩
theorem clone_nil2 (w : World) : Calls Try.prog 70 #[.slice none 0 0] w fun e w' => e = .returned (.slice none 0 0) ∧ w = w' := by
  have hq := ints_eq_nil w
  go_enter Try.func70, Try.ntmps70
  go_wp2_with fail
  go_ret
  exact ⟨rfl, rfl⟩
theorem own_ge {α : Type} {et : TypeId} {c : α → List Value} {ok : α → Prop} {sz : Nat} {w : World} {B : Nat} {q : Option Addr} {n cap : Nat} {l : List α} (h : LOwn et c ok sz w B q n cap l) : ∀ b off, q = some ⟨b, off, none⟩ → B ≤ b := by
  intro b off e
  subst e
  rcases h.row.2 with ⟨hv, _⟩ | ⟨g, c', cur, hv, hB, _⟩
  · cases hv
  · simp only [Value.slice.injEq, Option.some.injEq, Addr.mk.injEq] at hv
    obtain ⟨⟨rfl, _⟩, _⟩ := hv
    exact hB
end Go.Proofs.Ytljbebeaahcjaaa
