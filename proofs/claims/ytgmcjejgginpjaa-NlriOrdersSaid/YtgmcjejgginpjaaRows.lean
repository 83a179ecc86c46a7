/-
  No cell of these rows narrows 'for every input' (looked for: loops, veiled, ifaces, maps, wideKeys, modest, calm, conditions, laid).
  DERIVED. THE GIVEN ROWS OF THIS SEAT. 5 by the template 'for every input the law returns true; each argument reads behind the call as it read before'; 0 by the template 'total and deterministic' (their statements: YtgmcjejgginpjaaTotals.lean).
  GIVEN WITH THE SEED: the statements are not yours to turn. If you find one false, say at which input.
  Laid BY PROGRAM, IN A SANDBOX (cutbox-rows.mjs): the forced cells as the released guide's own fill.sh prints them over the translation 6fc01bec84c56c26… (all of the seat's roots in one cut). By AI agents, Wed Nov 11 2026. No macro, syntax, notation, axiom, sorry.
-/
import Derived.Test.YtgmcjejgginpjaaChecked
import GoSem.Claim
import GoSem.ClaimJoined
import GoSem.ClaimMapViews
import Derived.JoinedTies
import Derived.KernelRfl
namespace Go.Proofs.Ytgmcjejgginpjaa
/- THE CELL 'sum', in the pinned program and in every row, IS THE sha256 OF THE DUMP (.gsa) THAT YtgmcjejgginpjaaProg.lean LOADS. Nothing in Lean hashes anything: it is a label: what it is worth is what the hold of that sum in a sandbox is worth. -/
noncomputable def Try.pinned : Pinned := { name := "ytgmcjejgginpjaa", sum := "6fc01bec84c56c26f42bc2d3933b08cf4c772ab42e23efebdd0e23e6c15eab58", checked := Try.checked }
namespace Rows
def none {H : Type} : Left H := { results := [], args := [] }

/-- 'bypathlaw06.NlriPuts': WHATEVER THE INPUT: true; the input reads as it did. -/
def nlriPutsSpec : ChangeSpec := { name := "nlriPuts", fn := fun _ => fun
  | [d1, d2] => { results := [.lit (.bool true)], args := [d1, d2] }
  | _ => none }
def nlriPutsRow : OpenClaim := { program := "ytgmcjejgginpjaa", sum := "6fc01bec84c56c26f42bc2d3933b08cf4c772ab42e23efebdd0e23e6c15eab58", func := "bypath/bypathlaw06.NlriPuts", spec := "nlriPuts", unfollowed := true, recurses := true, plainKeys := false, apart := false }
def NlriPutsSaid : Prop := nlriPutsRow.holds Try.pinned (OpenSpec.ofChange nlriPutsSpec)

/-- ITS FALSE NEIGHBOUR: 'it returns false'. Refute it at one input. -/
def nlriPutsWrong : ChangeSpec := { name := "nlriPuts", fn := fun _ => fun
  | [d1, d2] => { results := [.lit (.bool false)], args := [d1, d2] }
  | _ => none }
def NlriPutsWrongFalsely : Prop := nlriPutsRow.holds Try.pinned (OpenSpec.ofChange nlriPutsWrong)

/-- 'bypathlaw06.NlriGets': WHATEVER THE INPUT: true; the input reads as it did. -/
def nlriGetsSpec : ChangeSpec := { name := "nlriGets", fn := fun _ => fun
  | [d1, d2] => { results := [.lit (.bool true)], args := [d1, d2] }
  | _ => none }
def nlriGetsRow : OpenClaim := { program := "ytgmcjejgginpjaa", sum := "6fc01bec84c56c26f42bc2d3933b08cf4c772ab42e23efebdd0e23e6c15eab58", func := "bypath/bypathlaw06.NlriGets", spec := "nlriGets", unfollowed := true, recurses := true, plainKeys := false, apart := false }
def NlriGetsSaid : Prop := nlriGetsRow.holds Try.pinned (OpenSpec.ofChange nlriGetsSpec)

/-- ITS FALSE NEIGHBOUR: 'it returns false'. Refute it at one input. -/
def nlriGetsWrong : ChangeSpec := { name := "nlriGets", fn := fun _ => fun
  | [d1, d2] => { results := [.lit (.bool false)], args := [d1, d2] }
  | _ => none }
def NlriGetsWrongFalsely : Prop := nlriGetsRow.holds Try.pinned (OpenSpec.ofChange nlriGetsWrong)

/-- 'bypathlaw06.NlriOrders': WHATEVER THE INPUT: true; the input reads as it did. -/
def nlriOrdersSpec : ChangeSpec := { name := "nlriOrders", fn := fun _ => fun
  | [d1, d2, d3, d4] => { results := [.lit (.bool true)], args := [d1, d2, d3, d4] }
  | _ => none }
def nlriOrdersRow : OpenClaim := { program := "ytgmcjejgginpjaa", sum := "6fc01bec84c56c26f42bc2d3933b08cf4c772ab42e23efebdd0e23e6c15eab58", func := "bypath/bypathlaw06.NlriOrders", spec := "nlriOrders", unfollowed := true, recurses := true, plainKeys := false, apart := false }
def NlriOrdersSaid : Prop := nlriOrdersRow.holds Try.pinned (OpenSpec.ofChange nlriOrdersSpec)

/-- ITS FALSE NEIGHBOUR: 'it returns false'. Refute it at one input. -/
def nlriOrdersWrong : ChangeSpec := { name := "nlriOrders", fn := fun _ => fun
  | [d1, d2, d3, d4] => { results := [.lit (.bool false)], args := [d1, d2, d3, d4] }
  | _ => none }
def NlriOrdersWrongFalsely : Prop := nlriOrdersRow.holds Try.pinned (OpenSpec.ofChange nlriOrdersWrong)

/-- 'bypathlaw06.NlriJoins': WHATEVER THE INPUT: true; the input reads as it did. -/
def nlriJoinsSpec : ChangeSpec := { name := "nlriJoins", fn := fun _ => fun
  | [d1, d2, d3] => { results := [.lit (.bool true)], args := [d1, d2, d3] }
  | _ => none }
def nlriJoinsRow : OpenClaim := { program := "ytgmcjejgginpjaa", sum := "6fc01bec84c56c26f42bc2d3933b08cf4c772ab42e23efebdd0e23e6c15eab58", func := "bypath/bypathlaw06.NlriJoins", spec := "nlriJoins", unfollowed := true, recurses := true, plainKeys := false, apart := false }
def NlriJoinsSaid : Prop := nlriJoinsRow.holds Try.pinned (OpenSpec.ofChange nlriJoinsSpec)

/-- ITS FALSE NEIGHBOUR: 'it returns false'. Refute it at one input. -/
def nlriJoinsWrong : ChangeSpec := { name := "nlriJoins", fn := fun _ => fun
  | [d1, d2, d3] => { results := [.lit (.bool false)], args := [d1, d2, d3] }
  | _ => none }
def NlriJoinsWrongFalsely : Prop := nlriJoinsRow.holds Try.pinned (OpenSpec.ofChange nlriJoinsWrong)

/-- 'bypathlaw06.NlriSorts': WHATEVER THE INPUT: true; the input reads as it did. -/
def nlriSortsSpec : ChangeSpec := { name := "nlriSorts", fn := fun _ => fun
  | [d] => { results := [.lit (.bool true)], args := [d] }
  | _ => none }
def nlriSortsRow : OpenClaim := { program := "ytgmcjejgginpjaa", sum := "6fc01bec84c56c26f42bc2d3933b08cf4c772ab42e23efebdd0e23e6c15eab58", func := "bypath/bypathlaw06.NlriSorts", spec := "nlriSorts", unfollowed := true, recurses := true, plainKeys := false, apart := false }
def NlriSortsSaid : Prop := nlriSortsRow.holds Try.pinned (OpenSpec.ofChange nlriSortsSpec)

/-- ITS FALSE NEIGHBOUR: 'it returns false'. Refute it at one input. -/
def nlriSortsWrong : ChangeSpec := { name := "nlriSorts", fn := fun _ => fun
  | [d] => { results := [.lit (.bool false)], args := [d] }
  | _ => none }
def NlriSortsWrongFalsely : Prop := nlriSortsRow.holds Try.pinned (OpenSpec.ofChange nlriSortsWrong)

/- THE SECOND FORM. 'bulk': how many values and letters a reading holds, each counted each time it is reached (what is shared counts as often as it is met; a slice's spare places count too). A statement '..UptoSaid' is the law's where the arguments, and the package variables that the reading takes, are together of bulk at most 1048576: NARROWER than '..Said'. Prove '..Said' where nothing that the law and all that it calls make is longer than what came in: it says more and counts as full. Else prove '..UptoSaid'. A law counts once. -/
mutual
def uptoBulk {H : Type} : DataW H → Nat
  | .lit (.string bytes) => bytes.length + 1
  | .lit _ => 1
  | .nil => 1
  | .ptr d => uptoBulk d + 1
  | .slice elems spare => uptoBulkAll elems + uptoBulkAll spare + 1
  | .agg parts => uptoBulkAll parts + 1
  | .iface _ d => uptoBulk d + 1
  | .map entries => uptoBulkEntries entries + 1
  | .held _ => 1
def uptoBulkAll {H : Type} : List (DataW H) → Nat
  | [] => 0
  | d :: r => uptoBulk d + uptoBulkAll r
def uptoBulkEntries {H : Type} : List (Lit × DataW H) → Nat
  | [] => 0
  | x :: r => uptoBulkEntry x + uptoBulkEntries r
def uptoBulkEntry {H : Type} : Lit × DataW H → Nat
  | (.string bytes, d) => bytes.length + uptoBulk d + 1
  | (_, d) => uptoBulk d + 1
 end
def uptoSmall : (H : Type) → List (DataW H) → Bool := fun _ ds => decide (uptoBulkAll ds ≤ 1048576)
def OpenSpec.upto (s : _root_.Go.ChangeSpec) : _root_.Go.OpenSpec := { _root_.Go.OpenSpec.ofChange s with cond := some uptoSmall }

/-- 'bypathlaw06.NlriPuts', WHERE WHAT IT READS IS OF BULK AT MOST 1048576: true; the input reads as it did. -/
def nlriPutsUptoRow : OpenClaim := { program := "ytgmcjejgginpjaa", sum := "6fc01bec84c56c26f42bc2d3933b08cf4c772ab42e23efebdd0e23e6c15eab58", func := "bypath/bypathlaw06.NlriPuts", spec := "nlriPuts", unfollowed := true, recurses := true, plainKeys := false, apart := false, narrowed := true }
def NlriPutsUptoSaid : Prop := nlriPutsUptoRow.holds Try.pinned (OpenSpec.upto nlriPutsSpec)

/-- 'bypathlaw06.NlriGets', WHERE WHAT IT READS IS OF BULK AT MOST 1048576: true; the input reads as it did. -/
def nlriGetsUptoRow : OpenClaim := { program := "ytgmcjejgginpjaa", sum := "6fc01bec84c56c26f42bc2d3933b08cf4c772ab42e23efebdd0e23e6c15eab58", func := "bypath/bypathlaw06.NlriGets", spec := "nlriGets", unfollowed := true, recurses := true, plainKeys := false, apart := false, narrowed := true }
def NlriGetsUptoSaid : Prop := nlriGetsUptoRow.holds Try.pinned (OpenSpec.upto nlriGetsSpec)

/-- 'bypathlaw06.NlriOrders', WHERE WHAT IT READS IS OF BULK AT MOST 1048576: true; the input reads as it did. -/
def nlriOrdersUptoRow : OpenClaim := { program := "ytgmcjejgginpjaa", sum := "6fc01bec84c56c26f42bc2d3933b08cf4c772ab42e23efebdd0e23e6c15eab58", func := "bypath/bypathlaw06.NlriOrders", spec := "nlriOrders", unfollowed := true, recurses := true, plainKeys := false, apart := false, narrowed := true }
def NlriOrdersUptoSaid : Prop := nlriOrdersUptoRow.holds Try.pinned (OpenSpec.upto nlriOrdersSpec)

/-- 'bypathlaw06.NlriJoins', WHERE WHAT IT READS IS OF BULK AT MOST 1048576: true; the input reads as it did. -/
def nlriJoinsUptoRow : OpenClaim := { program := "ytgmcjejgginpjaa", sum := "6fc01bec84c56c26f42bc2d3933b08cf4c772ab42e23efebdd0e23e6c15eab58", func := "bypath/bypathlaw06.NlriJoins", spec := "nlriJoins", unfollowed := true, recurses := true, plainKeys := false, apart := false, narrowed := true }
def NlriJoinsUptoSaid : Prop := nlriJoinsUptoRow.holds Try.pinned (OpenSpec.upto nlriJoinsSpec)

/-- 'bypathlaw06.NlriSorts', WHERE WHAT IT READS IS OF BULK AT MOST 1048576: true; the input reads as it did. -/
def nlriSortsUptoRow : OpenClaim := { program := "ytgmcjejgginpjaa", sum := "6fc01bec84c56c26f42bc2d3933b08cf4c772ab42e23efebdd0e23e6c15eab58", func := "bypath/bypathlaw06.NlriSorts", spec := "nlriSorts", unfollowed := true, recurses := true, plainKeys := false, apart := false, narrowed := true }
def NlriSortsUptoSaid : Prop := nlriSortsUptoRow.holds Try.pinned (OpenSpec.upto nlriSortsSpec)

end Rows
end Go.Proofs.Ytgmcjejgginpjaa
