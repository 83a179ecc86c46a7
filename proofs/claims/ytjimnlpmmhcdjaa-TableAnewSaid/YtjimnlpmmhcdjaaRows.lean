/-
  No cell of these rows narrows 'for every input' (looked for: loops, veiled, ifaces, maps, wideKeys, modest, calm, conditions, laid).
  DERIVED. THE GIVEN ROWS OF THIS SEAT. 4 by the template 'for every input the law returns true; each argument reads behind the call as it read before'; 0 by the template 'total and deterministic' (their statements: YtjimnlpmmhcdjaaTotals.lean).
  GIVEN WITH THE SEED: the statements are not yours to turn. If you find one false, say at which input.
  Laid BY PROGRAM, IN A SANDBOX (cutbox-rows.mjs): the forced cells as the released guide's own fill.sh prints them over the translation 616214af74bfb8f6… (all of the seat's roots in one cut). By AI agents, Wed Nov 11 2026. No macro, syntax, notation, axiom, sorry.
-/
import Derived.Test.YtjimnlpmmhcdjaaChecked
import GoSem.Claim
import GoSem.ClaimJoined
import GoSem.ClaimMapViews
import Derived.JoinedTies
import Derived.KernelRfl
namespace Go.Proofs.Ytjimnlpmmhcdjaa
/- THE CELL 'sum', in the pinned program and in every row, IS THE sha256 OF THE DUMP (.gsa) THAT YtjimnlpmmhcdjaaProg.lean LOADS. Nothing in Lean hashes anything: it is a label: what it is worth is what the hold of that sum in a sandbox is worth. -/
noncomputable def Try.pinned : Pinned := { name := "ytjimnlpmmhcdjaa", sum := "616214af74bfb8f6d8b02873be1ccd41c05c4e4a77bc9e6fa4d2a2ca268931a4", checked := Try.checked }
namespace Rows
def none {H : Type} : Left H := { results := [], args := [] }

/-- 'bypathlaw23.TableDoes': WHATEVER THE INPUT: true; the input reads as it did. -/
def tableDoesSpec : ChangeSpec := { name := "tableDoes", fn := fun _ => fun
  | [d] => { results := [.lit (.bool true)], args := [d] }
  | _ => none }
def tableDoesRow : OpenClaim := { program := "ytjimnlpmmhcdjaa", sum := "616214af74bfb8f6d8b02873be1ccd41c05c4e4a77bc9e6fa4d2a2ca268931a4", func := "bypath/bypathlaw23.TableDoes", spec := "tableDoes", unfollowed := true, recurses := true, plainKeys := false, apart := false }
def TableDoesSaid : Prop := tableDoesRow.holds Try.pinned (OpenSpec.ofChange tableDoesSpec)

/-- ITS FALSE NEIGHBOUR: 'it returns false'. Refute it at one input. -/
def tableDoesWrong : ChangeSpec := { name := "tableDoes", fn := fun _ => fun
  | [d] => { results := [.lit (.bool false)], args := [d] }
  | _ => none }
def TableDoesWrongFalsely : Prop := tableDoesRow.holds Try.pinned (OpenSpec.ofChange tableDoesWrong)

/-- 'bypathlaw23.TableExpires': WHATEVER THE INPUT: true; the input reads as it did. -/
def tableExpiresSpec : ChangeSpec := { name := "tableExpires", fn := fun _ => fun
  | [d1, d2] => { results := [.lit (.bool true)], args := [d1, d2] }
  | _ => none }
def tableExpiresRow : OpenClaim := { program := "ytjimnlpmmhcdjaa", sum := "616214af74bfb8f6d8b02873be1ccd41c05c4e4a77bc9e6fa4d2a2ca268931a4", func := "bypath/bypathlaw23.TableExpires", spec := "tableExpires", unfollowed := true, recurses := true, plainKeys := false, apart := false }
def TableExpiresSaid : Prop := tableExpiresRow.holds Try.pinned (OpenSpec.ofChange tableExpiresSpec)

/-- ITS FALSE NEIGHBOUR: 'it returns false'. Refute it at one input. -/
def tableExpiresWrong : ChangeSpec := { name := "tableExpires", fn := fun _ => fun
  | [d1, d2] => { results := [.lit (.bool false)], args := [d1, d2] }
  | _ => none }
def TableExpiresWrongFalsely : Prop := tableExpiresRow.holds Try.pinned (OpenSpec.ofChange tableExpiresWrong)

/-- 'bypathlaw23.TableFull': WHATEVER THE INPUT: true; the input reads as it did. -/
def tableFullSpec : ChangeSpec := { name := "tableFull", fn := fun _ => fun
  | [d] => { results := [.lit (.bool true)], args := [d] }
  | _ => none }
def tableFullRow : OpenClaim := { program := "ytjimnlpmmhcdjaa", sum := "616214af74bfb8f6d8b02873be1ccd41c05c4e4a77bc9e6fa4d2a2ca268931a4", func := "bypath/bypathlaw23.TableFull", spec := "tableFull", unfollowed := true, recurses := true, plainKeys := false, apart := false }
def TableFullSaid : Prop := tableFullRow.holds Try.pinned (OpenSpec.ofChange tableFullSpec)

/-- ITS FALSE NEIGHBOUR: 'it returns false'. Refute it at one input. -/
def tableFullWrong : ChangeSpec := { name := "tableFull", fn := fun _ => fun
  | [d] => { results := [.lit (.bool false)], args := [d] }
  | _ => none }
def TableFullWrongFalsely : Prop := tableFullRow.holds Try.pinned (OpenSpec.ofChange tableFullWrong)

/-- 'bypathlaw23.TableAnew': WHATEVER THE INPUT: true; the input reads as it did. -/
def tableAnewSpec : ChangeSpec := { name := "tableAnew", fn := fun _ => fun
  | [d1, d2] => { results := [.lit (.bool true)], args := [d1, d2] }
  | _ => none }
def tableAnewRow : OpenClaim := { program := "ytjimnlpmmhcdjaa", sum := "616214af74bfb8f6d8b02873be1ccd41c05c4e4a77bc9e6fa4d2a2ca268931a4", func := "bypath/bypathlaw23.TableAnew", spec := "tableAnew", unfollowed := true, recurses := true, plainKeys := false, apart := false }
def TableAnewSaid : Prop := tableAnewRow.holds Try.pinned (OpenSpec.ofChange tableAnewSpec)

/-- ITS FALSE NEIGHBOUR: 'it returns false'. Refute it at one input. -/
def tableAnewWrong : ChangeSpec := { name := "tableAnew", fn := fun _ => fun
  | [d1, d2] => { results := [.lit (.bool false)], args := [d1, d2] }
  | _ => none }
def TableAnewWrongFalsely : Prop := tableAnewRow.holds Try.pinned (OpenSpec.ofChange tableAnewWrong)

/- THE SECOND FORM. 'bulk': how many values and letters a reading holds, each counted each time it is reached (what is shared counts as often as it is met; a slice's spare places count too). A statement '..UptoSaid' is the law's where the arguments, and the package variables that the reading takes, are together of bulk at most 1048576: NARROWER than '..Said'. Prove '..Said' where nothing that the law and all that it calls make is longer than what came in: it says more and counts as full. Else prove '..UptoSaid'. A law counts once. -/
mutual
def uptoBulk {H : Type} : DataW H → Nat
  | .lit (.string bytes) => bytes.length + 1
  | .lit _ => 1
  | .nil => 1
  | .ptr d => uptoBulk d + 1
  | .slice elems spare => uptoBulkAll elems + uptoBulkAll spare + 1
  | .agg parts => uptoBulkAll parts + 1
  | .iface _ d => uptoBulk d + 1
  | .map entries => uptoBulkEntries entries + 1
  | .held _ => 1
def uptoBulkAll {H : Type} : List (DataW H) → Nat
  | [] => 0
  | d :: r => uptoBulk d + uptoBulkAll r
def uptoBulkEntries {H : Type} : List (Lit × DataW H) → Nat
  | [] => 0
  | x :: r => uptoBulkEntry x + uptoBulkEntries r
def uptoBulkEntry {H : Type} : Lit × DataW H → Nat
  | (.string bytes, d) => bytes.length + uptoBulk d + 1
  | (_, d) => uptoBulk d + 1
 end
def uptoSmall : (H : Type) → List (DataW H) → Bool := fun _ ds => decide (uptoBulkAll ds ≤ 1048576)
def OpenSpec.upto (s : _root_.Go.ChangeSpec) : _root_.Go.OpenSpec := { _root_.Go.OpenSpec.ofChange s with cond := some uptoSmall }

/-- 'bypathlaw23.TableDoes', WHERE WHAT IT READS IS OF BULK AT MOST 1048576: true; the input reads as it did. -/
def tableDoesUptoRow : OpenClaim := { program := "ytjimnlpmmhcdjaa", sum := "616214af74bfb8f6d8b02873be1ccd41c05c4e4a77bc9e6fa4d2a2ca268931a4", func := "bypath/bypathlaw23.TableDoes", spec := "tableDoes", unfollowed := true, recurses := true, plainKeys := false, apart := false, narrowed := true }
def TableDoesUptoSaid : Prop := tableDoesUptoRow.holds Try.pinned (OpenSpec.upto tableDoesSpec)

/-- 'bypathlaw23.TableExpires', WHERE WHAT IT READS IS OF BULK AT MOST 1048576: true; the input reads as it did. -/
def tableExpiresUptoRow : OpenClaim := { program := "ytjimnlpmmhcdjaa", sum := "616214af74bfb8f6d8b02873be1ccd41c05c4e4a77bc9e6fa4d2a2ca268931a4", func := "bypath/bypathlaw23.TableExpires", spec := "tableExpires", unfollowed := true, recurses := true, plainKeys := false, apart := false, narrowed := true }
def TableExpiresUptoSaid : Prop := tableExpiresUptoRow.holds Try.pinned (OpenSpec.upto tableExpiresSpec)

/-- 'bypathlaw23.TableFull', WHERE WHAT IT READS IS OF BULK AT MOST 1048576: true; the input reads as it did. -/
def tableFullUptoRow : OpenClaim := { program := "ytjimnlpmmhcdjaa", sum := "616214af74bfb8f6d8b02873be1ccd41c05c4e4a77bc9e6fa4d2a2ca268931a4", func := "bypath/bypathlaw23.TableFull", spec := "tableFull", unfollowed := true, recurses := true, plainKeys := false, apart := false, narrowed := true }
def TableFullUptoSaid : Prop := tableFullUptoRow.holds Try.pinned (OpenSpec.upto tableFullSpec)

/-- 'bypathlaw23.TableAnew', WHERE WHAT IT READS IS OF BULK AT MOST 1048576: true; the input reads as it did. -/
def tableAnewUptoRow : OpenClaim := { program := "ytjimnlpmmhcdjaa", sum := "616214af74bfb8f6d8b02873be1ccd41c05c4e4a77bc9e6fa4d2a2ca268931a4", func := "bypath/bypathlaw23.TableAnew", spec := "tableAnew", unfollowed := true, recurses := true, plainKeys := false, apart := false, narrowed := true }
def TableAnewUptoSaid : Prop := tableAnewUptoRow.holds Try.pinned (OpenSpec.upto tableAnewSpec)

end Rows
end Go.Proofs.Ytjimnlpmmhcdjaa
