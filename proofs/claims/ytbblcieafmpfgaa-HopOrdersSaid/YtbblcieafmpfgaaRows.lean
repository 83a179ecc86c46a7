/-
  No cell of these rows narrows 'for every input' (looked for: loops, veiled, ifaces, maps, wideKeys, modest, calm, conditions, laid).
  DERIVED. THE GIVEN ROWS OF THIS SEAT. 4 by the template 'for every input the law returns true; each argument reads behind the call as it read before'; 0 by the template 'total and deterministic' (their statements: YtbblcieafmpfgaaTotals.lean).
  GIVEN WITH THE SEED: the statements are not yours to turn. If you find one false, say at which input.
  Laid BY PROGRAM, IN A SANDBOX (cutbox-rows.mjs): the forced cells as the released guide's own fill.sh prints them over the translation 5f0b996764a89bcb… (all of the seat's roots in one cut). By AI agents, Wed Nov 11 2026. No macro, syntax, notation, axiom, sorry.
-/
import Derived.Test.YtbblcieafmpfgaaChecked
import GoSem.Claim
import GoSem.ClaimJoined
import GoSem.ClaimMapViews
import Derived.JoinedTies
import Derived.KernelRfl
namespace Go.Proofs.Ytbblcieafmpfgaa
/- THE CELL 'sum', in the pinned program and in every row, IS THE sha256 OF THE DUMP (.gsa) THAT YtbblcieafmpfgaaProg.lean LOADS. Nothing in Lean hashes anything: it is a label: what it is worth is what the hold of that sum in a sandbox is worth. -/
noncomputable def Try.pinned : Pinned := { name := "ytbblcieafmpfgaa", sum := "5f0b996764a89bcb492e048f2d6a7268a3d8c83cca233421f219fef817aaf948", checked := Try.checked }
namespace Rows
def none {H : Type} : Left H := { results := [], args := [] }

/-- 'bypathlaw16.HopFinds': WHATEVER THE INPUT: true; the input reads as it did. -/
def hopFindsSpec : ChangeSpec := { name := "hopFinds", fn := fun _ => fun
  | [d1, d2, d3, d4] => { results := [.lit (.bool true)], args := [d1, d2, d3, d4] }
  | _ => none }
def hopFindsRow : OpenClaim := { program := "ytbblcieafmpfgaa", sum := "5f0b996764a89bcb492e048f2d6a7268a3d8c83cca233421f219fef817aaf948", func := "bypath/bypathlaw16.HopFinds", spec := "hopFinds", unfollowed := true, recurses := true, apart := false }
def HopFindsSaid : Prop := hopFindsRow.holds Try.pinned (OpenSpec.ofChange hopFindsSpec)

/-- ITS FALSE NEIGHBOUR: 'it returns false'. Refute it at one input. -/
def hopFindsWrong : ChangeSpec := { name := "hopFinds", fn := fun _ => fun
  | [d1, d2, d3, d4] => { results := [.lit (.bool false)], args := [d1, d2, d3, d4] }
  | _ => none }
def HopFindsWrongFalsely : Prop := hopFindsRow.holds Try.pinned (OpenSpec.ofChange hopFindsWrong)

/-- 'bypathlaw16.HopOrders': WHATEVER THE INPUT: true; the input reads as it did. -/
def hopOrdersSpec : ChangeSpec := { name := "hopOrders", fn := fun _ => fun
  | [d1, d2, d3, d4] => { results := [.lit (.bool true)], args := [d1, d2, d3, d4] }
  | _ => none }
def hopOrdersRow : OpenClaim := { program := "ytbblcieafmpfgaa", sum := "5f0b996764a89bcb492e048f2d6a7268a3d8c83cca233421f219fef817aaf948", func := "bypath/bypathlaw16.HopOrders", spec := "hopOrders", unfollowed := true, recurses := true, apart := false }
def HopOrdersSaid : Prop := hopOrdersRow.holds Try.pinned (OpenSpec.ofChange hopOrdersSpec)

/-- ITS FALSE NEIGHBOUR: 'it returns false'. Refute it at one input. -/
def hopOrdersWrong : ChangeSpec := { name := "hopOrders", fn := fun _ => fun
  | [d1, d2, d3, d4] => { results := [.lit (.bool false)], args := [d1, d2, d3, d4] }
  | _ => none }
def HopOrdersWrongFalsely : Prop := hopOrdersRow.holds Try.pinned (OpenSpec.ofChange hopOrdersWrong)

/-- 'bypathlaw16.HopShorter': WHATEVER THE INPUT: true; the input reads as it did. -/
def hopShorterSpec : ChangeSpec := { name := "hopShorter", fn := fun _ => fun
  | [d1, d2, d3, d4] => { results := [.lit (.bool true)], args := [d1, d2, d3, d4] }
  | _ => none }
def hopShorterRow : OpenClaim := { program := "ytbblcieafmpfgaa", sum := "5f0b996764a89bcb492e048f2d6a7268a3d8c83cca233421f219fef817aaf948", func := "bypath/bypathlaw16.HopShorter", spec := "hopShorter", unfollowed := true, recurses := true, apart := false }
def HopShorterSaid : Prop := hopShorterRow.holds Try.pinned (OpenSpec.ofChange hopShorterSpec)

/-- ITS FALSE NEIGHBOUR: 'it returns false'. Refute it at one input. -/
def hopShorterWrong : ChangeSpec := { name := "hopShorter", fn := fun _ => fun
  | [d1, d2, d3, d4] => { results := [.lit (.bool false)], args := [d1, d2, d3, d4] }
  | _ => none }
def HopShorterWrongFalsely : Prop := hopShorterRow.holds Try.pinned (OpenSpec.ofChange hopShorterWrong)

/-- 'bypathlaw16.HopNobody': WHATEVER THE INPUT: true; the input reads as it did. -/
def hopNobodySpec : ChangeSpec := { name := "hopNobody", fn := fun _ => fun
  | [d1, d2] => { results := [.lit (.bool true)], args := [d1, d2] }
  | _ => none }
def hopNobodyRow : OpenClaim := { program := "ytbblcieafmpfgaa", sum := "5f0b996764a89bcb492e048f2d6a7268a3d8c83cca233421f219fef817aaf948", func := "bypath/bypathlaw16.HopNobody", spec := "hopNobody", unfollowed := true, recurses := true, apart := false }
def HopNobodySaid : Prop := hopNobodyRow.holds Try.pinned (OpenSpec.ofChange hopNobodySpec)

/-- ITS FALSE NEIGHBOUR: 'it returns false'. Refute it at one input. -/
def hopNobodyWrong : ChangeSpec := { name := "hopNobody", fn := fun _ => fun
  | [d1, d2] => { results := [.lit (.bool false)], args := [d1, d2] }
  | _ => none }
def HopNobodyWrongFalsely : Prop := hopNobodyRow.holds Try.pinned (OpenSpec.ofChange hopNobodyWrong)

/- THE SECOND FORM. 'bulk': how many values and letters a reading holds, each counted each time it is reached (what is shared counts as often as it is met; a slice's spare places count too). A statement '..UptoSaid' is the law's where the arguments, and the package variables that the reading takes, are together of bulk at most 1048576: NARROWER than '..Said'. Prove '..Said' where nothing that the law and all that it calls make is longer than what came in: it says more and counts as full. Else prove '..UptoSaid'. A law counts once. -/
mutual
def uptoBulk {H : Type} : DataW H → Nat
  | .lit (.string bytes) => bytes.length + 1
  | .lit _ => 1
  | .nil => 1
  | .ptr d => uptoBulk d + 1
  | .slice elems spare => uptoBulkAll elems + uptoBulkAll spare + 1
  | .agg parts => uptoBulkAll parts + 1
  | .iface _ d => uptoBulk d + 1
  | .map entries => uptoBulkEntries entries + 1
  | .held _ => 1
def uptoBulkAll {H : Type} : List (DataW H) → Nat
  | [] => 0
  | d :: r => uptoBulk d + uptoBulkAll r
def uptoBulkEntries {H : Type} : List (Lit × DataW H) → Nat
  | [] => 0
  | x :: r => uptoBulkEntry x + uptoBulkEntries r
def uptoBulkEntry {H : Type} : Lit × DataW H → Nat
  | (.string bytes, d) => bytes.length + uptoBulk d + 1
  | (_, d) => uptoBulk d + 1
 end
def uptoSmall : (H : Type) → List (DataW H) → Bool := fun _ ds => decide (uptoBulkAll ds ≤ 1048576)
def OpenSpec.upto (s : _root_.Go.ChangeSpec) : _root_.Go.OpenSpec := { _root_.Go.OpenSpec.ofChange s with cond := some uptoSmall }

/-- 'bypathlaw16.HopFinds', WHERE WHAT IT READS IS OF BULK AT MOST 1048576: true; the input reads as it did. -/
def hopFindsUptoRow : OpenClaim := { program := "ytbblcieafmpfgaa", sum := "5f0b996764a89bcb492e048f2d6a7268a3d8c83cca233421f219fef817aaf948", func := "bypath/bypathlaw16.HopFinds", spec := "hopFinds", unfollowed := true, recurses := true, apart := false, narrowed := true }
def HopFindsUptoSaid : Prop := hopFindsUptoRow.holds Try.pinned (OpenSpec.upto hopFindsSpec)

/-- 'bypathlaw16.HopOrders', WHERE WHAT IT READS IS OF BULK AT MOST 1048576: true; the input reads as it did. -/
def hopOrdersUptoRow : OpenClaim := { program := "ytbblcieafmpfgaa", sum := "5f0b996764a89bcb492e048f2d6a7268a3d8c83cca233421f219fef817aaf948", func := "bypath/bypathlaw16.HopOrders", spec := "hopOrders", unfollowed := true, recurses := true, apart := false, narrowed := true }
def HopOrdersUptoSaid : Prop := hopOrdersUptoRow.holds Try.pinned (OpenSpec.upto hopOrdersSpec)

/-- 'bypathlaw16.HopShorter', WHERE WHAT IT READS IS OF BULK AT MOST 1048576: true; the input reads as it did. -/
def hopShorterUptoRow : OpenClaim := { program := "ytbblcieafmpfgaa", sum := "5f0b996764a89bcb492e048f2d6a7268a3d8c83cca233421f219fef817aaf948", func := "bypath/bypathlaw16.HopShorter", spec := "hopShorter", unfollowed := true, recurses := true, apart := false, narrowed := true }
def HopShorterUptoSaid : Prop := hopShorterUptoRow.holds Try.pinned (OpenSpec.upto hopShorterSpec)

/-- 'bypathlaw16.HopNobody', WHERE WHAT IT READS IS OF BULK AT MOST 1048576: true; the input reads as it did. -/
def hopNobodyUptoRow : OpenClaim := { program := "ytbblcieafmpfgaa", sum := "5f0b996764a89bcb492e048f2d6a7268a3d8c83cca233421f219fef817aaf948", func := "bypath/bypathlaw16.HopNobody", spec := "hopNobody", unfollowed := true, recurses := true, apart := false, narrowed := true }
def HopNobodyUptoSaid : Prop := hopNobodyUptoRow.holds Try.pinned (OpenSpec.upto hopNobodySpec)

end Rows
end Go.Proofs.Ytbblcieafmpfgaa
