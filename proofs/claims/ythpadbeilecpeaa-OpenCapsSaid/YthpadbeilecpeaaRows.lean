/-
  No cell of these rows narrows 'for every input' (looked for: loops, veiled, ifaces, maps, wideKeys, modest, calm, conditions, laid).
  DERIVED. THE GIVEN ROWS OF THIS SEAT. 3 by the template 'for every input the law returns true; each argument reads behind the call as it read before'; 0 by the template 'total and deterministic' (their statements: YthpadbeilecpeaaTotals.lean).
  GIVEN WITH THE SEED: the statements are not yours to turn. If you find one false, say at which input.
  Laid BY PROGRAM, IN A SANDBOX (cutbox-rows.mjs): the forced cells as the released guide's own fill.sh prints them over the translation 69bcb88a355fcee2… (all of the seat's roots in one cut). By AI agents, Wed Nov 11 2026. No macro, syntax, notation, axiom, sorry.
-/
import Derived.Test.YthpadbeilecpeaaChecked
import GoSem.Claim
import GoSem.ClaimJoined
import GoSem.ClaimMapViews
import Derived.JoinedTies
import Derived.KernelRfl
namespace Go.Proofs.Ythpadbeilecpeaa
/- THE CELL 'sum', in the pinned program and in every row, IS THE sha256 OF THE DUMP (.gsa) THAT YthpadbeilecpeaaProg.lean LOADS. Nothing in Lean hashes anything: it is a label: what it is worth is what the hold of that sum in a sandbox is worth. -/
noncomputable def Try.pinned : Pinned := { name := "ythpadbeilecpeaa", sum := "69bcb88a355fcee290676dec447c29b503cb5d1f1d6a7a48dd892c7cea39d222", checked := Try.checked }
namespace Rows
def none {H : Type} : Left H := { results := [], args := [] }

/-- 'bypathlaw04.OpenCaps': WHATEVER THE INPUT: true; the input reads as it did. -/
def openCapsSpec : ChangeSpec := { name := "openCaps", fn := fun _ => fun
  | [d1, d2, d3] => { results := [.lit (.bool true)], args := [d1, d2, d3] }
  | _ => none }
def openCapsRow : OpenClaim := { program := "ythpadbeilecpeaa", sum := "69bcb88a355fcee290676dec447c29b503cb5d1f1d6a7a48dd892c7cea39d222", func := "bypath/bypathlaw04.OpenCaps", spec := "openCaps", unfollowed := true, recurses := true, apart := false }
def OpenCapsSaid : Prop := openCapsRow.holds Try.pinned (OpenSpec.ofChange openCapsSpec)

/-- ITS FALSE NEIGHBOUR: 'it returns false'. Refute it at one input. -/
def openCapsWrong : ChangeSpec := { name := "openCaps", fn := fun _ => fun
  | [d1, d2, d3] => { results := [.lit (.bool false)], args := [d1, d2, d3] }
  | _ => none }
def OpenCapsWrongFalsely : Prop := openCapsRow.holds Try.pinned (OpenSpec.ofChange openCapsWrong)

/-- 'bypathlaw04.OpenWhole': WHATEVER THE INPUT: true; the input reads as it did. -/
def openWholeSpec : ChangeSpec := { name := "openWhole", fn := fun _ => fun
  | [d] => { results := [.lit (.bool true)], args := [d] }
  | _ => none }
def openWholeRow : OpenClaim := { program := "ythpadbeilecpeaa", sum := "69bcb88a355fcee290676dec447c29b503cb5d1f1d6a7a48dd892c7cea39d222", func := "bypath/bypathlaw04.OpenWhole", spec := "openWhole", unfollowed := true, recurses := true, apart := false }
def OpenWholeSaid : Prop := openWholeRow.holds Try.pinned (OpenSpec.ofChange openWholeSpec)

/-- ITS FALSE NEIGHBOUR: 'it returns false'. Refute it at one input. -/
def openWholeWrong : ChangeSpec := { name := "openWhole", fn := fun _ => fun
  | [d] => { results := [.lit (.bool false)], args := [d] }
  | _ => none }
def OpenWholeWrongFalsely : Prop := openWholeRow.holds Try.pinned (OpenSpec.ofChange openWholeWrong)

/-- 'bypathlaw04.OpenShort': WHATEVER THE INPUT: true; the input reads as it did. -/
def openShortSpec : ChangeSpec := { name := "openShort", fn := fun _ => fun
  | [d1, d2] => { results := [.lit (.bool true)], args := [d1, d2] }
  | _ => none }
def openShortRow : OpenClaim := { program := "ythpadbeilecpeaa", sum := "69bcb88a355fcee290676dec447c29b503cb5d1f1d6a7a48dd892c7cea39d222", func := "bypath/bypathlaw04.OpenShort", spec := "openShort", unfollowed := true, recurses := true, apart := false }
def OpenShortSaid : Prop := openShortRow.holds Try.pinned (OpenSpec.ofChange openShortSpec)

/-- ITS FALSE NEIGHBOUR: 'it returns false'. Refute it at one input. -/
def openShortWrong : ChangeSpec := { name := "openShort", fn := fun _ => fun
  | [d1, d2] => { results := [.lit (.bool false)], args := [d1, d2] }
  | _ => none }
def OpenShortWrongFalsely : Prop := openShortRow.holds Try.pinned (OpenSpec.ofChange openShortWrong)

/- THE SECOND FORM. 'bulk': how many values and letters a reading holds, each counted each time it is reached (what is shared counts as often as it is met; a slice's spare places count too). A statement '..UptoSaid' is the law's where the arguments, and the package variables that the reading takes, are together of bulk at most 1048576: NARROWER than '..Said'. Prove '..Said' where nothing that the law and all that it calls make is longer than what came in: it says more and counts as full. Else prove '..UptoSaid'. A law counts once. -/
mutual
def uptoBulk {H : Type} : DataW H → Nat
  | .lit (.string bytes) => bytes.length + 1
  | .lit _ => 1
  | .nil => 1
  | .ptr d => uptoBulk d + 1
  | .slice elems spare => uptoBulkAll elems + uptoBulkAll spare + 1
  | .agg parts => uptoBulkAll parts + 1
  | .iface _ d => uptoBulk d + 1
  | .map entries => uptoBulkEntries entries + 1
  | .held _ => 1
def uptoBulkAll {H : Type} : List (DataW H) → Nat
  | [] => 0
  | d :: r => uptoBulk d + uptoBulkAll r
def uptoBulkEntries {H : Type} : List (Lit × DataW H) → Nat
  | [] => 0
  | x :: r => uptoBulkEntry x + uptoBulkEntries r
def uptoBulkEntry {H : Type} : Lit × DataW H → Nat
  | (.string bytes, d) => bytes.length + uptoBulk d + 1
  | (_, d) => uptoBulk d + 1
 end
def uptoSmall : (H : Type) → List (DataW H) → Bool := fun _ ds => decide (uptoBulkAll ds ≤ 1048576)
def OpenSpec.upto (s : _root_.Go.ChangeSpec) : _root_.Go.OpenSpec := { _root_.Go.OpenSpec.ofChange s with cond := some uptoSmall }

/-- 'bypathlaw04.OpenCaps', WHERE WHAT IT READS IS OF BULK AT MOST 1048576: true; the input reads as it did. -/
def openCapsUptoRow : OpenClaim := { program := "ythpadbeilecpeaa", sum := "69bcb88a355fcee290676dec447c29b503cb5d1f1d6a7a48dd892c7cea39d222", func := "bypath/bypathlaw04.OpenCaps", spec := "openCaps", unfollowed := true, recurses := true, apart := false, narrowed := true }
def OpenCapsUptoSaid : Prop := openCapsUptoRow.holds Try.pinned (OpenSpec.upto openCapsSpec)

/-- 'bypathlaw04.OpenWhole', WHERE WHAT IT READS IS OF BULK AT MOST 1048576: true; the input reads as it did. -/
def openWholeUptoRow : OpenClaim := { program := "ythpadbeilecpeaa", sum := "69bcb88a355fcee290676dec447c29b503cb5d1f1d6a7a48dd892c7cea39d222", func := "bypath/bypathlaw04.OpenWhole", spec := "openWhole", unfollowed := true, recurses := true, apart := false, narrowed := true }
def OpenWholeUptoSaid : Prop := openWholeUptoRow.holds Try.pinned (OpenSpec.upto openWholeSpec)

/-- 'bypathlaw04.OpenShort', WHERE WHAT IT READS IS OF BULK AT MOST 1048576: true; the input reads as it did. -/
def openShortUptoRow : OpenClaim := { program := "ythpadbeilecpeaa", sum := "69bcb88a355fcee290676dec447c29b503cb5d1f1d6a7a48dd892c7cea39d222", func := "bypath/bypathlaw04.OpenShort", spec := "openShort", unfollowed := true, recurses := true, apart := false, narrowed := true }
def OpenShortUptoSaid : Prop := openShortUptoRow.holds Try.pinned (OpenSpec.upto openShortSpec)

end Rows
end Go.Proofs.Ythpadbeilecpeaa
