/-
  NARROWER THAN 'FOR EVERY INPUT', by the rows' own cells (each row's printed sentence says how): AttrPuts: laid · AttrGets: laid · AttrTwice: laid.
  DERIVED. THE GIVEN ROWS OF THIS SEAT. 3 by the template 'for every input the law returns true; each argument reads behind the call as it read before'; 0 by the template 'total and deterministic' (their statements: YtcabiodgmhcdlaaDoorTotals.lean).
  GIVEN WITH THE SEED: the statements are not yours to turn. If you find one false, say at which input.
  Laid BY PROGRAM, IN A SANDBOX (cutbox-rows.mjs): the forced cells as the released guide's own fill.sh prints them over the translation f358a11204df8e24… (all of the seat's roots in one cut). By AI agents, Wed Nov 11 2026. No macro, syntax, notation, axiom, sorry.
-/
import Derived.Test.YtcabiodgmhcdlaaDoorChecked
import GoSem.Claim
import GoSem.ClaimJoined
import GoSem.ClaimMapViews
import Derived.JoinedTies
import Derived.KernelRfl
namespace Go.Proofs.YtcabiodgmhcdlaaDoor
/- THE CELL 'sum', in the pinned program and in every row, IS THE sha256 OF THE DUMP (.gsa) THAT YtcabiodgmhcdlaaDoorProg.lean LOADS. Nothing in Lean hashes anything: it is a label: what it is worth is what the hold of that sum in a sandbox is worth. -/
noncomputable def Tryd.pinned : Pinned := { name := "ytcabiodgmhcdlaadoor", sum := "f358a11204df8e248b15f4c106a7ffd67bddff9ec2abc4c1f9dbf53d21d62273", checked := Tryd.checked }
namespace Rows
def none {H : Type} : Left H := { results := [], args := [] }

/- WHAT THE LISTED PACKAGE-LEVEL VARIABLES READ AS WHEN THE CALL BEGINS. Each datum BY PROGRAM (the guide's laid-datum.mjs) off the statement by which the dump's own 'gosem.cut.vars' lays the variable. In a bare row this is a premise. The card (YtcabiodgmhcdlaaDoorCards.lean) ties it to the program's text. -/
def laid_bypath_attr_ownFlags {H : Type} : DataW H := .agg [.lit (.int .i64 0), .lit (.int .i64 64), .lit (.int .i64 64), .lit (.int .i64 64), .lit (.int .i64 128), .lit (.int .i64 64), .lit (.int .i64 0), .lit (.int .i64 0), .lit (.int .i64 192)]

/-- 'bypathlaw05.AttrPuts': WHATEVER THE INPUT: true; the input reads as it did. -/
def attrPutsSpec : ChangeSpec := { name := "attrPuts", fn := fun _ => fun
  | [d1, d2] => { results := [.lit (.bool true)], args := [d1, d2] }
  | _ => none }
def attrPutsRow : OpenClaim := { program := "ytcabiodgmhcdlaadoor", sum := "f358a11204df8e248b15f4c106a7ffd67bddff9ec2abc4c1f9dbf53d21d62273", func := "bypath/bypathlaw05.AttrPuts", spec := "attrPuts", unfollowed := true, recurses := true, named := ["bypath/attr.ownFlags"], apart := false, laid := [("bypath/attr.ownFlags", laid_bypath_attr_ownFlags)] }
def AttrPutsSaid : Prop := attrPutsRow.holds Tryd.pinned (OpenSpec.ofChange attrPutsSpec)

/-- ITS FALSE NEIGHBOUR: 'it returns false'. Refute it at one input. -/
def attrPutsWrong : ChangeSpec := { name := "attrPuts", fn := fun _ => fun
  | [d1, d2] => { results := [.lit (.bool false)], args := [d1, d2] }
  | _ => none }
def AttrPutsWrongFalsely : Prop := attrPutsRow.holds Tryd.pinned (OpenSpec.ofChange attrPutsWrong)

/-- 'bypathlaw05.AttrGets': WHATEVER THE INPUT: true; the input reads as it did. -/
def attrGetsSpec : ChangeSpec := { name := "attrGets", fn := fun _ => fun
  | [d1, d2] => { results := [.lit (.bool true)], args := [d1, d2] }
  | _ => none }
def attrGetsRow : OpenClaim := { program := "ytcabiodgmhcdlaadoor", sum := "f358a11204df8e248b15f4c106a7ffd67bddff9ec2abc4c1f9dbf53d21d62273", func := "bypath/bypathlaw05.AttrGets", spec := "attrGets", unfollowed := true, recurses := true, named := ["bypath/attr.ownFlags"], apart := false, laid := [("bypath/attr.ownFlags", laid_bypath_attr_ownFlags)] }
def AttrGetsSaid : Prop := attrGetsRow.holds Tryd.pinned (OpenSpec.ofChange attrGetsSpec)

/-- ITS FALSE NEIGHBOUR: 'it returns false'. Refute it at one input. -/
def attrGetsWrong : ChangeSpec := { name := "attrGets", fn := fun _ => fun
  | [d1, d2] => { results := [.lit (.bool false)], args := [d1, d2] }
  | _ => none }
def AttrGetsWrongFalsely : Prop := attrGetsRow.holds Tryd.pinned (OpenSpec.ofChange attrGetsWrong)

/-- 'bypathlaw05.AttrTwice': WHATEVER THE INPUT: true; the input reads as it did. -/
def attrTwiceSpec : ChangeSpec := { name := "attrTwice", fn := fun _ => fun
  | [d1, d2, d3, d4, d5] => { results := [.lit (.bool true)], args := [d1, d2, d3, d4, d5] }
  | _ => none }
def attrTwiceRow : OpenClaim := { program := "ytcabiodgmhcdlaadoor", sum := "f358a11204df8e248b15f4c106a7ffd67bddff9ec2abc4c1f9dbf53d21d62273", func := "bypath/bypathlaw05.AttrTwice", spec := "attrTwice", unfollowed := true, recurses := true, named := ["bypath/attr.ownFlags"], apart := false, laid := [("bypath/attr.ownFlags", laid_bypath_attr_ownFlags)] }
def AttrTwiceSaid : Prop := attrTwiceRow.holds Tryd.pinned (OpenSpec.ofChange attrTwiceSpec)

/-- ITS FALSE NEIGHBOUR: 'it returns false'. Refute it at one input. -/
def attrTwiceWrong : ChangeSpec := { name := "attrTwice", fn := fun _ => fun
  | [d1, d2, d3, d4, d5] => { results := [.lit (.bool false)], args := [d1, d2, d3, d4, d5] }
  | _ => none }
def AttrTwiceWrongFalsely : Prop := attrTwiceRow.holds Tryd.pinned (OpenSpec.ofChange attrTwiceWrong)

/- THE SECOND FORM. 'bulk': how many values and letters a reading holds, each counted each time it is reached (what is shared counts as often as it is met; a slice's spare places count too). A statement '..UptoSaid' is the law's where the arguments, and the package variables that the reading takes, are together of bulk at most 1048576: NARROWER than '..Said'. Prove '..Said' where nothing that the law and all that it calls make is longer than what came in: it says more and counts as full. Else prove '..UptoSaid'. A law counts once. -/
mutual
def uptoBulk {H : Type} : DataW H → Nat
  | .lit (.string bytes) => bytes.length + 1
  | .lit _ => 1
  | .nil => 1
  | .ptr d => uptoBulk d + 1
  | .slice elems spare => uptoBulkAll elems + uptoBulkAll spare + 1
  | .agg parts => uptoBulkAll parts + 1
  | .iface _ d => uptoBulk d + 1
  | .map entries => uptoBulkEntries entries + 1
  | .held _ => 1
def uptoBulkAll {H : Type} : List (DataW H) → Nat
  | [] => 0
  | d :: r => uptoBulk d + uptoBulkAll r
def uptoBulkEntries {H : Type} : List (Lit × DataW H) → Nat
  | [] => 0
  | x :: r => uptoBulkEntry x + uptoBulkEntries r
def uptoBulkEntry {H : Type} : Lit × DataW H → Nat
  | (.string bytes, d) => bytes.length + uptoBulk d + 1
  | (_, d) => uptoBulk d + 1
 end
def uptoSmall : (H : Type) → List (DataW H) → Bool := fun _ ds => decide (uptoBulkAll ds ≤ 1048576)
def OpenSpec.upto (s : _root_.Go.ChangeSpec) : _root_.Go.OpenSpec := { _root_.Go.OpenSpec.ofChange s with cond := some uptoSmall }

/-- 'bypathlaw05.AttrPuts', WHERE WHAT IT READS IS OF BULK AT MOST 1048576: true; the input reads as it did. -/
def attrPutsUptoRow : OpenClaim := { program := "ytcabiodgmhcdlaadoor", sum := "f358a11204df8e248b15f4c106a7ffd67bddff9ec2abc4c1f9dbf53d21d62273", func := "bypath/bypathlaw05.AttrPuts", spec := "attrPuts", unfollowed := true, recurses := true, named := ["bypath/attr.ownFlags"], apart := false, laid := [("bypath/attr.ownFlags", laid_bypath_attr_ownFlags)], narrowed := true }
def AttrPutsUptoSaid : Prop := attrPutsUptoRow.holds Tryd.pinned (OpenSpec.upto attrPutsSpec)

/-- 'bypathlaw05.AttrGets', WHERE WHAT IT READS IS OF BULK AT MOST 1048576: true; the input reads as it did. -/
def attrGetsUptoRow : OpenClaim := { program := "ytcabiodgmhcdlaadoor", sum := "f358a11204df8e248b15f4c106a7ffd67bddff9ec2abc4c1f9dbf53d21d62273", func := "bypath/bypathlaw05.AttrGets", spec := "attrGets", unfollowed := true, recurses := true, named := ["bypath/attr.ownFlags"], apart := false, laid := [("bypath/attr.ownFlags", laid_bypath_attr_ownFlags)], narrowed := true }
def AttrGetsUptoSaid : Prop := attrGetsUptoRow.holds Tryd.pinned (OpenSpec.upto attrGetsSpec)

/-- 'bypathlaw05.AttrTwice', WHERE WHAT IT READS IS OF BULK AT MOST 1048576: true; the input reads as it did. -/
def attrTwiceUptoRow : OpenClaim := { program := "ytcabiodgmhcdlaadoor", sum := "f358a11204df8e248b15f4c106a7ffd67bddff9ec2abc4c1f9dbf53d21d62273", func := "bypath/bypathlaw05.AttrTwice", spec := "attrTwice", unfollowed := true, recurses := true, named := ["bypath/attr.ownFlags"], apart := false, laid := [("bypath/attr.ownFlags", laid_bypath_attr_ownFlags)], narrowed := true }
def AttrTwiceUptoSaid : Prop := attrTwiceUptoRow.holds Tryd.pinned (OpenSpec.upto attrTwiceSpec)

end Rows
end Go.Proofs.YtcabiodgmhcdlaaDoor
