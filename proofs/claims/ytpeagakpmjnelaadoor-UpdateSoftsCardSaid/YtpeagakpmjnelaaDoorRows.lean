/-
  NARROWER THAN 'FOR EVERY INPUT', by the rows' own cells (each row's printed sentence says how): UpdatePuts: laid · UpdateSofts: laid · UpdateMany: laid · UpdateShort: laid.
  DERIVED. THE GIVEN ROWS OF THIS SEAT. 4 by the template 'for every input the law returns true; each argument reads behind the call as it read before'; 0 by the template 'total and deterministic' (their statements: YtpeagakpmjnelaaDoorTotals.lean).
  GIVEN WITH THE SEED: the statements are not yours to turn. If you find one false, say at which input.
  Laid BY PROGRAM, IN A SANDBOX (cutbox-rows.mjs): the forced cells as the released guide's own fill.sh prints them over the translation 01a8ffd657524ab8… (all of the seat's roots in one cut). By AI agents, Wed Nov 11 2026. No macro, syntax, notation, axiom, sorry.
-/
import Derived.Test.YtpeagakpmjnelaaDoorChecked
import GoSem.Claim
import GoSem.ClaimJoined
import GoSem.ClaimMapViews
import Derived.JoinedTies
import Derived.KernelRfl
namespace Go.Proofs.YtpeagakpmjnelaaDoor
/- THE CELL 'sum', in the pinned program and in every row, IS THE sha256 OF THE DUMP (.gsa) THAT YtpeagakpmjnelaaDoorProg.lean LOADS. Nothing in Lean hashes anything: it is a label: what it is worth is what the hold of that sum in a sandbox is worth. -/
noncomputable def Tryd.pinned : Pinned := { name := "ytpeagakpmjnelaadoor", sum := "01a8ffd657524ab8240b86bfc4b5240f7aae7cec72fdb32b668ded276e2b6023", checked := Tryd.checked }
namespace Rows
def none {H : Type} : Left H := { results := [], args := [] }

/- WHAT THE LISTED PACKAGE-LEVEL VARIABLES READ AS WHEN THE CALL BEGINS. Each datum BY PROGRAM (the guide's laid-datum.mjs) off the statement by which the dump's own 'gosem.cut.vars' lays the variable. In a bare row this is a premise. The card (YtpeagakpmjnelaaDoorCards.lean) ties it to the program's text. -/
def laid_bypath_attr_ownFlags {H : Type} : DataW H := .agg [.lit (.int .i64 0), .lit (.int .i64 64), .lit (.int .i64 64), .lit (.int .i64 64), .lit (.int .i64 128), .lit (.int .i64 64), .lit (.int .i64 0), .lit (.int .i64 0), .lit (.int .i64 192)]

/-- 'bypathlaw07.UpdatePuts': WHATEVER THE INPUT: true; the input reads as it did. -/
def updatePutsSpec : ChangeSpec := { name := "updatePuts", fn := fun _ => fun
  | [d1, d2, d3] => { results := [.lit (.bool true)], args := [d1, d2, d3] }
  | _ => none }
def updatePutsRow : OpenClaim := { program := "ytpeagakpmjnelaadoor", sum := "01a8ffd657524ab8240b86bfc4b5240f7aae7cec72fdb32b668ded276e2b6023", func := "bypath/bypathlaw07.UpdatePuts", spec := "updatePuts", unfollowed := true, recurses := true, named := ["bypath/attr.ownFlags"], apart := false, laid := [("bypath/attr.ownFlags", laid_bypath_attr_ownFlags)] }
def UpdatePutsSaid : Prop := updatePutsRow.holds Tryd.pinned (OpenSpec.ofChange updatePutsSpec)

/-- ITS FALSE NEIGHBOUR: 'it returns false'. Refute it at one input. -/
def updatePutsWrong : ChangeSpec := { name := "updatePuts", fn := fun _ => fun
  | [d1, d2, d3] => { results := [.lit (.bool false)], args := [d1, d2, d3] }
  | _ => none }
def UpdatePutsWrongFalsely : Prop := updatePutsRow.holds Tryd.pinned (OpenSpec.ofChange updatePutsWrong)

/-- 'bypathlaw07.UpdateSofts': WHATEVER THE INPUT: true; the input reads as it did. -/
def updateSoftsSpec : ChangeSpec := { name := "updateSofts", fn := fun _ => fun
  | [d1, d2, d3, d4, d5] => { results := [.lit (.bool true)], args := [d1, d2, d3, d4, d5] }
  | _ => none }
def updateSoftsRow : OpenClaim := { program := "ytpeagakpmjnelaadoor", sum := "01a8ffd657524ab8240b86bfc4b5240f7aae7cec72fdb32b668ded276e2b6023", func := "bypath/bypathlaw07.UpdateSofts", spec := "updateSofts", unfollowed := true, recurses := true, named := ["bypath/attr.ownFlags"], apart := false, laid := [("bypath/attr.ownFlags", laid_bypath_attr_ownFlags)] }
def UpdateSoftsSaid : Prop := updateSoftsRow.holds Tryd.pinned (OpenSpec.ofChange updateSoftsSpec)

/-- ITS FALSE NEIGHBOUR: 'it returns false'. Refute it at one input. -/
def updateSoftsWrong : ChangeSpec := { name := "updateSofts", fn := fun _ => fun
  | [d1, d2, d3, d4, d5] => { results := [.lit (.bool false)], args := [d1, d2, d3, d4, d5] }
  | _ => none }
def UpdateSoftsWrongFalsely : Prop := updateSoftsRow.holds Tryd.pinned (OpenSpec.ofChange updateSoftsWrong)

/-- 'bypathlaw07.UpdateMany': WHATEVER THE INPUT: true; the input reads as it did. -/
def updateManySpec : ChangeSpec := { name := "updateMany", fn := fun _ => fun
  | [d1, d2, d3, d4, d5] => { results := [.lit (.bool true)], args := [d1, d2, d3, d4, d5] }
  | _ => none }
def updateManyRow : OpenClaim := { program := "ytpeagakpmjnelaadoor", sum := "01a8ffd657524ab8240b86bfc4b5240f7aae7cec72fdb32b668ded276e2b6023", func := "bypath/bypathlaw07.UpdateMany", spec := "updateMany", unfollowed := true, recurses := true, named := ["bypath/attr.ownFlags"], apart := false, laid := [("bypath/attr.ownFlags", laid_bypath_attr_ownFlags)] }
def UpdateManySaid : Prop := updateManyRow.holds Tryd.pinned (OpenSpec.ofChange updateManySpec)

/-- ITS FALSE NEIGHBOUR: 'it returns false'. Refute it at one input. -/
def updateManyWrong : ChangeSpec := { name := "updateMany", fn := fun _ => fun
  | [d1, d2, d3, d4, d5] => { results := [.lit (.bool false)], args := [d1, d2, d3, d4, d5] }
  | _ => none }
def UpdateManyWrongFalsely : Prop := updateManyRow.holds Tryd.pinned (OpenSpec.ofChange updateManyWrong)

/-- 'bypathlaw07.UpdateShort': WHATEVER THE INPUT: true; the input reads as it did. -/
def updateShortSpec : ChangeSpec := { name := "updateShort", fn := fun _ => fun
  | [d1, d2, d3, d4] => { results := [.lit (.bool true)], args := [d1, d2, d3, d4] }
  | _ => none }
def updateShortRow : OpenClaim := { program := "ytpeagakpmjnelaadoor", sum := "01a8ffd657524ab8240b86bfc4b5240f7aae7cec72fdb32b668ded276e2b6023", func := "bypath/bypathlaw07.UpdateShort", spec := "updateShort", unfollowed := true, recurses := true, named := ["bypath/attr.ownFlags"], apart := false, laid := [("bypath/attr.ownFlags", laid_bypath_attr_ownFlags)] }
def UpdateShortSaid : Prop := updateShortRow.holds Tryd.pinned (OpenSpec.ofChange updateShortSpec)

/-- ITS FALSE NEIGHBOUR: 'it returns false'. Refute it at one input. -/
def updateShortWrong : ChangeSpec := { name := "updateShort", fn := fun _ => fun
  | [d1, d2, d3, d4] => { results := [.lit (.bool false)], args := [d1, d2, d3, d4] }
  | _ => none }
def UpdateShortWrongFalsely : Prop := updateShortRow.holds Tryd.pinned (OpenSpec.ofChange updateShortWrong)

/- THE SECOND FORM. 'bulk': how many values and letters a reading holds, each counted each time it is reached (what is shared counts as often as it is met; a slice's spare places count too). A statement '..UptoSaid' is the law's where the arguments, and the package variables that the reading takes, are together of bulk at most 1048576: NARROWER than '..Said'. Prove '..Said' where nothing that the law and all that it calls make is longer than what came in: it says more and counts as full. Else prove '..UptoSaid'. A law counts once. -/
mutual
def uptoBulk {H : Type} : DataW H → Nat
  | .lit (.string bytes) => bytes.length + 1
  | .lit _ => 1
  | .nil => 1
  | .ptr d => uptoBulk d + 1
  | .slice elems spare => uptoBulkAll elems + uptoBulkAll spare + 1
  | .agg parts => uptoBulkAll parts + 1
  | .iface _ d => uptoBulk d + 1
  | .map entries => uptoBulkEntries entries + 1
  | .held _ => 1
def uptoBulkAll {H : Type} : List (DataW H) → Nat
  | [] => 0
  | d :: r => uptoBulk d + uptoBulkAll r
def uptoBulkEntries {H : Type} : List (Lit × DataW H) → Nat
  | [] => 0
  | x :: r => uptoBulkEntry x + uptoBulkEntries r
def uptoBulkEntry {H : Type} : Lit × DataW H → Nat
  | (.string bytes, d) => bytes.length + uptoBulk d + 1
  | (_, d) => uptoBulk d + 1
 end
def uptoSmall : (H : Type) → List (DataW H) → Bool := fun _ ds => decide (uptoBulkAll ds ≤ 1048576)
def OpenSpec.upto (s : _root_.Go.ChangeSpec) : _root_.Go.OpenSpec := { _root_.Go.OpenSpec.ofChange s with cond := some uptoSmall }

/-- 'bypathlaw07.UpdatePuts', WHERE WHAT IT READS IS OF BULK AT MOST 1048576: true; the input reads as it did. -/
def updatePutsUptoRow : OpenClaim := { program := "ytpeagakpmjnelaadoor", sum := "01a8ffd657524ab8240b86bfc4b5240f7aae7cec72fdb32b668ded276e2b6023", func := "bypath/bypathlaw07.UpdatePuts", spec := "updatePuts", unfollowed := true, recurses := true, named := ["bypath/attr.ownFlags"], apart := false, laid := [("bypath/attr.ownFlags", laid_bypath_attr_ownFlags)], narrowed := true }
def UpdatePutsUptoSaid : Prop := updatePutsUptoRow.holds Tryd.pinned (OpenSpec.upto updatePutsSpec)

/-- 'bypathlaw07.UpdateSofts', WHERE WHAT IT READS IS OF BULK AT MOST 1048576: true; the input reads as it did. -/
def updateSoftsUptoRow : OpenClaim := { program := "ytpeagakpmjnelaadoor", sum := "01a8ffd657524ab8240b86bfc4b5240f7aae7cec72fdb32b668ded276e2b6023", func := "bypath/bypathlaw07.UpdateSofts", spec := "updateSofts", unfollowed := true, recurses := true, named := ["bypath/attr.ownFlags"], apart := false, laid := [("bypath/attr.ownFlags", laid_bypath_attr_ownFlags)], narrowed := true }
def UpdateSoftsUptoSaid : Prop := updateSoftsUptoRow.holds Tryd.pinned (OpenSpec.upto updateSoftsSpec)

/-- 'bypathlaw07.UpdateMany', WHERE WHAT IT READS IS OF BULK AT MOST 1048576: true; the input reads as it did. -/
def updateManyUptoRow : OpenClaim := { program := "ytpeagakpmjnelaadoor", sum := "01a8ffd657524ab8240b86bfc4b5240f7aae7cec72fdb32b668ded276e2b6023", func := "bypath/bypathlaw07.UpdateMany", spec := "updateMany", unfollowed := true, recurses := true, named := ["bypath/attr.ownFlags"], apart := false, laid := [("bypath/attr.ownFlags", laid_bypath_attr_ownFlags)], narrowed := true }
def UpdateManyUptoSaid : Prop := updateManyUptoRow.holds Tryd.pinned (OpenSpec.upto updateManySpec)

/-- 'bypathlaw07.UpdateShort', WHERE WHAT IT READS IS OF BULK AT MOST 1048576: true; the input reads as it did. -/
def updateShortUptoRow : OpenClaim := { program := "ytpeagakpmjnelaadoor", sum := "01a8ffd657524ab8240b86bfc4b5240f7aae7cec72fdb32b668ded276e2b6023", func := "bypath/bypathlaw07.UpdateShort", spec := "updateShort", unfollowed := true, recurses := true, named := ["bypath/attr.ownFlags"], apart := false, laid := [("bypath/attr.ownFlags", laid_bypath_attr_ownFlags)], narrowed := true }
def UpdateShortUptoSaid : Prop := updateShortUptoRow.holds Tryd.pinned (OpenSpec.upto updateShortSpec)

end Rows
end Go.Proofs.YtpeagakpmjnelaaDoor
