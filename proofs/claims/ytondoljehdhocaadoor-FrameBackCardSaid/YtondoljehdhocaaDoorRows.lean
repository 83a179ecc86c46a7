/-
  NARROWER THAN 'FOR EVERY INPUT', by the rows' own cells (each row's printed sentence says how): FramePuts: laid · FrameHeads: laid · FrameBack: laid · FrameFull: laid · FrameTells: laid.
  DERIVED. THE GIVEN ROWS OF THIS SEAT. 5 by the template 'for every input the law returns true; each argument reads behind the call as it read before'; 0 by the template 'total and deterministic' (their statements: YtondoljehdhocaaDoorTotals.lean).
  GIVEN WITH THE SEED: the statements are not yours to turn. If you find one false, say at which input.
  Laid BY PROGRAM, IN A SANDBOX (cutbox-rows.mjs): the forced cells as the released guide's own fill.sh prints them over the translation 7f34b0dd7443ce1f… (all of the seat's roots in one cut). By AI agents, Wed Nov 11 2026. No macro, syntax, notation, axiom, sorry.
-/
import Derived.Test.YtondoljehdhocaaDoorChecked
import GoSem.Claim
import GoSem.ClaimJoined
import GoSem.ClaimMapViews
import Derived.JoinedTies
import Derived.KernelRfl
namespace Go.Proofs.YtondoljehdhocaaDoor
/- THE CELL 'sum', in the pinned program and in every row, IS THE sha256 OF THE DUMP (.gsa) THAT YtondoljehdhocaaDoorProg.lean LOADS. Nothing in Lean hashes anything: it is a label: what it is worth is what the hold of that sum in a sandbox is worth. -/
noncomputable def Tryd.pinned : Pinned := { name := "ytondoljehdhocaadoor", sum := "7f34b0dd7443ce1f37219e5c27a8b9547df0c220fab383d7fe50ae6888f8746a", checked := Tryd.checked }
namespace Rows
def none {H : Type} : Left H := { results := [], args := [] }

/- WHAT THE LISTED PACKAGE-LEVEL VARIABLES READ AS WHEN THE CALL BEGINS. Each datum BY PROGRAM (the guide's laid-datum.mjs) off the statement by which the dump's own 'gosem.cut.vars' lays the variable. In a bare row this is a premise. The card (YtondoljehdhocaaDoorCards.lean) ties it to the program's text. -/
def laid_bypath_frame_least {H : Type} : DataW H := .agg [.lit (.int .i64 0), .lit (.int .i64 10), .lit (.int .i64 4), .lit (.int .i64 2), .lit (.int .i64 0)]

/-- 'bypathlaw03.FramePuts': WHATEVER THE INPUT: true; the input reads as it did. -/
def framePutsSpec : ChangeSpec := { name := "framePuts", fn := fun _ => fun
  | [d] => { results := [.lit (.bool true)], args := [d] }
  | _ => none }
def framePutsRow : OpenClaim := { program := "ytondoljehdhocaadoor", sum := "7f34b0dd7443ce1f37219e5c27a8b9547df0c220fab383d7fe50ae6888f8746a", func := "bypath/bypathlaw03.FramePuts", spec := "framePuts", named := ["bypath/frame.least"], apart := false, laid := [("bypath/frame.least", laid_bypath_frame_least)] }
def FramePutsSaid : Prop := framePutsRow.holds Tryd.pinned (OpenSpec.ofChange framePutsSpec)

/-- ITS FALSE NEIGHBOUR: 'it returns false'. Refute it at one input. -/
def framePutsWrong : ChangeSpec := { name := "framePuts", fn := fun _ => fun
  | [d] => { results := [.lit (.bool false)], args := [d] }
  | _ => none }
def FramePutsWrongFalsely : Prop := framePutsRow.holds Tryd.pinned (OpenSpec.ofChange framePutsWrong)

/-- 'bypathlaw03.FrameHeads': WHATEVER THE INPUT: true; the input reads as it did. -/
def frameHeadsSpec : ChangeSpec := { name := "frameHeads", fn := fun _ => fun
  | [d] => { results := [.lit (.bool true)], args := [d] }
  | _ => none }
def frameHeadsRow : OpenClaim := { program := "ytondoljehdhocaadoor", sum := "7f34b0dd7443ce1f37219e5c27a8b9547df0c220fab383d7fe50ae6888f8746a", func := "bypath/bypathlaw03.FrameHeads", spec := "frameHeads", named := ["bypath/frame.least"], apart := false, laid := [("bypath/frame.least", laid_bypath_frame_least)] }
def FrameHeadsSaid : Prop := frameHeadsRow.holds Tryd.pinned (OpenSpec.ofChange frameHeadsSpec)

/-- ITS FALSE NEIGHBOUR: 'it returns false'. Refute it at one input. -/
def frameHeadsWrong : ChangeSpec := { name := "frameHeads", fn := fun _ => fun
  | [d] => { results := [.lit (.bool false)], args := [d] }
  | _ => none }
def FrameHeadsWrongFalsely : Prop := frameHeadsRow.holds Tryd.pinned (OpenSpec.ofChange frameHeadsWrong)

/-- 'bypathlaw03.FrameBack': WHATEVER THE INPUT: true; the input reads as it did. -/
def frameBackSpec : ChangeSpec := { name := "frameBack", fn := fun _ => fun
  | [d1, d2] => { results := [.lit (.bool true)], args := [d1, d2] }
  | _ => none }
def frameBackRow : OpenClaim := { program := "ytondoljehdhocaadoor", sum := "7f34b0dd7443ce1f37219e5c27a8b9547df0c220fab383d7fe50ae6888f8746a", func := "bypath/bypathlaw03.FrameBack", spec := "frameBack", named := ["bypath/frame.least"], apart := false, laid := [("bypath/frame.least", laid_bypath_frame_least)] }
def FrameBackSaid : Prop := frameBackRow.holds Tryd.pinned (OpenSpec.ofChange frameBackSpec)

/-- ITS FALSE NEIGHBOUR: 'it returns false'. Refute it at one input. -/
def frameBackWrong : ChangeSpec := { name := "frameBack", fn := fun _ => fun
  | [d1, d2] => { results := [.lit (.bool false)], args := [d1, d2] }
  | _ => none }
def FrameBackWrongFalsely : Prop := frameBackRow.holds Tryd.pinned (OpenSpec.ofChange frameBackWrong)

/-- 'bypathlaw03.FrameFull': WHATEVER THE INPUT: true; the input reads as it did. -/
def frameFullSpec : ChangeSpec := { name := "frameFull", fn := fun _ => fun
  | [d] => { results := [.lit (.bool true)], args := [d] }
  | _ => none }
def frameFullRow : OpenClaim := { program := "ytondoljehdhocaadoor", sum := "7f34b0dd7443ce1f37219e5c27a8b9547df0c220fab383d7fe50ae6888f8746a", func := "bypath/bypathlaw03.FrameFull", spec := "frameFull", named := ["bypath/frame.least"], apart := false, laid := [("bypath/frame.least", laid_bypath_frame_least)] }
def FrameFullSaid : Prop := frameFullRow.holds Tryd.pinned (OpenSpec.ofChange frameFullSpec)

/-- ITS FALSE NEIGHBOUR: 'it returns false'. Refute it at one input. -/
def frameFullWrong : ChangeSpec := { name := "frameFull", fn := fun _ => fun
  | [d] => { results := [.lit (.bool false)], args := [d] }
  | _ => none }
def FrameFullWrongFalsely : Prop := frameFullRow.holds Tryd.pinned (OpenSpec.ofChange frameFullWrong)

/-- 'bypathlaw03.FrameTells': WHATEVER THE INPUT: true; the input reads as it did. -/
def frameTellsSpec : ChangeSpec := { name := "frameTells", fn := fun _ => fun
  | [d] => { results := [.lit (.bool true)], args := [d] }
  | _ => none }
def frameTellsRow : OpenClaim := { program := "ytondoljehdhocaadoor", sum := "7f34b0dd7443ce1f37219e5c27a8b9547df0c220fab383d7fe50ae6888f8746a", func := "bypath/bypathlaw03.FrameTells", spec := "frameTells", named := ["bypath/frame.least"], apart := false, laid := [("bypath/frame.least", laid_bypath_frame_least)] }
def FrameTellsSaid : Prop := frameTellsRow.holds Tryd.pinned (OpenSpec.ofChange frameTellsSpec)

/-- ITS FALSE NEIGHBOUR: 'it returns false'. Refute it at one input. -/
def frameTellsWrong : ChangeSpec := { name := "frameTells", fn := fun _ => fun
  | [d] => { results := [.lit (.bool false)], args := [d] }
  | _ => none }
def FrameTellsWrongFalsely : Prop := frameTellsRow.holds Tryd.pinned (OpenSpec.ofChange frameTellsWrong)

/- THE SECOND FORM. 'bulk': how many values and letters a reading holds, each counted each time it is reached (what is shared counts as often as it is met; a slice's spare places count too). A statement '..UptoSaid' is the law's where the arguments, and the package variables that the reading takes, are together of bulk at most 1048576: NARROWER than '..Said'. Prove '..Said' where nothing that the law and all that it calls make is longer than what came in: it says more and counts as full. Else prove '..UptoSaid'. A law counts once. -/
mutual
def uptoBulk {H : Type} : DataW H → Nat
  | .lit (.string bytes) => bytes.length + 1
  | .lit _ => 1
  | .nil => 1
  | .ptr d => uptoBulk d + 1
  | .slice elems spare => uptoBulkAll elems + uptoBulkAll spare + 1
  | .agg parts => uptoBulkAll parts + 1
  | .iface _ d => uptoBulk d + 1
  | .map entries => uptoBulkEntries entries + 1
  | .held _ => 1
def uptoBulkAll {H : Type} : List (DataW H) → Nat
  | [] => 0
  | d :: r => uptoBulk d + uptoBulkAll r
def uptoBulkEntries {H : Type} : List (Lit × DataW H) → Nat
  | [] => 0
  | x :: r => uptoBulkEntry x + uptoBulkEntries r
def uptoBulkEntry {H : Type} : Lit × DataW H → Nat
  | (.string bytes, d) => bytes.length + uptoBulk d + 1
  | (_, d) => uptoBulk d + 1
 end
def uptoSmall : (H : Type) → List (DataW H) → Bool := fun _ ds => decide (uptoBulkAll ds ≤ 1048576)
def OpenSpec.upto (s : _root_.Go.ChangeSpec) : _root_.Go.OpenSpec := { _root_.Go.OpenSpec.ofChange s with cond := some uptoSmall }

/-- 'bypathlaw03.FramePuts', WHERE WHAT IT READS IS OF BULK AT MOST 1048576: true; the input reads as it did. -/
def framePutsUptoRow : OpenClaim := { program := "ytondoljehdhocaadoor", sum := "7f34b0dd7443ce1f37219e5c27a8b9547df0c220fab383d7fe50ae6888f8746a", func := "bypath/bypathlaw03.FramePuts", spec := "framePuts", named := ["bypath/frame.least"], apart := false, laid := [("bypath/frame.least", laid_bypath_frame_least)], narrowed := true }
def FramePutsUptoSaid : Prop := framePutsUptoRow.holds Tryd.pinned (OpenSpec.upto framePutsSpec)

/-- 'bypathlaw03.FrameHeads', WHERE WHAT IT READS IS OF BULK AT MOST 1048576: true; the input reads as it did. -/
def frameHeadsUptoRow : OpenClaim := { program := "ytondoljehdhocaadoor", sum := "7f34b0dd7443ce1f37219e5c27a8b9547df0c220fab383d7fe50ae6888f8746a", func := "bypath/bypathlaw03.FrameHeads", spec := "frameHeads", named := ["bypath/frame.least"], apart := false, laid := [("bypath/frame.least", laid_bypath_frame_least)], narrowed := true }
def FrameHeadsUptoSaid : Prop := frameHeadsUptoRow.holds Tryd.pinned (OpenSpec.upto frameHeadsSpec)

/-- 'bypathlaw03.FrameBack', WHERE WHAT IT READS IS OF BULK AT MOST 1048576: true; the input reads as it did. -/
def frameBackUptoRow : OpenClaim := { program := "ytondoljehdhocaadoor", sum := "7f34b0dd7443ce1f37219e5c27a8b9547df0c220fab383d7fe50ae6888f8746a", func := "bypath/bypathlaw03.FrameBack", spec := "frameBack", named := ["bypath/frame.least"], apart := false, laid := [("bypath/frame.least", laid_bypath_frame_least)], narrowed := true }
def FrameBackUptoSaid : Prop := frameBackUptoRow.holds Tryd.pinned (OpenSpec.upto frameBackSpec)

/-- 'bypathlaw03.FrameFull', WHERE WHAT IT READS IS OF BULK AT MOST 1048576: true; the input reads as it did. -/
def frameFullUptoRow : OpenClaim := { program := "ytondoljehdhocaadoor", sum := "7f34b0dd7443ce1f37219e5c27a8b9547df0c220fab383d7fe50ae6888f8746a", func := "bypath/bypathlaw03.FrameFull", spec := "frameFull", named := ["bypath/frame.least"], apart := false, laid := [("bypath/frame.least", laid_bypath_frame_least)], narrowed := true }
def FrameFullUptoSaid : Prop := frameFullUptoRow.holds Tryd.pinned (OpenSpec.upto frameFullSpec)

/-- 'bypathlaw03.FrameTells', WHERE WHAT IT READS IS OF BULK AT MOST 1048576: true; the input reads as it did. -/
def frameTellsUptoRow : OpenClaim := { program := "ytondoljehdhocaadoor", sum := "7f34b0dd7443ce1f37219e5c27a8b9547df0c220fab383d7fe50ae6888f8746a", func := "bypath/bypathlaw03.FrameTells", spec := "frameTells", named := ["bypath/frame.least"], apart := false, laid := [("bypath/frame.least", laid_bypath_frame_least)], narrowed := true }
def FrameTellsUptoSaid : Prop := frameTellsUptoRow.holds Tryd.pinned (OpenSpec.upto frameTellsSpec)

end Rows
end Go.Proofs.YtondoljehdhocaaDoor
