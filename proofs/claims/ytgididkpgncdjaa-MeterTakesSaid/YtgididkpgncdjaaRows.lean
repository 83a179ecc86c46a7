/-
  No cell of these rows narrows 'for every input' (looked for: loops, veiled, ifaces, maps, wideKeys, modest, calm, conditions, laid).
  DERIVED. THE GIVEN ROWS OF THIS SEAT. 5 by the template 'for every input the law returns true; each argument reads behind the call as it read before'; 0 by the template 'total and deterministic' (their statements: YtgididkpgncdjaaTotals.lean).
  GIVEN WITH THE SEED: the statements are not yours to turn. If you find one false, say at which input.
  Laid BY PROGRAM, IN A SANDBOX (cutbox-rows.mjs): the forced cells as the released guide's own fill.sh prints them over the translation a7437556427bc6be… (all of the seat's roots in one cut). By AI agents, Wed Nov 11 2026. No macro, syntax, notation, axiom, sorry.
-/
import Derived.Test.YtgididkpgncdjaaChecked
import GoSem.Claim
import GoSem.ClaimJoined
import GoSem.ClaimMapViews
import Derived.JoinedTies
import Derived.KernelRfl
namespace Go.Proofs.Ytgididkpgncdjaa
/- THE CELL 'sum', in the pinned program and in every row, IS THE sha256 OF THE DUMP (.gsa) THAT YtgididkpgncdjaaProg.lean LOADS. Nothing in Lean hashes anything: it is a label: what it is worth is what the hold of that sum in a sandbox is worth. -/
noncomputable def Try.pinned : Pinned := { name := "ytgididkpgncdjaa", sum := "a7437556427bc6be72e21534f3a46e67f0ac3063b1680fbaa12db8413cc5414e", checked := Try.checked }
namespace Rows
def none {H : Type} : Left H := { results := [], args := [] }

/-- 'bypathlaw17.MeterTakes': WHATEVER THE INPUT: true; the input reads as it did. -/
def meterTakesSpec : ChangeSpec := { name := "meterTakes", fn := fun _ => fun
  | [d1, d2] => { results := [.lit (.bool true)], args := [d1, d2] }
  | _ => none }
def meterTakesRow : OpenClaim := { program := "ytgididkpgncdjaa", sum := "a7437556427bc6be72e21534f3a46e67f0ac3063b1680fbaa12db8413cc5414e", func := "bypath/bypathlaw17.MeterTakes", spec := "meterTakes", unfollowed := true, recurses := true, plainKeys := false, apart := false }
def MeterTakesSaid : Prop := meterTakesRow.holds Try.pinned (OpenSpec.ofChange meterTakesSpec)

/-- ITS FALSE NEIGHBOUR: 'it returns false'. Refute it at one input. -/
def meterTakesWrong : ChangeSpec := { name := "meterTakes", fn := fun _ => fun
  | [d1, d2] => { results := [.lit (.bool false)], args := [d1, d2] }
  | _ => none }
def MeterTakesWrongFalsely : Prop := meterTakesRow.holds Try.pinned (OpenSpec.ofChange meterTakesWrong)

/-- 'bypathlaw17.MeterOld': WHATEVER THE INPUT: true; the input reads as it did. -/
def meterOldSpec : ChangeSpec := { name := "meterOld", fn := fun _ => fun
  | [d1, d2] => { results := [.lit (.bool true)], args := [d1, d2] }
  | _ => none }
def meterOldRow : OpenClaim := { program := "ytgididkpgncdjaa", sum := "a7437556427bc6be72e21534f3a46e67f0ac3063b1680fbaa12db8413cc5414e", func := "bypath/bypathlaw17.MeterOld", spec := "meterOld", unfollowed := true, recurses := true, plainKeys := false, apart := false }
def MeterOldSaid : Prop := meterOldRow.holds Try.pinned (OpenSpec.ofChange meterOldSpec)

/-- ITS FALSE NEIGHBOUR: 'it returns false'. Refute it at one input. -/
def meterOldWrong : ChangeSpec := { name := "meterOld", fn := fun _ => fun
  | [d1, d2] => { results := [.lit (.bool false)], args := [d1, d2] }
  | _ => none }
def MeterOldWrongFalsely : Prop := meterOldRow.holds Try.pinned (OpenSpec.ofChange meterOldWrong)

/-- 'bypathlaw17.MeterRises': WHATEVER THE INPUT: true; the input reads as it did. -/
def meterRisesSpec : ChangeSpec := { name := "meterRises", fn := fun _ => fun
  | [d1, d2, d3, d4, d5] => { results := [.lit (.bool true)], args := [d1, d2, d3, d4, d5] }
  | _ => none }
def meterRisesRow : OpenClaim := { program := "ytgididkpgncdjaa", sum := "a7437556427bc6be72e21534f3a46e67f0ac3063b1680fbaa12db8413cc5414e", func := "bypath/bypathlaw17.MeterRises", spec := "meterRises", unfollowed := true, recurses := true, plainKeys := false, apart := false }
def MeterRisesSaid : Prop := meterRisesRow.holds Try.pinned (OpenSpec.ofChange meterRisesSpec)

/-- ITS FALSE NEIGHBOUR: 'it returns false'. Refute it at one input. -/
def meterRisesWrong : ChangeSpec := { name := "meterRises", fn := fun _ => fun
  | [d1, d2, d3, d4, d5] => { results := [.lit (.bool false)], args := [d1, d2, d3, d4, d5] }
  | _ => none }
def MeterRisesWrongFalsely : Prop := meterRisesRow.holds Try.pinned (OpenSpec.ofChange meterRisesWrong)

/-- 'bypathlaw17.MeterSums': WHATEVER THE INPUT: true; the input reads as it did. -/
def meterSumsSpec : ChangeSpec := { name := "meterSums", fn := fun _ => fun
  | [d] => { results := [.lit (.bool true)], args := [d] }
  | _ => none }
def meterSumsRow : OpenClaim := { program := "ytgididkpgncdjaa", sum := "a7437556427bc6be72e21534f3a46e67f0ac3063b1680fbaa12db8413cc5414e", func := "bypath/bypathlaw17.MeterSums", spec := "meterSums", unfollowed := true, recurses := true, plainKeys := false, apart := false }
def MeterSumsSaid : Prop := meterSumsRow.holds Try.pinned (OpenSpec.ofChange meterSumsSpec)

/-- ITS FALSE NEIGHBOUR: 'it returns false'. Refute it at one input. -/
def meterSumsWrong : ChangeSpec := { name := "meterSums", fn := fun _ => fun
  | [d] => { results := [.lit (.bool false)], args := [d] }
  | _ => none }
def MeterSumsWrongFalsely : Prop := meterSumsRow.holds Try.pinned (OpenSpec.ofChange meterSumsWrong)

/-- 'bypathlaw17.MeterOnce': WHATEVER THE INPUT: true; the input reads as it did. -/
def meterOnceSpec : ChangeSpec := { name := "meterOnce", fn := fun _ => fun
  | [d1, d2] => { results := [.lit (.bool true)], args := [d1, d2] }
  | _ => none }
def meterOnceRow : OpenClaim := { program := "ytgididkpgncdjaa", sum := "a7437556427bc6be72e21534f3a46e67f0ac3063b1680fbaa12db8413cc5414e", func := "bypath/bypathlaw17.MeterOnce", spec := "meterOnce", unfollowed := true, recurses := true, plainKeys := false, apart := false }
def MeterOnceSaid : Prop := meterOnceRow.holds Try.pinned (OpenSpec.ofChange meterOnceSpec)

/-- ITS FALSE NEIGHBOUR: 'it returns false'. Refute it at one input. -/
def meterOnceWrong : ChangeSpec := { name := "meterOnce", fn := fun _ => fun
  | [d1, d2] => { results := [.lit (.bool false)], args := [d1, d2] }
  | _ => none }
def MeterOnceWrongFalsely : Prop := meterOnceRow.holds Try.pinned (OpenSpec.ofChange meterOnceWrong)

/- THE SECOND FORM. 'bulk': how many values and letters a reading holds, each counted each time it is reached (what is shared counts as often as it is met; a slice's spare places count too). A statement '..UptoSaid' is the law's where the arguments, and the package variables that the reading takes, are together of bulk at most 1048576: NARROWER than '..Said'. Prove '..Said' where nothing that the law and all that it calls make is longer than what came in: it says more and counts as full. Else prove '..UptoSaid'. A law counts once. -/
mutual
def uptoBulk {H : Type} : DataW H → Nat
  | .lit (.string bytes) => bytes.length + 1
  | .lit _ => 1
  | .nil => 1
  | .ptr d => uptoBulk d + 1
  | .slice elems spare => uptoBulkAll elems + uptoBulkAll spare + 1
  | .agg parts => uptoBulkAll parts + 1
  | .iface _ d => uptoBulk d + 1
  | .map entries => uptoBulkEntries entries + 1
  | .held _ => 1
def uptoBulkAll {H : Type} : List (DataW H) → Nat
  | [] => 0
  | d :: r => uptoBulk d + uptoBulkAll r
def uptoBulkEntries {H : Type} : List (Lit × DataW H) → Nat
  | [] => 0
  | x :: r => uptoBulkEntry x + uptoBulkEntries r
def uptoBulkEntry {H : Type} : Lit × DataW H → Nat
  | (.string bytes, d) => bytes.length + uptoBulk d + 1
  | (_, d) => uptoBulk d + 1
 end
def uptoSmall : (H : Type) → List (DataW H) → Bool := fun _ ds => decide (uptoBulkAll ds ≤ 1048576)
def OpenSpec.upto (s : _root_.Go.ChangeSpec) : _root_.Go.OpenSpec := { _root_.Go.OpenSpec.ofChange s with cond := some uptoSmall }

/-- 'bypathlaw17.MeterTakes', WHERE WHAT IT READS IS OF BULK AT MOST 1048576: true; the input reads as it did. -/
def meterTakesUptoRow : OpenClaim := { program := "ytgididkpgncdjaa", sum := "a7437556427bc6be72e21534f3a46e67f0ac3063b1680fbaa12db8413cc5414e", func := "bypath/bypathlaw17.MeterTakes", spec := "meterTakes", unfollowed := true, recurses := true, plainKeys := false, apart := false, narrowed := true }
def MeterTakesUptoSaid : Prop := meterTakesUptoRow.holds Try.pinned (OpenSpec.upto meterTakesSpec)

/-- 'bypathlaw17.MeterOld', WHERE WHAT IT READS IS OF BULK AT MOST 1048576: true; the input reads as it did. -/
def meterOldUptoRow : OpenClaim := { program := "ytgididkpgncdjaa", sum := "a7437556427bc6be72e21534f3a46e67f0ac3063b1680fbaa12db8413cc5414e", func := "bypath/bypathlaw17.MeterOld", spec := "meterOld", unfollowed := true, recurses := true, plainKeys := false, apart := false, narrowed := true }
def MeterOldUptoSaid : Prop := meterOldUptoRow.holds Try.pinned (OpenSpec.upto meterOldSpec)

/-- 'bypathlaw17.MeterRises', WHERE WHAT IT READS IS OF BULK AT MOST 1048576: true; the input reads as it did. -/
def meterRisesUptoRow : OpenClaim := { program := "ytgididkpgncdjaa", sum := "a7437556427bc6be72e21534f3a46e67f0ac3063b1680fbaa12db8413cc5414e", func := "bypath/bypathlaw17.MeterRises", spec := "meterRises", unfollowed := true, recurses := true, plainKeys := false, apart := false, narrowed := true }
def MeterRisesUptoSaid : Prop := meterRisesUptoRow.holds Try.pinned (OpenSpec.upto meterRisesSpec)

/-- 'bypathlaw17.MeterSums', WHERE WHAT IT READS IS OF BULK AT MOST 1048576: true; the input reads as it did. -/
def meterSumsUptoRow : OpenClaim := { program := "ytgididkpgncdjaa", sum := "a7437556427bc6be72e21534f3a46e67f0ac3063b1680fbaa12db8413cc5414e", func := "bypath/bypathlaw17.MeterSums", spec := "meterSums", unfollowed := true, recurses := true, plainKeys := false, apart := false, narrowed := true }
def MeterSumsUptoSaid : Prop := meterSumsUptoRow.holds Try.pinned (OpenSpec.upto meterSumsSpec)

/-- 'bypathlaw17.MeterOnce', WHERE WHAT IT READS IS OF BULK AT MOST 1048576: true; the input reads as it did. -/
def meterOnceUptoRow : OpenClaim := { program := "ytgididkpgncdjaa", sum := "a7437556427bc6be72e21534f3a46e67f0ac3063b1680fbaa12db8413cc5414e", func := "bypath/bypathlaw17.MeterOnce", spec := "meterOnce", unfollowed := true, recurses := true, plainKeys := false, apart := false, narrowed := true }
def MeterOnceUptoSaid : Prop := meterOnceUptoRow.holds Try.pinned (OpenSpec.upto meterOnceSpec)

end Rows
end Go.Proofs.Ytgididkpgncdjaa
