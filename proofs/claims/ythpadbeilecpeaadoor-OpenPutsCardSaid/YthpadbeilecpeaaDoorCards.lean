/-
  DERIVED. GIVEN WITH THE SEED: THE CARDS: each row of YthpadbeilecpeaaDoorRows.lean that lists a variable, with what it lists TIED to the program's text (the seventh form; the later family's looks); each row that meets fmt, with fmt's text TOLD by the authors' own Lean function (tested against real Go, not proved from fmt's source: count such statements apart). THE CARD IS WHAT COUNTS. Prove the row's statement (the work); the ties are given (YthpadbeilecpeaaDoorTie.lean); close each card by the builder's one call (the guide's Derived/Test/ToyasCard.lean, 'card_holds'). Laid BY PROGRAM, IN A SANDBOX (cutbox-door.mjs). By AI agents, Wed Nov 11 2026. No macro, syntax, notation, axiom, sorry.
-/
import Derived.Test.YthpadbeilecpeaaDoorRows
import GoSem.ClaimSeven
namespace Go.Proofs.YthpadbeilecpeaaDoor
namespace Rows

/-- THE TIED CARD OF 'bypathlaw04.OpenPuts'. -/
def openPutsCard : Claim7 := { stood := { row := openPutsRow, standIns := [], harness := (true, "41ecf4b8fa573651fb1feafadf83ef99fd8487ef12ef8ba2c47334a0fa01b06f"), looks := false }, kinds := [], alts := [], laidByText := true, laidKinds := [.data], laidTests := true, laidLooks := .later }
def OpenPutsCardSaid : Prop := Claim7.holds Tryd.pinned (.plain (OpenSpec.ofChange openPutsSpec)) openPutsCard

/-- THE SECOND FORM's CARD OF 'bypathlaw04.OpenPuts'. -/
def openPutsUptoCard : Claim7 := { stood := { row := openPutsUptoRow, standIns := [], harness := (true, "41ecf4b8fa573651fb1feafadf83ef99fd8487ef12ef8ba2c47334a0fa01b06f"), looks := false }, kinds := [], alts := [], laidByText := true, laidKinds := [.data], laidTests := true, laidLooks := .later }
def OpenPutsUptoCardSaid : Prop := Claim7.holds Tryd.pinned (.plain (OpenSpec.upto openPutsSpec)) openPutsUptoCard
end Rows
end Go.Proofs.YthpadbeilecpeaaDoor
