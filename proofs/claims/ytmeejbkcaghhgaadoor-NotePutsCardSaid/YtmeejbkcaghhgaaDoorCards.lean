/-
  DERIVED. GIVEN WITH THE SEED: THE CARDS: each row of YtmeejbkcaghhgaaDoorRows.lean that lists a variable, with what it lists TIED to the program's text (the seventh form; the later family's looks); each row that meets fmt, with fmt's text TOLD by the authors' own Lean function (tested against real Go, not proved from fmt's source: count such statements apart). THE CARD IS WHAT COUNTS. Prove the row's statement (the work); the ties are given (YtmeejbkcaghhgaaDoorTie.lean); close each card by the builder's one call (the guide's Derived/Test/ToyasCard.lean, 'card_holds'). Laid BY PROGRAM, IN A SANDBOX (cutbox-door.mjs). By AI agents, Wed Nov 11 2026. No macro, syntax, notation, axiom, sorry.
-/
import Derived.Test.YtmeejbkcaghhgaaDoorRows
import GoSem.ClaimSeven
namespace Go.Proofs.YtmeejbkcaghhgaaDoor
namespace Rows

/-- THE TIED CARD OF 'bypathlaw08.NotePuts'. -/
def notePutsCard : Claim7 := { stood := { row := notePutsRow, standIns := [], harness := (true, "87dcb96a4539afc3d916100c9ca3766c98833d713677341526ba6c06b7f74d24"), looks := false }, kinds := [], alts := [], laidByText := true, laidKinds := [.data, .data, .data, .data, .data], laidTests := true, laidLooks := .later }
def NotePutsCardSaid : Prop := Claim7.holds Tryd.pinned (.plain (OpenSpec.ofChange notePutsSpec)) notePutsCard

/-- THE TIED CARD OF 'bypathlaw08.NoteGets'. -/
def noteGetsCard : Claim7 := { stood := { row := noteGetsRow, standIns := [], harness := (true, "87dcb96a4539afc3d916100c9ca3766c98833d713677341526ba6c06b7f74d24"), looks := false }, kinds := [], alts := [], laidByText := true, laidKinds := [.data, .data, .data, .data], laidTests := true, laidLooks := .later }
def NoteGetsCardSaid : Prop := Claim7.holds Tryd.pinned (.plain (OpenSpec.ofChange noteGetsSpec)) noteGetsCard

/-- THE TIED CARD OF 'bypathlaw08.NoteSames'. -/
def noteSamesCard : Claim7 := { stood := { row := noteSamesRow, standIns := [], harness := (true, "87dcb96a4539afc3d916100c9ca3766c98833d713677341526ba6c06b7f74d24"), looks := false }, kinds := [], alts := [], laidByText := true, laidKinds := [.data, .data, .data, .data], laidTests := true, laidLooks := .later }
def NoteSamesCardSaid : Prop := Claim7.holds Tryd.pinned (.plain (OpenSpec.ofChange noteSamesSpec)) noteSamesCard

/-- THE SECOND FORM's CARD OF 'bypathlaw08.NotePuts'. -/
def notePutsUptoCard : Claim7 := { stood := { row := notePutsUptoRow, standIns := [], harness := (true, "87dcb96a4539afc3d916100c9ca3766c98833d713677341526ba6c06b7f74d24"), looks := false }, kinds := [], alts := [], laidByText := true, laidKinds := [.data, .data, .data, .data, .data], laidTests := true, laidLooks := .later }
def NotePutsUptoCardSaid : Prop := Claim7.holds Tryd.pinned (.plain (OpenSpec.upto notePutsSpec)) notePutsUptoCard

/-- THE SECOND FORM's CARD OF 'bypathlaw08.NoteGets'. -/
def noteGetsUptoCard : Claim7 := { stood := { row := noteGetsUptoRow, standIns := [], harness := (true, "87dcb96a4539afc3d916100c9ca3766c98833d713677341526ba6c06b7f74d24"), looks := false }, kinds := [], alts := [], laidByText := true, laidKinds := [.data, .data, .data, .data], laidTests := true, laidLooks := .later }
def NoteGetsUptoCardSaid : Prop := Claim7.holds Tryd.pinned (.plain (OpenSpec.upto noteGetsSpec)) noteGetsUptoCard

/-- THE SECOND FORM's CARD OF 'bypathlaw08.NoteSames'. -/
def noteSamesUptoCard : Claim7 := { stood := { row := noteSamesUptoRow, standIns := [], harness := (true, "87dcb96a4539afc3d916100c9ca3766c98833d713677341526ba6c06b7f74d24"), looks := false }, kinds := [], alts := [], laidByText := true, laidKinds := [.data, .data, .data, .data], laidTests := true, laidLooks := .later }
def NoteSamesUptoCardSaid : Prop := Claim7.holds Tryd.pinned (.plain (OpenSpec.upto noteSamesSpec)) noteSamesUptoCard
end Rows
end Go.Proofs.YtmeejbkcaghhgaaDoor
