/-
  DERIVED. GIVEN WITH THE SEED: THE CARDS: each row of YtcabiodgmhcdlaaDoorRows.lean that lists a variable, with what it lists TIED to the program's text (the seventh form; the later family's looks); each row that meets fmt, with fmt's text TOLD by the authors' own Lean function (tested against real Go, not proved from fmt's source: count such statements apart). THE CARD IS WHAT COUNTS. Prove the row's statement (the work); the ties are given (YtcabiodgmhcdlaaDoorTie.lean); close each card by the builder's one call (the guide's Derived/Test/ToyasCard.lean, 'card_holds'). Laid BY PROGRAM, IN A SANDBOX (cutbox-door.mjs). By AI agents, Wed Nov 11 2026. No macro, syntax, notation, axiom, sorry.
-/
import Derived.Test.YtcabiodgmhcdlaaDoorRows
import GoSem.ClaimSeven
namespace Go.Proofs.YtcabiodgmhcdlaaDoor
namespace Rows

/-- THE TIED CARD OF 'bypathlaw05.AttrPuts'. -/
def attrPutsCard : Claim7 := { stood := { row := attrPutsRow, standIns := [], harness := (true, "0e4e2c58eb6d0a43f1d22fd93d73d38a2ee7309baa8c106ed772626e600fc0e9"), looks := false }, kinds := [], alts := [], laidByText := true, laidKinds := [.data], laidTests := true, laidLooks := .later }
def AttrPutsCardSaid : Prop := Claim7.holds Tryd.pinned (.plain (OpenSpec.ofChange attrPutsSpec)) attrPutsCard

/-- THE TIED CARD OF 'bypathlaw05.AttrGets'. -/
def attrGetsCard : Claim7 := { stood := { row := attrGetsRow, standIns := [], harness := (true, "0e4e2c58eb6d0a43f1d22fd93d73d38a2ee7309baa8c106ed772626e600fc0e9"), looks := false }, kinds := [], alts := [], laidByText := true, laidKinds := [.data], laidTests := true, laidLooks := .later }
def AttrGetsCardSaid : Prop := Claim7.holds Tryd.pinned (.plain (OpenSpec.ofChange attrGetsSpec)) attrGetsCard

/-- THE TIED CARD OF 'bypathlaw05.AttrTwice'. -/
def attrTwiceCard : Claim7 := { stood := { row := attrTwiceRow, standIns := [], harness := (true, "0e4e2c58eb6d0a43f1d22fd93d73d38a2ee7309baa8c106ed772626e600fc0e9"), looks := false }, kinds := [], alts := [], laidByText := true, laidKinds := [.data], laidTests := true, laidLooks := .later }
def AttrTwiceCardSaid : Prop := Claim7.holds Tryd.pinned (.plain (OpenSpec.ofChange attrTwiceSpec)) attrTwiceCard

/-- THE SECOND FORM's CARD OF 'bypathlaw05.AttrPuts'. -/
def attrPutsUptoCard : Claim7 := { stood := { row := attrPutsUptoRow, standIns := [], harness := (true, "0e4e2c58eb6d0a43f1d22fd93d73d38a2ee7309baa8c106ed772626e600fc0e9"), looks := false }, kinds := [], alts := [], laidByText := true, laidKinds := [.data], laidTests := true, laidLooks := .later }
def AttrPutsUptoCardSaid : Prop := Claim7.holds Tryd.pinned (.plain (OpenSpec.upto attrPutsSpec)) attrPutsUptoCard

/-- THE SECOND FORM's CARD OF 'bypathlaw05.AttrGets'. -/
def attrGetsUptoCard : Claim7 := { stood := { row := attrGetsUptoRow, standIns := [], harness := (true, "0e4e2c58eb6d0a43f1d22fd93d73d38a2ee7309baa8c106ed772626e600fc0e9"), looks := false }, kinds := [], alts := [], laidByText := true, laidKinds := [.data], laidTests := true, laidLooks := .later }
def AttrGetsUptoCardSaid : Prop := Claim7.holds Tryd.pinned (.plain (OpenSpec.upto attrGetsSpec)) attrGetsUptoCard

/-- THE SECOND FORM's CARD OF 'bypathlaw05.AttrTwice'. -/
def attrTwiceUptoCard : Claim7 := { stood := { row := attrTwiceUptoRow, standIns := [], harness := (true, "0e4e2c58eb6d0a43f1d22fd93d73d38a2ee7309baa8c106ed772626e600fc0e9"), looks := false }, kinds := [], alts := [], laidByText := true, laidKinds := [.data], laidTests := true, laidLooks := .later }
def AttrTwiceUptoCardSaid : Prop := Claim7.holds Tryd.pinned (.plain (OpenSpec.upto attrTwiceSpec)) attrTwiceUptoCard
end Rows
end Go.Proofs.YtcabiodgmhcdlaaDoor
