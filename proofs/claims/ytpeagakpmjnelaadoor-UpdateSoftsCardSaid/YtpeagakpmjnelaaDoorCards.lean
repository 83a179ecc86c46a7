/-
  DERIVED. GIVEN WITH THE SEED: THE CARDS: each row of YtpeagakpmjnelaaDoorRows.lean that lists a variable, with what it lists TIED to the program's text (the seventh form; the later family's looks); each row that meets fmt, with fmt's text TOLD by the authors' own Lean function (tested against real Go, not proved from fmt's source: count such statements apart). THE CARD IS WHAT COUNTS. Prove the row's statement (the work); the ties are given (YtpeagakpmjnelaaDoorTie.lean); close each card by the builder's one call (the guide's Derived/Test/ToyasCard.lean, 'card_holds'). Laid BY PROGRAM, IN A SANDBOX (cutbox-door.mjs). By AI agents, Wed Nov 11 2026. No macro, syntax, notation, axiom, sorry.
-/
import Derived.Test.YtpeagakpmjnelaaDoorRows
import GoSem.ClaimSeven
namespace Go.Proofs.YtpeagakpmjnelaaDoor
namespace Rows

/-- THE TIED CARD OF 'bypathlaw07.UpdatePuts'. -/
def updatePutsCard : Claim7 := { stood := { row := updatePutsRow, standIns := [], harness := (true, "9ceab9f9dfcbdc8226605b473205705cc88f62f61cacf2f4effdb030b23819fe"), looks := false }, kinds := [], alts := [], laidByText := true, laidKinds := [.data], laidTests := true, laidLooks := .later }
def UpdatePutsCardSaid : Prop := Claim7.holds Tryd.pinned (.plain (OpenSpec.ofChange updatePutsSpec)) updatePutsCard

/-- THE TIED CARD OF 'bypathlaw07.UpdateSofts'. -/
def updateSoftsCard : Claim7 := { stood := { row := updateSoftsRow, standIns := [], harness := (true, "9ceab9f9dfcbdc8226605b473205705cc88f62f61cacf2f4effdb030b23819fe"), looks := false }, kinds := [], alts := [], laidByText := true, laidKinds := [.data], laidTests := true, laidLooks := .later }
def UpdateSoftsCardSaid : Prop := Claim7.holds Tryd.pinned (.plain (OpenSpec.ofChange updateSoftsSpec)) updateSoftsCard

/-- THE TIED CARD OF 'bypathlaw07.UpdateMany'. -/
def updateManyCard : Claim7 := { stood := { row := updateManyRow, standIns := [], harness := (true, "9ceab9f9dfcbdc8226605b473205705cc88f62f61cacf2f4effdb030b23819fe"), looks := false }, kinds := [], alts := [], laidByText := true, laidKinds := [.data], laidTests := true, laidLooks := .later }
def UpdateManyCardSaid : Prop := Claim7.holds Tryd.pinned (.plain (OpenSpec.ofChange updateManySpec)) updateManyCard

/-- THE TIED CARD OF 'bypathlaw07.UpdateShort'. -/
def updateShortCard : Claim7 := { stood := { row := updateShortRow, standIns := [], harness := (true, "9ceab9f9dfcbdc8226605b473205705cc88f62f61cacf2f4effdb030b23819fe"), looks := false }, kinds := [], alts := [], laidByText := true, laidKinds := [.data], laidTests := true, laidLooks := .later }
def UpdateShortCardSaid : Prop := Claim7.holds Tryd.pinned (.plain (OpenSpec.ofChange updateShortSpec)) updateShortCard

/-- THE SECOND FORM's CARD OF 'bypathlaw07.UpdatePuts'. -/
def updatePutsUptoCard : Claim7 := { stood := { row := updatePutsUptoRow, standIns := [], harness := (true, "9ceab9f9dfcbdc8226605b473205705cc88f62f61cacf2f4effdb030b23819fe"), looks := false }, kinds := [], alts := [], laidByText := true, laidKinds := [.data], laidTests := true, laidLooks := .later }
def UpdatePutsUptoCardSaid : Prop := Claim7.holds Tryd.pinned (.plain (OpenSpec.upto updatePutsSpec)) updatePutsUptoCard

/-- THE SECOND FORM's CARD OF 'bypathlaw07.UpdateSofts'. -/
def updateSoftsUptoCard : Claim7 := { stood := { row := updateSoftsUptoRow, standIns := [], harness := (true, "9ceab9f9dfcbdc8226605b473205705cc88f62f61cacf2f4effdb030b23819fe"), looks := false }, kinds := [], alts := [], laidByText := true, laidKinds := [.data], laidTests := true, laidLooks := .later }
def UpdateSoftsUptoCardSaid : Prop := Claim7.holds Tryd.pinned (.plain (OpenSpec.upto updateSoftsSpec)) updateSoftsUptoCard

/-- THE SECOND FORM's CARD OF 'bypathlaw07.UpdateMany'. -/
def updateManyUptoCard : Claim7 := { stood := { row := updateManyUptoRow, standIns := [], harness := (true, "9ceab9f9dfcbdc8226605b473205705cc88f62f61cacf2f4effdb030b23819fe"), looks := false }, kinds := [], alts := [], laidByText := true, laidKinds := [.data], laidTests := true, laidLooks := .later }
def UpdateManyUptoCardSaid : Prop := Claim7.holds Tryd.pinned (.plain (OpenSpec.upto updateManySpec)) updateManyUptoCard

/-- THE SECOND FORM's CARD OF 'bypathlaw07.UpdateShort'. -/
def updateShortUptoCard : Claim7 := { stood := { row := updateShortUptoRow, standIns := [], harness := (true, "9ceab9f9dfcbdc8226605b473205705cc88f62f61cacf2f4effdb030b23819fe"), looks := false }, kinds := [], alts := [], laidByText := true, laidKinds := [.data], laidTests := true, laidLooks := .later }
def UpdateShortUptoCardSaid : Prop := Claim7.holds Tryd.pinned (.plain (OpenSpec.upto updateShortSpec)) updateShortUptoCard
end Rows
end Go.Proofs.YtpeagakpmjnelaaDoor
