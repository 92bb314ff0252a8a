/-
  DERIVED. GIVEN WITH THE SEED: THE CARDS: each row of YtenbhnemlfhioaaDoorRows.lean that lists a variable, with what it lists TIED to the program's text (the seventh form; the later family's looks); each row that meets fmt, with fmt's text TOLD by the authors' own Lean function (tested against real Go, not proved from fmt's source: count such statements apart). THE CARD IS WHAT COUNTS. Prove the row's statement (the work); the ties are given (YtenbhnemlfhioaaDoorTie.lean); close each card by the builder's one call (the guide's Derived/Test/ToyasCard.lean, 'card_holds'). Laid BY PROGRAM, IN A SANDBOX (cutbox-door.mjs). By AI agents, Wed Nov 11 2026. No macro, syntax, notation, axiom, sorry.
-/
import Derived.Test.YtenbhnemlfhioaaDoorRows
import GoSem.ClaimSeven
namespace Go.Proofs.YtenbhnemlfhioaaDoor
namespace Rows

/-- THE TIED CARD OF 'aeriallaw11.CutWhole'. -/
def cutWholeCard : Claim7 := { stood := { row := cutWholeRow, standIns := [], harness := (true, "e67fdb4b23cb9b100a275b68e3e896a178dbdfafe2625e12ab53d2b8c02fa22e"), looks := false }, kinds := [], alts := [], laidByText := true, laidKinds := [.data], laidTests := true, laidLooks := .later }
def CutWholeCardSaid : Prop := Claim7.holds Tryd.pinned (.plain (OpenSpec.ofChange cutWholeSpec)) cutWholeCard

/-- THE TIED CARD OF 'aeriallaw11.CutAgain'. -/
def cutAgainCard : Claim7 := { stood := { row := cutAgainRow, standIns := [], harness := (true, "e67fdb4b23cb9b100a275b68e3e896a178dbdfafe2625e12ab53d2b8c02fa22e"), looks := false }, kinds := [], alts := [], laidByText := true, laidKinds := [.data], laidTests := true, laidLooks := .later }
def CutAgainCardSaid : Prop := Claim7.holds Tryd.pinned (.plain (OpenSpec.ofChange cutAgainSpec)) cutAgainCard

/-- THE TIED CARD OF 'aeriallaw11.CutKnown'. -/
def cutKnownCard : Claim7 := { stood := { row := cutKnownRow, standIns := [], harness := (true, "e67fdb4b23cb9b100a275b68e3e896a178dbdfafe2625e12ab53d2b8c02fa22e"), looks := false }, kinds := [], alts := [], laidByText := true, laidKinds := [.data], laidTests := true, laidLooks := .later }
def CutKnownCardSaid : Prop := Claim7.holds Tryd.pinned (.plain (OpenSpec.ofChange cutKnownSpec)) cutKnownCard

/-- THE SECOND FORM's CARD OF 'aeriallaw11.CutWhole'. -/
def cutWholeUptoCard : Claim7 := { stood := { row := cutWholeUptoRow, standIns := [], harness := (true, "e67fdb4b23cb9b100a275b68e3e896a178dbdfafe2625e12ab53d2b8c02fa22e"), looks := false }, kinds := [], alts := [], laidByText := true, laidKinds := [.data], laidTests := true, laidLooks := .later }
def CutWholeUptoCardSaid : Prop := Claim7.holds Tryd.pinned (.plain (OpenSpec.upto cutWholeSpec)) cutWholeUptoCard

/-- THE SECOND FORM's CARD OF 'aeriallaw11.CutAgain'. -/
def cutAgainUptoCard : Claim7 := { stood := { row := cutAgainUptoRow, standIns := [], harness := (true, "e67fdb4b23cb9b100a275b68e3e896a178dbdfafe2625e12ab53d2b8c02fa22e"), looks := false }, kinds := [], alts := [], laidByText := true, laidKinds := [.data], laidTests := true, laidLooks := .later }
def CutAgainUptoCardSaid : Prop := Claim7.holds Tryd.pinned (.plain (OpenSpec.upto cutAgainSpec)) cutAgainUptoCard

/-- THE SECOND FORM's CARD OF 'aeriallaw11.CutKnown'. -/
def cutKnownUptoCard : Claim7 := { stood := { row := cutKnownUptoRow, standIns := [], harness := (true, "e67fdb4b23cb9b100a275b68e3e896a178dbdfafe2625e12ab53d2b8c02fa22e"), looks := false }, kinds := [], alts := [], laidByText := true, laidKinds := [.data], laidTests := true, laidLooks := .later }
def CutKnownUptoCardSaid : Prop := Claim7.holds Tryd.pinned (.plain (OpenSpec.upto cutKnownSpec)) cutKnownUptoCard
end Rows
end Go.Proofs.YtenbhnemlfhioaaDoor
