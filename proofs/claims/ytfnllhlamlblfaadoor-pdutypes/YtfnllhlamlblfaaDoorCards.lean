/-
  DERIVED. GIVEN WITH THE SEED: THE CARDS: each row of YtfnllhlamlblfaaDoorRows.lean that lists a variable, with what it lists TIED to the program's text (the seventh form; the later family's looks); each row that meets fmt, with fmt's text TOLD by the authors' own Lean function (tested against real Go, not proved from fmt's source: count such statements apart). THE CARD IS WHAT COUNTS. Prove the row's statement (the work); the ties are given (YtfnllhlamlblfaaDoorTie.lean); close each card by the builder's one call (the guide's Derived/Test/ToyasCard.lean, 'card_holds'). Laid BY PROGRAM, IN A SANDBOX (cutbox-door.mjs). By AI agents, Wed Nov 11 2026. No macro, syntax, notation, axiom, sorry.
-/
import Derived.Test.YtfnllhlamlblfaaDoorRows
import GoSem.ClaimSeven
namespace Go.Proofs.YtfnllhlamlblfaaDoor
namespace Rows

/-- THE TIED CARD OF 'aeriallaw10.PduTells'. -/
def pduTellsCard : Claim7 := { stood := { row := pduTellsRow, standIns := [], harness := (true, "015dc22d75bce51807b0b3d30b7076be10856f5b8b6a93ece28523a892893f25"), looks := false }, kinds := [], alts := [], laidByText := true, laidKinds := [.data], laidTests := true, laidLooks := .later }
def PduTellsCardSaid : Prop := Claim7.holds Tryd.pinned (.plain (OpenSpec.ofChange pduTellsSpec)) pduTellsCard

/-- THE TIED CARD OF 'aeriallaw10.PduRight'. -/
def pduRightCard : Claim7 := { stood := { row := pduRightRow, standIns := [], harness := (true, "015dc22d75bce51807b0b3d30b7076be10856f5b8b6a93ece28523a892893f25"), looks := false }, kinds := [], alts := [], laidByText := true, laidKinds := [.data], laidTests := true, laidLooks := .later }
def PduRightCardSaid : Prop := Claim7.holds Tryd.pinned (.plain (OpenSpec.ofChange pduRightSpec)) pduRightCard

/-- THE TIED CARD OF 'aeriallaw10.PduKeeps'. -/
def pduKeepsCard : Claim7 := { stood := { row := pduKeepsRow, standIns := [], harness := (true, "015dc22d75bce51807b0b3d30b7076be10856f5b8b6a93ece28523a892893f25"), looks := false }, kinds := [], alts := [], laidByText := true, laidKinds := [.data], laidTests := true, laidLooks := .later }
def PduKeepsCardSaid : Prop := Claim7.holds Tryd.pinned (.plain (OpenSpec.ofChange pduKeepsSpec)) pduKeepsCard

/-- THE TIED CARD OF 'aeriallaw10.PduTypes'. -/
def pduTypesCard : Claim7 := { stood := { row := pduTypesRow, standIns := [], harness := (true, "015dc22d75bce51807b0b3d30b7076be10856f5b8b6a93ece28523a892893f25"), looks := false }, kinds := [], alts := [], laidByText := true, laidKinds := [.data], laidTests := true, laidLooks := .later }
def PduTypesCardSaid : Prop := Claim7.holds Tryd.pinned (.plain (OpenSpec.ofChange pduTypesSpec)) pduTypesCard

/-- THE TIED CARD OF 'aeriallaw10.PduSums'. -/
def pduSumsCard : Claim7 := { stood := { row := pduSumsRow, standIns := [], harness := (true, "015dc22d75bce51807b0b3d30b7076be10856f5b8b6a93ece28523a892893f25"), looks := false }, kinds := [], alts := [], laidByText := true, laidKinds := [.data], laidTests := true, laidLooks := .later }
def PduSumsCardSaid : Prop := Claim7.holds Tryd.pinned (.plain (OpenSpec.ofChange pduSumsSpec)) pduSumsCard

/-- THE TIED CARD OF 'aeriallaw10.PduKnown'. -/
def pduKnownCard : Claim7 := { stood := { row := pduKnownRow, standIns := [], harness := (true, "015dc22d75bce51807b0b3d30b7076be10856f5b8b6a93ece28523a892893f25"), looks := false }, kinds := [], alts := [], laidByText := true, laidKinds := [.data], laidTests := true, laidLooks := .later }
def PduKnownCardSaid : Prop := Claim7.holds Tryd.pinned (.plain (OpenSpec.ofChange pduKnownSpec)) pduKnownCard

/-- THE SECOND FORM's CARD OF 'aeriallaw10.PduTells'. -/
def pduTellsUptoCard : Claim7 := { stood := { row := pduTellsUptoRow, standIns := [], harness := (true, "015dc22d75bce51807b0b3d30b7076be10856f5b8b6a93ece28523a892893f25"), looks := false }, kinds := [], alts := [], laidByText := true, laidKinds := [.data], laidTests := true, laidLooks := .later }
def PduTellsUptoCardSaid : Prop := Claim7.holds Tryd.pinned (.plain (OpenSpec.upto pduTellsSpec)) pduTellsUptoCard

/-- THE SECOND FORM's CARD OF 'aeriallaw10.PduRight'. -/
def pduRightUptoCard : Claim7 := { stood := { row := pduRightUptoRow, standIns := [], harness := (true, "015dc22d75bce51807b0b3d30b7076be10856f5b8b6a93ece28523a892893f25"), looks := false }, kinds := [], alts := [], laidByText := true, laidKinds := [.data], laidTests := true, laidLooks := .later }
def PduRightUptoCardSaid : Prop := Claim7.holds Tryd.pinned (.plain (OpenSpec.upto pduRightSpec)) pduRightUptoCard

/-- THE SECOND FORM's CARD OF 'aeriallaw10.PduKeeps'. -/
def pduKeepsUptoCard : Claim7 := { stood := { row := pduKeepsUptoRow, standIns := [], harness := (true, "015dc22d75bce51807b0b3d30b7076be10856f5b8b6a93ece28523a892893f25"), looks := false }, kinds := [], alts := [], laidByText := true, laidKinds := [.data], laidTests := true, laidLooks := .later }
def PduKeepsUptoCardSaid : Prop := Claim7.holds Tryd.pinned (.plain (OpenSpec.upto pduKeepsSpec)) pduKeepsUptoCard

/-- THE SECOND FORM's CARD OF 'aeriallaw10.PduTypes'. -/
def pduTypesUptoCard : Claim7 := { stood := { row := pduTypesUptoRow, standIns := [], harness := (true, "015dc22d75bce51807b0b3d30b7076be10856f5b8b6a93ece28523a892893f25"), looks := false }, kinds := [], alts := [], laidByText := true, laidKinds := [.data], laidTests := true, laidLooks := .later }
def PduTypesUptoCardSaid : Prop := Claim7.holds Tryd.pinned (.plain (OpenSpec.upto pduTypesSpec)) pduTypesUptoCard

/-- THE SECOND FORM's CARD OF 'aeriallaw10.PduSums'. -/
def pduSumsUptoCard : Claim7 := { stood := { row := pduSumsUptoRow, standIns := [], harness := (true, "015dc22d75bce51807b0b3d30b7076be10856f5b8b6a93ece28523a892893f25"), looks := false }, kinds := [], alts := [], laidByText := true, laidKinds := [.data], laidTests := true, laidLooks := .later }
def PduSumsUptoCardSaid : Prop := Claim7.holds Tryd.pinned (.plain (OpenSpec.upto pduSumsSpec)) pduSumsUptoCard

/-- THE SECOND FORM's CARD OF 'aeriallaw10.PduKnown'. -/
def pduKnownUptoCard : Claim7 := { stood := { row := pduKnownUptoRow, standIns := [], harness := (true, "015dc22d75bce51807b0b3d30b7076be10856f5b8b6a93ece28523a892893f25"), looks := false }, kinds := [], alts := [], laidByText := true, laidKinds := [.data], laidTests := true, laidLooks := .later }
def PduKnownUptoCardSaid : Prop := Claim7.holds Tryd.pinned (.plain (OpenSpec.upto pduKnownSpec)) pduKnownUptoCard
end Rows
end Go.Proofs.YtfnllhlamlblfaaDoor
