/-
  DERIVED. GIVEN WITH THE SEED: THE CARDS: each row of YtecogmgbblikcaaDoorRows.lean that lists a variable, with what it lists TIED to the program's text (the seventh form; the later family's looks); each row that meets fmt, with fmt's text TOLD by the authors' own Lean function (tested against real Go, not proved from fmt's source: count such statements apart). THE CARD IS WHAT COUNTS. Prove the row's statement (the work); the ties are given (YtecogmgbblikcaaDoorTie.lean); close each card by the builder's one call (the guide's Derived/Test/ToyasCard.lean, 'card_holds'). Laid BY PROGRAM, IN A SANDBOX (cutbox-door.mjs). By AI agents, Wed Nov 11 2026. No macro, syntax, notation, axiom, sorry.
-/
import Derived.Test.YtecogmgbblikcaaDoorRows
import GoSem.ClaimSeven
namespace Go.Proofs.YtecogmgbblikcaaDoor
namespace Rows

/-- THE TIED CARD OF 'aeriallaw08.GseLays'. -/
def gseLaysCard : Claim7 := { stood := { row := gseLaysRow, standIns := [], harness := (true, "b83a0057644c1f9a4e512b2951ff372d93f7f7c5781bdbfbbc16ab4ea53ee467"), looks := false }, kinds := [], alts := [], laidByText := true, laidKinds := [.data], laidTests := true, laidLooks := .later }
def GseLaysCardSaid : Prop := Claim7.holds Tryd.pinned (.plain (OpenSpec.ofChange gseLaysSpec)) gseLaysCard

/-- THE TIED CARD OF 'aeriallaw08.GseReads'. -/
def gseReadsCard : Claim7 := { stood := { row := gseReadsRow, standIns := [], harness := (true, "b83a0057644c1f9a4e512b2951ff372d93f7f7c5781bdbfbbc16ab4ea53ee467"), looks := false }, kinds := [], alts := [], laidByText := true, laidKinds := [.data], laidTests := true, laidLooks := .later }
def GseReadsCardSaid : Prop := Claim7.holds Tryd.pinned (.plain (OpenSpec.ofChange gseReadsSpec)) gseReadsCard

/-- THE TIED CARD OF 'aeriallaw08.GseBack'. -/
def gseBackCard : Claim7 := { stood := { row := gseBackRow, standIns := [], harness := (true, "b83a0057644c1f9a4e512b2951ff372d93f7f7c5781bdbfbbc16ab4ea53ee467"), looks := false }, kinds := [], alts := [], laidByText := true, laidKinds := [.data], laidTests := true, laidLooks := .later }
def GseBackCardSaid : Prop := Claim7.holds Tryd.pinned (.plain (OpenSpec.ofChange gseBackSpec)) gseBackCard

/-- THE TIED CARD OF 'aeriallaw08.GseAgain'. -/
def gseAgainCard : Claim7 := { stood := { row := gseAgainRow, standIns := [], harness := (true, "b83a0057644c1f9a4e512b2951ff372d93f7f7c5781bdbfbbc16ab4ea53ee467"), looks := false }, kinds := [], alts := [], laidByText := true, laidKinds := [.data], laidTests := true, laidLooks := .later }
def GseAgainCardSaid : Prop := Claim7.holds Tryd.pinned (.plain (OpenSpec.ofChange gseAgainSpec)) gseAgainCard

/-- THE TIED CARD OF 'aeriallaw08.GseKnown'. -/
def gseKnownCard : Claim7 := { stood := { row := gseKnownRow, standIns := [], harness := (true, "b83a0057644c1f9a4e512b2951ff372d93f7f7c5781bdbfbbc16ab4ea53ee467"), looks := false }, kinds := [], alts := [], laidByText := true, laidKinds := [.data], laidTests := true, laidLooks := .later }
def GseKnownCardSaid : Prop := Claim7.holds Tryd.pinned (.plain (OpenSpec.ofChange gseKnownSpec)) gseKnownCard

/-- THE SECOND FORM's CARD OF 'aeriallaw08.GseLays'. -/
def gseLaysUptoCard : Claim7 := { stood := { row := gseLaysUptoRow, standIns := [], harness := (true, "b83a0057644c1f9a4e512b2951ff372d93f7f7c5781bdbfbbc16ab4ea53ee467"), looks := false }, kinds := [], alts := [], laidByText := true, laidKinds := [.data], laidTests := true, laidLooks := .later }
def GseLaysUptoCardSaid : Prop := Claim7.holds Tryd.pinned (.plain (OpenSpec.upto gseLaysSpec)) gseLaysUptoCard

/-- THE SECOND FORM's CARD OF 'aeriallaw08.GseReads'. -/
def gseReadsUptoCard : Claim7 := { stood := { row := gseReadsUptoRow, standIns := [], harness := (true, "b83a0057644c1f9a4e512b2951ff372d93f7f7c5781bdbfbbc16ab4ea53ee467"), looks := false }, kinds := [], alts := [], laidByText := true, laidKinds := [.data], laidTests := true, laidLooks := .later }
def GseReadsUptoCardSaid : Prop := Claim7.holds Tryd.pinned (.plain (OpenSpec.upto gseReadsSpec)) gseReadsUptoCard

/-- THE SECOND FORM's CARD OF 'aeriallaw08.GseBack'. -/
def gseBackUptoCard : Claim7 := { stood := { row := gseBackUptoRow, standIns := [], harness := (true, "b83a0057644c1f9a4e512b2951ff372d93f7f7c5781bdbfbbc16ab4ea53ee467"), looks := false }, kinds := [], alts := [], laidByText := true, laidKinds := [.data], laidTests := true, laidLooks := .later }
def GseBackUptoCardSaid : Prop := Claim7.holds Tryd.pinned (.plain (OpenSpec.upto gseBackSpec)) gseBackUptoCard

/-- THE SECOND FORM's CARD OF 'aeriallaw08.GseAgain'. -/
def gseAgainUptoCard : Claim7 := { stood := { row := gseAgainUptoRow, standIns := [], harness := (true, "b83a0057644c1f9a4e512b2951ff372d93f7f7c5781bdbfbbc16ab4ea53ee467"), looks := false }, kinds := [], alts := [], laidByText := true, laidKinds := [.data], laidTests := true, laidLooks := .later }
def GseAgainUptoCardSaid : Prop := Claim7.holds Tryd.pinned (.plain (OpenSpec.upto gseAgainSpec)) gseAgainUptoCard

/-- THE SECOND FORM's CARD OF 'aeriallaw08.GseKnown'. -/
def gseKnownUptoCard : Claim7 := { stood := { row := gseKnownUptoRow, standIns := [], harness := (true, "b83a0057644c1f9a4e512b2951ff372d93f7f7c5781bdbfbbc16ab4ea53ee467"), looks := false }, kinds := [], alts := [], laidByText := true, laidKinds := [.data], laidTests := true, laidLooks := .later }
def GseKnownUptoCardSaid : Prop := Claim7.holds Tryd.pinned (.plain (OpenSpec.upto gseKnownSpec)) gseKnownUptoCard
end Rows
end Go.Proofs.YtecogmgbblikcaaDoor
