/-
  No cell of these rows narrows 'for every input' (looked for: loops, veiled, ifaces, maps, wideKeys, modest, calm, conditions, laid).
  DERIVED. THE GIVEN ROWS OF THIS SEAT. 4 by the template 'for every input the law returns true; each argument reads behind the call as it read before'; 0 by the template 'total and deterministic' (their statements: YtmfdbfbfipbdmaaTotals.lean).
  GIVEN WITH THE SEED: the statements are not yours to turn. If you find one false, say at which input.
  Laid BY PROGRAM, IN A SANDBOX (cutbox-rows.mjs): the forced cells as the released guide's own fill.sh prints them over the translation 4a4b23fc5c3bb576… (all of the seat's roots in one cut). By AI agents, Wed Nov 11 2026. No macro, syntax, notation, axiom, sorry.
-/
import Derived.Test.YtmfdbfbfipbdmaaChecked
import GoSem.Claim
import GoSem.ClaimJoined
import GoSem.ClaimMapViews
import Derived.JoinedTies
import Derived.KernelRfl
namespace Go.Proofs.Ytmfdbfbfipbdmaa
/- THE CELL 'sum', in the pinned program and in every row, IS THE sha256 OF THE DUMP (.gsa) THAT YtmfdbfbfipbdmaaProg.lean LOADS. Nothing in Lean hashes anything: it is a label: what it is worth is what the hold of that sum in a sandbox is worth. -/
noncomputable def Try.pinned : Pinned := { name := "ytmfdbfbfipbdmaa", sum := "4a4b23fc5c3bb576eed5f31bf3557c5fa3853e16e1cd866b737fe4f1afa42885", checked := Try.checked }
namespace Rows
def none {H : Type} : Left H := { results := [], args := [] }

/-- 'aeriallaw12.FidPlays': WHATEVER THE INPUT: true; the input reads as it did. -/
def fidPlaysSpec : ChangeSpec := { name := "fidPlays", fn := fun _ => fun
  | [d] => { results := [.lit (.bool true)], args := [d] }
  | _ => none }
def fidPlaysRow : OpenClaim := { program := "ytmfdbfbfipbdmaa", sum := "4a4b23fc5c3bb576eed5f31bf3557c5fa3853e16e1cd866b737fe4f1afa42885", func := "aerial/aeriallaw12.FidPlays", spec := "fidPlays", unfollowed := true, recurses := true, apart := false }
def FidPlaysSaid : Prop := fidPlaysRow.holds Try.pinned (OpenSpec.ofChange fidPlaysSpec)

/-- ITS FALSE NEIGHBOUR: 'it returns false'. Refute it at one input. -/
def fidPlaysWrong : ChangeSpec := { name := "fidPlays", fn := fun _ => fun
  | [d] => { results := [.lit (.bool false)], args := [d] }
  | _ => none }
def FidPlaysWrongFalsely : Prop := fidPlaysRow.holds Try.pinned (OpenSpec.ofChange fidPlaysWrong)

/-- 'aeriallaw12.FidRound': WHATEVER THE INPUT: true; the input reads as it did. -/
def fidRoundSpec : ChangeSpec := { name := "fidRound", fn := fun _ => fun
  | [d] => { results := [.lit (.bool true)], args := [d] }
  | _ => none }
def fidRoundRow : OpenClaim := { program := "ytmfdbfbfipbdmaa", sum := "4a4b23fc5c3bb576eed5f31bf3557c5fa3853e16e1cd866b737fe4f1afa42885", func := "aerial/aeriallaw12.FidRound", spec := "fidRound", unfollowed := true, recurses := true, apart := false }
def FidRoundSaid : Prop := fidRoundRow.holds Try.pinned (OpenSpec.ofChange fidRoundSpec)

/-- ITS FALSE NEIGHBOUR: 'it returns false'. Refute it at one input. -/
def fidRoundWrong : ChangeSpec := { name := "fidRound", fn := fun _ => fun
  | [d] => { results := [.lit (.bool false)], args := [d] }
  | _ => none }
def FidRoundWrongFalsely : Prop := fidRoundRow.holds Try.pinned (OpenSpec.ofChange fidRoundWrong)

/-- 'aeriallaw12.FidBack': WHATEVER THE INPUT: true; the input reads as it did. -/
def fidBackSpec : ChangeSpec := { name := "fidBack", fn := fun _ => fun
  | [d1, d2] => { results := [.lit (.bool true)], args := [d1, d2] }
  | _ => none }
def fidBackRow : OpenClaim := { program := "ytmfdbfbfipbdmaa", sum := "4a4b23fc5c3bb576eed5f31bf3557c5fa3853e16e1cd866b737fe4f1afa42885", func := "aerial/aeriallaw12.FidBack", spec := "fidBack", unfollowed := true, recurses := true, apart := false }
def FidBackSaid : Prop := fidBackRow.holds Try.pinned (OpenSpec.ofChange fidBackSpec)

/-- ITS FALSE NEIGHBOUR: 'it returns false'. Refute it at one input. -/
def fidBackWrong : ChangeSpec := { name := "fidBack", fn := fun _ => fun
  | [d1, d2] => { results := [.lit (.bool false)], args := [d1, d2] }
  | _ => none }
def FidBackWrongFalsely : Prop := fidBackRow.holds Try.pinned (OpenSpec.ofChange fidBackWrong)

/-- 'aeriallaw12.FidKnown': WHATEVER THE INPUT: true; the input reads as it did. -/
def fidKnownSpec : ChangeSpec := { name := "fidKnown", fn := fun _ => fun
  | [] => { results := [.lit (.bool true)], args := [] }
  | _ => none }
def fidKnownRow : OpenClaim := { program := "ytmfdbfbfipbdmaa", sum := "4a4b23fc5c3bb576eed5f31bf3557c5fa3853e16e1cd866b737fe4f1afa42885", func := "aerial/aeriallaw12.FidKnown", spec := "fidKnown", unfollowed := true, recurses := true, apart := false }
def FidKnownSaid : Prop := fidKnownRow.holds Try.pinned (OpenSpec.ofChange fidKnownSpec)

/-- ITS FALSE NEIGHBOUR: 'it returns false'. Refute it at one input. -/
def fidKnownWrong : ChangeSpec := { name := "fidKnown", fn := fun _ => fun
  | [] => { results := [.lit (.bool false)], args := [] }
  | _ => none }
def FidKnownWrongFalsely : Prop := fidKnownRow.holds Try.pinned (OpenSpec.ofChange fidKnownWrong)

/- THE SECOND FORM. 'bulk': how many values and letters a reading holds, each counted each time it is reached (what is shared counts as often as it is met; a slice's spare places count too). A statement '..UptoSaid' is the law's where the arguments, and the package variables that the reading takes, are together of bulk at most 1048576: NARROWER than '..Said'. Prove '..Said' where nothing that the law and all that it calls make is longer than what came in: it says more and counts as full. Else prove '..UptoSaid'. A law counts once. -/
mutual
def uptoBulk {H : Type} : DataW H → Nat
  | .lit (.string bytes) => bytes.length + 1
  | .lit _ => 1
  | .nil => 1
  | .ptr d => uptoBulk d + 1
  | .slice elems spare => uptoBulkAll elems + uptoBulkAll spare + 1
  | .agg parts => uptoBulkAll parts + 1
  | .iface _ d => uptoBulk d + 1
  | .map entries => uptoBulkEntries entries + 1
  | .held _ => 1
def uptoBulkAll {H : Type} : List (DataW H) → Nat
  | [] => 0
  | d :: r => uptoBulk d + uptoBulkAll r
def uptoBulkEntries {H : Type} : List (Lit × DataW H) → Nat
  | [] => 0
  | x :: r => uptoBulkEntry x + uptoBulkEntries r
def uptoBulkEntry {H : Type} : Lit × DataW H → Nat
  | (.string bytes, d) => bytes.length + uptoBulk d + 1
  | (_, d) => uptoBulk d + 1
 end
def uptoSmall : (H : Type) → List (DataW H) → Bool := fun _ ds => decide (uptoBulkAll ds ≤ 1048576)
def OpenSpec.upto (s : _root_.Go.ChangeSpec) : _root_.Go.OpenSpec := { _root_.Go.OpenSpec.ofChange s with cond := some uptoSmall }

/-- 'aeriallaw12.FidPlays', WHERE WHAT IT READS IS OF BULK AT MOST 1048576: true; the input reads as it did. -/
def fidPlaysUptoRow : OpenClaim := { program := "ytmfdbfbfipbdmaa", sum := "4a4b23fc5c3bb576eed5f31bf3557c5fa3853e16e1cd866b737fe4f1afa42885", func := "aerial/aeriallaw12.FidPlays", spec := "fidPlays", unfollowed := true, recurses := true, apart := false, narrowed := true }
def FidPlaysUptoSaid : Prop := fidPlaysUptoRow.holds Try.pinned (OpenSpec.upto fidPlaysSpec)

/-- 'aeriallaw12.FidRound', WHERE WHAT IT READS IS OF BULK AT MOST 1048576: true; the input reads as it did. -/
def fidRoundUptoRow : OpenClaim := { program := "ytmfdbfbfipbdmaa", sum := "4a4b23fc5c3bb576eed5f31bf3557c5fa3853e16e1cd866b737fe4f1afa42885", func := "aerial/aeriallaw12.FidRound", spec := "fidRound", unfollowed := true, recurses := true, apart := false, narrowed := true }
def FidRoundUptoSaid : Prop := fidRoundUptoRow.holds Try.pinned (OpenSpec.upto fidRoundSpec)

/-- 'aeriallaw12.FidBack', WHERE WHAT IT READS IS OF BULK AT MOST 1048576: true; the input reads as it did. -/
def fidBackUptoRow : OpenClaim := { program := "ytmfdbfbfipbdmaa", sum := "4a4b23fc5c3bb576eed5f31bf3557c5fa3853e16e1cd866b737fe4f1afa42885", func := "aerial/aeriallaw12.FidBack", spec := "fidBack", unfollowed := true, recurses := true, apart := false, narrowed := true }
def FidBackUptoSaid : Prop := fidBackUptoRow.holds Try.pinned (OpenSpec.upto fidBackSpec)

/-- 'aeriallaw12.FidKnown', WHERE WHAT IT READS IS OF BULK AT MOST 1048576: true; the input reads as it did. -/
def fidKnownUptoRow : OpenClaim := { program := "ytmfdbfbfipbdmaa", sum := "4a4b23fc5c3bb576eed5f31bf3557c5fa3853e16e1cd866b737fe4f1afa42885", func := "aerial/aeriallaw12.FidKnown", spec := "fidKnown", unfollowed := true, recurses := true, apart := false, narrowed := true }
def FidKnownUptoSaid : Prop := fidKnownUptoRow.holds Try.pinned (OpenSpec.upto fidKnownSpec)

end Rows
end Go.Proofs.Ytmfdbfbfipbdmaa
