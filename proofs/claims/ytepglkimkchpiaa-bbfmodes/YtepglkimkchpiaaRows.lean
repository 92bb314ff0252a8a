/-
  No cell of these rows narrows 'for every input' (looked for: loops, veiled, ifaces, maps, wideKeys, modest, calm, conditions, laid).
  DERIVED. THE GIVEN ROWS OF THIS SEAT. 5 by the template 'for every input the law returns true; each argument reads behind the call as it read before'; 0 by the template 'total and deterministic' (their statements: YtepglkimkchpiaaTotals.lean).
  GIVEN WITH THE SEED: the statements are not yours to turn. If you find one false, say at which input.
  Laid BY PROGRAM, IN A SANDBOX (cutbox-rows.mjs): the forced cells as the released guide's own fill.sh prints them over the translation e1838f6bf8359b71… (all of the seat's roots in one cut). By AI agents, Wed Nov 11 2026. No macro, syntax, notation, axiom, sorry.
-/
import Derived.Test.YtepglkimkchpiaaChecked
import GoSem.Claim
import GoSem.ClaimJoined
import GoSem.ClaimMapViews
import Derived.JoinedTies
import Derived.KernelRfl
namespace Go.Proofs.Ytepglkimkchpiaa
/- THE CELL 'sum', in the pinned program and in every row, IS THE sha256 OF THE DUMP (.gsa) THAT YtepglkimkchpiaaProg.lean LOADS. Nothing in Lean hashes anything: it is a label: what it is worth is what the hold of that sum in a sandbox is worth. -/
noncomputable def Try.pinned : Pinned := { name := "ytepglkimkchpiaa", sum := "e1838f6bf8359b717f7ff4294281cac069672c04cc40637588d362a6f82772d9", checked := Try.checked }
namespace Rows
def none {H : Type} : Left H := { results := [], args := [] }

/-- 'aeriallaw14.BbfPacks': WHATEVER THE INPUT: true; the input reads as it did. -/
def bbfPacksSpec : ChangeSpec := { name := "bbfPacks", fn := fun _ => fun
  | [d1, d2] => { results := [.lit (.bool true)], args := [d1, d2] }
  | _ => none }
def bbfPacksRow : OpenClaim := { program := "ytepglkimkchpiaa", sum := "e1838f6bf8359b717f7ff4294281cac069672c04cc40637588d362a6f82772d9", func := "aerial/aeriallaw14.BbfPacks", spec := "bbfPacks", unfollowed := true, recurses := true, apart := false }
def BbfPacksSaid : Prop := bbfPacksRow.holds Try.pinned (OpenSpec.ofChange bbfPacksSpec)

/-- ITS FALSE NEIGHBOUR: 'it returns false'. Refute it at one input. -/
def bbfPacksWrong : ChangeSpec := { name := "bbfPacks", fn := fun _ => fun
  | [d1, d2] => { results := [.lit (.bool false)], args := [d1, d2] }
  | _ => none }
def BbfPacksWrongFalsely : Prop := bbfPacksRow.holds Try.pinned (OpenSpec.ofChange bbfPacksWrong)

/-- 'aeriallaw14.BbfUnpacks': WHATEVER THE INPUT: true; the input reads as it did. -/
def bbfUnpacksSpec : ChangeSpec := { name := "bbfUnpacks", fn := fun _ => fun
  | [d1, d2, d3] => { results := [.lit (.bool true)], args := [d1, d2, d3] }
  | _ => none }
def bbfUnpacksRow : OpenClaim := { program := "ytepglkimkchpiaa", sum := "e1838f6bf8359b717f7ff4294281cac069672c04cc40637588d362a6f82772d9", func := "aerial/aeriallaw14.BbfUnpacks", spec := "bbfUnpacks", unfollowed := true, recurses := true, apart := false }
def BbfUnpacksSaid : Prop := bbfUnpacksRow.holds Try.pinned (OpenSpec.ofChange bbfUnpacksSpec)

/-- ITS FALSE NEIGHBOUR: 'it returns false'. Refute it at one input. -/
def bbfUnpacksWrong : ChangeSpec := { name := "bbfUnpacks", fn := fun _ => fun
  | [d1, d2, d3] => { results := [.lit (.bool false)], args := [d1, d2, d3] }
  | _ => none }
def BbfUnpacksWrongFalsely : Prop := bbfUnpacksRow.holds Try.pinned (OpenSpec.ofChange bbfUnpacksWrong)

/-- 'aeriallaw14.BbfBack': WHATEVER THE INPUT: true; the input reads as it did. -/
def bbfBackSpec : ChangeSpec := { name := "bbfBack", fn := fun _ => fun
  | [d1, d2, d3] => { results := [.lit (.bool true)], args := [d1, d2, d3] }
  | _ => none }
def bbfBackRow : OpenClaim := { program := "ytepglkimkchpiaa", sum := "e1838f6bf8359b717f7ff4294281cac069672c04cc40637588d362a6f82772d9", func := "aerial/aeriallaw14.BbfBack", spec := "bbfBack", unfollowed := true, recurses := true, apart := false }
def BbfBackSaid : Prop := bbfBackRow.holds Try.pinned (OpenSpec.ofChange bbfBackSpec)

/-- ITS FALSE NEIGHBOUR: 'it returns false'. Refute it at one input. -/
def bbfBackWrong : ChangeSpec := { name := "bbfBack", fn := fun _ => fun
  | [d1, d2, d3] => { results := [.lit (.bool false)], args := [d1, d2, d3] }
  | _ => none }
def BbfBackWrongFalsely : Prop := bbfBackRow.holds Try.pinned (OpenSpec.ofChange bbfBackWrong)

/-- 'aeriallaw14.BbfModes': WHATEVER THE INPUT: true; the input reads as it did. -/
def bbfModesSpec : ChangeSpec := { name := "bbfModes", fn := fun _ => fun
  | [d1, d2, d3] => { results := [.lit (.bool true)], args := [d1, d2, d3] }
  | _ => none }
def bbfModesRow : OpenClaim := { program := "ytepglkimkchpiaa", sum := "e1838f6bf8359b717f7ff4294281cac069672c04cc40637588d362a6f82772d9", func := "aerial/aeriallaw14.BbfModes", spec := "bbfModes", unfollowed := true, recurses := true, apart := false }
def BbfModesSaid : Prop := bbfModesRow.holds Try.pinned (OpenSpec.ofChange bbfModesSpec)

/-- ITS FALSE NEIGHBOUR: 'it returns false'. Refute it at one input. -/
def bbfModesWrong : ChangeSpec := { name := "bbfModes", fn := fun _ => fun
  | [d1, d2, d3] => { results := [.lit (.bool false)], args := [d1, d2, d3] }
  | _ => none }
def BbfModesWrongFalsely : Prop := bbfModesRow.holds Try.pinned (OpenSpec.ofChange bbfModesWrong)

/-- 'aeriallaw14.BbfKnown': WHATEVER THE INPUT: true; the input reads as it did. -/
def bbfKnownSpec : ChangeSpec := { name := "bbfKnown", fn := fun _ => fun
  | [] => { results := [.lit (.bool true)], args := [] }
  | _ => none }
def bbfKnownRow : OpenClaim := { program := "ytepglkimkchpiaa", sum := "e1838f6bf8359b717f7ff4294281cac069672c04cc40637588d362a6f82772d9", func := "aerial/aeriallaw14.BbfKnown", spec := "bbfKnown", unfollowed := true, recurses := true, apart := false }
def BbfKnownSaid : Prop := bbfKnownRow.holds Try.pinned (OpenSpec.ofChange bbfKnownSpec)

/-- ITS FALSE NEIGHBOUR: 'it returns false'. Refute it at one input. -/
def bbfKnownWrong : ChangeSpec := { name := "bbfKnown", fn := fun _ => fun
  | [] => { results := [.lit (.bool false)], args := [] }
  | _ => none }
def BbfKnownWrongFalsely : Prop := bbfKnownRow.holds Try.pinned (OpenSpec.ofChange bbfKnownWrong)

/- THE SECOND FORM. 'bulk': how many values and letters a reading holds, each counted each time it is reached (what is shared counts as often as it is met; a slice's spare places count too). A statement '..UptoSaid' is the law's where the arguments, and the package variables that the reading takes, are together of bulk at most 1048576: NARROWER than '..Said'. Prove '..Said' where nothing that the law and all that it calls make is longer than what came in: it says more and counts as full. Else prove '..UptoSaid'. A law counts once. -/
mutual
def uptoBulk {H : Type} : DataW H → Nat
  | .lit (.string bytes) => bytes.length + 1
  | .lit _ => 1
  | .nil => 1
  | .ptr d => uptoBulk d + 1
  | .slice elems spare => uptoBulkAll elems + uptoBulkAll spare + 1
  | .agg parts => uptoBulkAll parts + 1
  | .iface _ d => uptoBulk d + 1
  | .map entries => uptoBulkEntries entries + 1
  | .held _ => 1
def uptoBulkAll {H : Type} : List (DataW H) → Nat
  | [] => 0
  | d :: r => uptoBulk d + uptoBulkAll r
def uptoBulkEntries {H : Type} : List (Lit × DataW H) → Nat
  | [] => 0
  | x :: r => uptoBulkEntry x + uptoBulkEntries r
def uptoBulkEntry {H : Type} : Lit × DataW H → Nat
  | (.string bytes, d) => bytes.length + uptoBulk d + 1
  | (_, d) => uptoBulk d + 1
 end
def uptoSmall : (H : Type) → List (DataW H) → Bool := fun _ ds => decide (uptoBulkAll ds ≤ 1048576)
def OpenSpec.upto (s : _root_.Go.ChangeSpec) : _root_.Go.OpenSpec := { _root_.Go.OpenSpec.ofChange s with cond := some uptoSmall }

/-- 'aeriallaw14.BbfPacks', WHERE WHAT IT READS IS OF BULK AT MOST 1048576: true; the input reads as it did. -/
def bbfPacksUptoRow : OpenClaim := { program := "ytepglkimkchpiaa", sum := "e1838f6bf8359b717f7ff4294281cac069672c04cc40637588d362a6f82772d9", func := "aerial/aeriallaw14.BbfPacks", spec := "bbfPacks", unfollowed := true, recurses := true, apart := false, narrowed := true }
def BbfPacksUptoSaid : Prop := bbfPacksUptoRow.holds Try.pinned (OpenSpec.upto bbfPacksSpec)

/-- 'aeriallaw14.BbfUnpacks', WHERE WHAT IT READS IS OF BULK AT MOST 1048576: true; the input reads as it did. -/
def bbfUnpacksUptoRow : OpenClaim := { program := "ytepglkimkchpiaa", sum := "e1838f6bf8359b717f7ff4294281cac069672c04cc40637588d362a6f82772d9", func := "aerial/aeriallaw14.BbfUnpacks", spec := "bbfUnpacks", unfollowed := true, recurses := true, apart := false, narrowed := true }
def BbfUnpacksUptoSaid : Prop := bbfUnpacksUptoRow.holds Try.pinned (OpenSpec.upto bbfUnpacksSpec)

/-- 'aeriallaw14.BbfBack', WHERE WHAT IT READS IS OF BULK AT MOST 1048576: true; the input reads as it did. -/
def bbfBackUptoRow : OpenClaim := { program := "ytepglkimkchpiaa", sum := "e1838f6bf8359b717f7ff4294281cac069672c04cc40637588d362a6f82772d9", func := "aerial/aeriallaw14.BbfBack", spec := "bbfBack", unfollowed := true, recurses := true, apart := false, narrowed := true }
def BbfBackUptoSaid : Prop := bbfBackUptoRow.holds Try.pinned (OpenSpec.upto bbfBackSpec)

/-- 'aeriallaw14.BbfModes', WHERE WHAT IT READS IS OF BULK AT MOST 1048576: true; the input reads as it did. -/
def bbfModesUptoRow : OpenClaim := { program := "ytepglkimkchpiaa", sum := "e1838f6bf8359b717f7ff4294281cac069672c04cc40637588d362a6f82772d9", func := "aerial/aeriallaw14.BbfModes", spec := "bbfModes", unfollowed := true, recurses := true, apart := false, narrowed := true }
def BbfModesUptoSaid : Prop := bbfModesUptoRow.holds Try.pinned (OpenSpec.upto bbfModesSpec)

/-- 'aeriallaw14.BbfKnown', WHERE WHAT IT READS IS OF BULK AT MOST 1048576: true; the input reads as it did. -/
def bbfKnownUptoRow : OpenClaim := { program := "ytepglkimkchpiaa", sum := "e1838f6bf8359b717f7ff4294281cac069672c04cc40637588d362a6f82772d9", func := "aerial/aeriallaw14.BbfKnown", spec := "bbfKnown", unfollowed := true, recurses := true, apart := false, narrowed := true }
def BbfKnownUptoSaid : Prop := bbfKnownUptoRow.holds Try.pinned (OpenSpec.upto bbfKnownSpec)

end Rows
end Go.Proofs.Ytepglkimkchpiaa
