/-
  NARROWER THAN 'FOR EVERY INPUT', by the rows' own cells (each row's printed sentence says how): CutWhole: laid · CutAgain: laid · CutKnown: laid.
  DERIVED. THE GIVEN ROWS OF THIS SEAT. 3 by the template 'for every input the law returns true; each argument reads behind the call as it read before'; 0 by the template 'total and deterministic' (their statements: YtenbhnemlfhioaaDoorTotals.lean).
  GIVEN WITH THE SEED: the statements are not yours to turn. If you find one false, say at which input.
  Laid BY PROGRAM, IN A SANDBOX (cutbox-rows.mjs): the forced cells as the released guide's own fill.sh prints them over the translation ee1eeb714c3bf6d2… (all of the seat's roots in one cut). By AI agents, Wed Nov 11 2026. No macro, syntax, notation, axiom, sorry.
-/
import Derived.Test.YtenbhnemlfhioaaDoorChecked
import GoSem.Claim
import GoSem.ClaimJoined
import GoSem.ClaimMapViews
import Derived.JoinedTies
import Derived.KernelRfl
namespace Go.Proofs.YtenbhnemlfhioaaDoor
/- THE CELL 'sum', in the pinned program and in every row, IS THE sha256 OF THE DUMP (.gsa) THAT YtenbhnemlfhioaaDoorProg.lean LOADS. Nothing in Lean hashes anything: it is a label: what it is worth is what the hold of that sum in a sandbox is worth. -/
noncomputable def Tryd.pinned : Pinned := { name := "ytenbhnemlfhioaadoor", sum := "ee1eeb714c3bf6d2dc59be9521cde04a3b38171f1714c4aafc931e9e6e841479", checked := Tryd.checked }
namespace Rows
def none {H : Type} : Left H := { results := [], args := [] }

/- WHAT THE LISTED PACKAGE-LEVEL VARIABLES READ AS WHEN THE CALL BEGINS. Each datum BY PROGRAM (the guide's laid-datum.mjs) off the statement by which the dump's own 'gosem.cut.vars' lays the variable. In a bare row this is a premise. The card (YtenbhnemlfhioaaDoorCards.lean) ties it to the program's text. -/
def laid_aerial_label_sizes {H : Type} : DataW H := .agg [.lit (.int .i64 6), .lit (.int .i64 3), .lit (.int .i64 0), .lit (.int .i64 0)]

/-- 'aeriallaw11.CutWhole': WHATEVER THE INPUT: true; the input reads as it did. -/
def cutWholeSpec : ChangeSpec := { name := "cutWhole", fn := fun _ => fun
  | [d1, d2, d3] => { results := [.lit (.bool true)], args := [d1, d2, d3] }
  | _ => none }
def cutWholeRow : OpenClaim := { program := "ytenbhnemlfhioaadoor", sum := "ee1eeb714c3bf6d2dc59be9521cde04a3b38171f1714c4aafc931e9e6e841479", func := "aerial/aeriallaw11.CutWhole", spec := "cutWhole", inPlace := ["internal/abi.NoEscape", "internal/bytealg.MakeNoZero"], unfollowed := true, recurses := true, named := ["aerial/label.sizes"], apart := false, laid := [("aerial/label.sizes", laid_aerial_label_sizes)] }
def CutWholeSaid : Prop := cutWholeRow.holds Tryd.pinned (OpenSpec.ofChange cutWholeSpec)

/-- ITS FALSE NEIGHBOUR: 'it returns false'. Refute it at one input. -/
def cutWholeWrong : ChangeSpec := { name := "cutWhole", fn := fun _ => fun
  | [d1, d2, d3] => { results := [.lit (.bool false)], args := [d1, d2, d3] }
  | _ => none }
def CutWholeWrongFalsely : Prop := cutWholeRow.holds Tryd.pinned (OpenSpec.ofChange cutWholeWrong)

/-- 'aeriallaw11.CutAgain': WHATEVER THE INPUT: true; the input reads as it did. -/
def cutAgainSpec : ChangeSpec := { name := "cutAgain", fn := fun _ => fun
  | [d1, d2, d3] => { results := [.lit (.bool true)], args := [d1, d2, d3] }
  | _ => none }
def cutAgainRow : OpenClaim := { program := "ytenbhnemlfhioaadoor", sum := "ee1eeb714c3bf6d2dc59be9521cde04a3b38171f1714c4aafc931e9e6e841479", func := "aerial/aeriallaw11.CutAgain", spec := "cutAgain", inPlace := ["internal/abi.NoEscape", "internal/bytealg.MakeNoZero"], unfollowed := true, recurses := true, named := ["aerial/label.sizes"], apart := false, laid := [("aerial/label.sizes", laid_aerial_label_sizes)] }
def CutAgainSaid : Prop := cutAgainRow.holds Tryd.pinned (OpenSpec.ofChange cutAgainSpec)

/-- ITS FALSE NEIGHBOUR: 'it returns false'. Refute it at one input. -/
def cutAgainWrong : ChangeSpec := { name := "cutAgain", fn := fun _ => fun
  | [d1, d2, d3] => { results := [.lit (.bool false)], args := [d1, d2, d3] }
  | _ => none }
def CutAgainWrongFalsely : Prop := cutAgainRow.holds Tryd.pinned (OpenSpec.ofChange cutAgainWrong)

/-- 'aeriallaw11.CutKnown': WHATEVER THE INPUT: true; the input reads as it did. -/
def cutKnownSpec : ChangeSpec := { name := "cutKnown", fn := fun _ => fun
  | [] => { results := [.lit (.bool true)], args := [] }
  | _ => none }
def cutKnownRow : OpenClaim := { program := "ytenbhnemlfhioaadoor", sum := "ee1eeb714c3bf6d2dc59be9521cde04a3b38171f1714c4aafc931e9e6e841479", func := "aerial/aeriallaw11.CutKnown", spec := "cutKnown", inPlace := ["internal/abi.NoEscape", "internal/bytealg.MakeNoZero"], unfollowed := true, recurses := true, named := ["aerial/label.sizes"], apart := false, laid := [("aerial/label.sizes", laid_aerial_label_sizes)] }
def CutKnownSaid : Prop := cutKnownRow.holds Tryd.pinned (OpenSpec.ofChange cutKnownSpec)

/-- ITS FALSE NEIGHBOUR: 'it returns false'. Refute it at one input. -/
def cutKnownWrong : ChangeSpec := { name := "cutKnown", fn := fun _ => fun
  | [] => { results := [.lit (.bool false)], args := [] }
  | _ => none }
def CutKnownWrongFalsely : Prop := cutKnownRow.holds Tryd.pinned (OpenSpec.ofChange cutKnownWrong)

/- THE SECOND FORM. 'bulk': how many values and letters a reading holds, each counted each time it is reached (what is shared counts as often as it is met; a slice's spare places count too). A statement '..UptoSaid' is the law's where the arguments, and the package variables that the reading takes, are together of bulk at most 1048576: NARROWER than '..Said'. Prove '..Said' where nothing that the law and all that it calls make is longer than what came in: it says more and counts as full. Else prove '..UptoSaid'. A law counts once. -/
mutual
def uptoBulk {H : Type} : DataW H → Nat
  | .lit (.string bytes) => bytes.length + 1
  | .lit _ => 1
  | .nil => 1
  | .ptr d => uptoBulk d + 1
  | .slice elems spare => uptoBulkAll elems + uptoBulkAll spare + 1
  | .agg parts => uptoBulkAll parts + 1
  | .iface _ d => uptoBulk d + 1
  | .map entries => uptoBulkEntries entries + 1
  | .held _ => 1
def uptoBulkAll {H : Type} : List (DataW H) → Nat
  | [] => 0
  | d :: r => uptoBulk d + uptoBulkAll r
def uptoBulkEntries {H : Type} : List (Lit × DataW H) → Nat
  | [] => 0
  | x :: r => uptoBulkEntry x + uptoBulkEntries r
def uptoBulkEntry {H : Type} : Lit × DataW H → Nat
  | (.string bytes, d) => bytes.length + uptoBulk d + 1
  | (_, d) => uptoBulk d + 1
 end
def uptoSmall : (H : Type) → List (DataW H) → Bool := fun _ ds => decide (uptoBulkAll ds ≤ 1048576)
def OpenSpec.upto (s : _root_.Go.ChangeSpec) : _root_.Go.OpenSpec := { _root_.Go.OpenSpec.ofChange s with cond := some uptoSmall }

/-- 'aeriallaw11.CutWhole', WHERE WHAT IT READS IS OF BULK AT MOST 1048576: true; the input reads as it did. -/
def cutWholeUptoRow : OpenClaim := { program := "ytenbhnemlfhioaadoor", sum := "ee1eeb714c3bf6d2dc59be9521cde04a3b38171f1714c4aafc931e9e6e841479", func := "aerial/aeriallaw11.CutWhole", spec := "cutWhole", inPlace := ["internal/abi.NoEscape", "internal/bytealg.MakeNoZero"], unfollowed := true, recurses := true, named := ["aerial/label.sizes"], apart := false, laid := [("aerial/label.sizes", laid_aerial_label_sizes)], narrowed := true }
def CutWholeUptoSaid : Prop := cutWholeUptoRow.holds Tryd.pinned (OpenSpec.upto cutWholeSpec)

/-- 'aeriallaw11.CutAgain', WHERE WHAT IT READS IS OF BULK AT MOST 1048576: true; the input reads as it did. -/
def cutAgainUptoRow : OpenClaim := { program := "ytenbhnemlfhioaadoor", sum := "ee1eeb714c3bf6d2dc59be9521cde04a3b38171f1714c4aafc931e9e6e841479", func := "aerial/aeriallaw11.CutAgain", spec := "cutAgain", inPlace := ["internal/abi.NoEscape", "internal/bytealg.MakeNoZero"], unfollowed := true, recurses := true, named := ["aerial/label.sizes"], apart := false, laid := [("aerial/label.sizes", laid_aerial_label_sizes)], narrowed := true }
def CutAgainUptoSaid : Prop := cutAgainUptoRow.holds Tryd.pinned (OpenSpec.upto cutAgainSpec)

/-- 'aeriallaw11.CutKnown', WHERE WHAT IT READS IS OF BULK AT MOST 1048576: true; the input reads as it did. -/
def cutKnownUptoRow : OpenClaim := { program := "ytenbhnemlfhioaadoor", sum := "ee1eeb714c3bf6d2dc59be9521cde04a3b38171f1714c4aafc931e9e6e841479", func := "aerial/aeriallaw11.CutKnown", spec := "cutKnown", inPlace := ["internal/abi.NoEscape", "internal/bytealg.MakeNoZero"], unfollowed := true, recurses := true, named := ["aerial/label.sizes"], apart := false, laid := [("aerial/label.sizes", laid_aerial_label_sizes)], narrowed := true }
def CutKnownUptoSaid : Prop := cutKnownUptoRow.holds Tryd.pinned (OpenSpec.upto cutKnownSpec)

end Rows
end Go.Proofs.YtenbhnemlfhioaaDoor
