/-
  NARROWER THAN 'FOR EVERY INPUT', by the rows' own cells (each row's printed sentence says how): LabelTells: laid · LabelPlays: laid · LabelBack: laid · LabelKnown: laid · LabelRuns: laid.
  DERIVED. THE GIVEN ROWS OF THIS SEAT. 5 by the template 'for every input the law returns true; each argument reads behind the call as it read before'; 0 by the template 'total and deterministic' (their statements: YthipmgbaiifoiaaDoorTotals.lean).
  GIVEN WITH THE SEED: the statements are not yours to turn. If you find one false, say at which input.
  Laid BY PROGRAM, IN A SANDBOX (cutbox-rows.mjs): the forced cells as the released guide's own fill.sh prints them over the translation f2ecabd1cf7b02c7… (all of the seat's roots in one cut). By AI agents, Wed Nov 11 2026. No macro, syntax, notation, axiom, sorry.
-/
import Derived.Test.YthipmgbaiifoiaaDoorChecked
import GoSem.Claim
import GoSem.ClaimJoined
import GoSem.ClaimMapViews
import Derived.JoinedTies
import Derived.KernelRfl
namespace Go.Proofs.YthipmgbaiifoiaaDoor
/- THE CELL 'sum', in the pinned program and in every row, IS THE sha256 OF THE DUMP (.gsa) THAT YthipmgbaiifoiaaDoorProg.lean LOADS. Nothing in Lean hashes anything: it is a label: what it is worth is what the hold of that sum in a sandbox is worth. -/
noncomputable def Tryd.pinned : Pinned := { name := "ythipmgbaiifoiaadoor", sum := "f2ecabd1cf7b02c72eddc26226dd6b22621a6a50a91baf475333532a7462406f", checked := Tryd.checked }
namespace Rows
def none {H : Type} : Left H := { results := [], args := [] }

/- WHAT THE LISTED PACKAGE-LEVEL VARIABLES READ AS WHEN THE CALL BEGINS. Each datum BY PROGRAM (the guide's laid-datum.mjs) off the statement by which the dump's own 'gosem.cut.vars' lays the variable. In a bare row this is a premise. The card (YthipmgbaiifoiaaDoorCards.lean) ties it to the program's text. -/
def laid_aerial_label_sizes {H : Type} : DataW H := .agg [.lit (.int .i64 6), .lit (.int .i64 3), .lit (.int .i64 0), .lit (.int .i64 0)]

/-- 'aeriallaw07.LabelTells': WHATEVER THE INPUT: true; the input reads as it did. -/
def labelTellsSpec : ChangeSpec := { name := "labelTells", fn := fun _ => fun
  | [d1, d2] => { results := [.lit (.bool true)], args := [d1, d2] }
  | _ => none }
def labelTellsRow : OpenClaim := { program := "ythipmgbaiifoiaadoor", sum := "f2ecabd1cf7b02c72eddc26226dd6b22621a6a50a91baf475333532a7462406f", func := "aerial/aeriallaw07.LabelTells", spec := "labelTells", named := ["aerial/label.sizes"], apart := false, laid := [("aerial/label.sizes", laid_aerial_label_sizes)] }
def LabelTellsSaid : Prop := labelTellsRow.holds Tryd.pinned (OpenSpec.ofChange labelTellsSpec)

/-- ITS FALSE NEIGHBOUR: 'it returns false'. Refute it at one input. -/
def labelTellsWrong : ChangeSpec := { name := "labelTells", fn := fun _ => fun
  | [d1, d2] => { results := [.lit (.bool false)], args := [d1, d2] }
  | _ => none }
def LabelTellsWrongFalsely : Prop := labelTellsRow.holds Tryd.pinned (OpenSpec.ofChange labelTellsWrong)

/-- 'aeriallaw07.LabelPlays': WHATEVER THE INPUT: true; the input reads as it did. -/
def labelPlaysSpec : ChangeSpec := { name := "labelPlays", fn := fun _ => fun
  | [d] => { results := [.lit (.bool true)], args := [d] }
  | _ => none }
def labelPlaysRow : OpenClaim := { program := "ythipmgbaiifoiaadoor", sum := "f2ecabd1cf7b02c72eddc26226dd6b22621a6a50a91baf475333532a7462406f", func := "aerial/aeriallaw07.LabelPlays", spec := "labelPlays", named := ["aerial/label.sizes"], apart := false, laid := [("aerial/label.sizes", laid_aerial_label_sizes)] }
def LabelPlaysSaid : Prop := labelPlaysRow.holds Tryd.pinned (OpenSpec.ofChange labelPlaysSpec)

/-- ITS FALSE NEIGHBOUR: 'it returns false'. Refute it at one input. -/
def labelPlaysWrong : ChangeSpec := { name := "labelPlays", fn := fun _ => fun
  | [d] => { results := [.lit (.bool false)], args := [d] }
  | _ => none }
def LabelPlaysWrongFalsely : Prop := labelPlaysRow.holds Tryd.pinned (OpenSpec.ofChange labelPlaysWrong)

/-- 'aeriallaw07.LabelBack': WHATEVER THE INPUT: true; the input reads as it did. -/
def labelBackSpec : ChangeSpec := { name := "labelBack", fn := fun _ => fun
  | [d1, d2] => { results := [.lit (.bool true)], args := [d1, d2] }
  | _ => none }
def labelBackRow : OpenClaim := { program := "ythipmgbaiifoiaadoor", sum := "f2ecabd1cf7b02c72eddc26226dd6b22621a6a50a91baf475333532a7462406f", func := "aerial/aeriallaw07.LabelBack", spec := "labelBack", named := ["aerial/label.sizes"], apart := false, laid := [("aerial/label.sizes", laid_aerial_label_sizes)] }
def LabelBackSaid : Prop := labelBackRow.holds Tryd.pinned (OpenSpec.ofChange labelBackSpec)

/-- ITS FALSE NEIGHBOUR: 'it returns false'. Refute it at one input. -/
def labelBackWrong : ChangeSpec := { name := "labelBack", fn := fun _ => fun
  | [d1, d2] => { results := [.lit (.bool false)], args := [d1, d2] }
  | _ => none }
def LabelBackWrongFalsely : Prop := labelBackRow.holds Tryd.pinned (OpenSpec.ofChange labelBackWrong)

/-- 'aeriallaw07.LabelKnown': WHATEVER THE INPUT: true; the input reads as it did. -/
def labelKnownSpec : ChangeSpec := { name := "labelKnown", fn := fun _ => fun
  | [] => { results := [.lit (.bool true)], args := [] }
  | _ => none }
def labelKnownRow : OpenClaim := { program := "ythipmgbaiifoiaadoor", sum := "f2ecabd1cf7b02c72eddc26226dd6b22621a6a50a91baf475333532a7462406f", func := "aerial/aeriallaw07.LabelKnown", spec := "labelKnown", named := ["aerial/label.sizes"], apart := false, laid := [("aerial/label.sizes", laid_aerial_label_sizes)] }
def LabelKnownSaid : Prop := labelKnownRow.holds Tryd.pinned (OpenSpec.ofChange labelKnownSpec)

/-- ITS FALSE NEIGHBOUR: 'it returns false'. Refute it at one input. -/
def labelKnownWrong : ChangeSpec := { name := "labelKnown", fn := fun _ => fun
  | [] => { results := [.lit (.bool false)], args := [] }
  | _ => none }
def LabelKnownWrongFalsely : Prop := labelKnownRow.holds Tryd.pinned (OpenSpec.ofChange labelKnownWrong)

/-- 'aeriallaw07.LabelRuns': WHATEVER THE INPUT: true; the input reads as it did. -/
def labelRunsSpec : ChangeSpec := { name := "labelRuns", fn := fun _ => fun
  | [d] => { results := [.lit (.bool true)], args := [d] }
  | _ => none }
def labelRunsRow : OpenClaim := { program := "ythipmgbaiifoiaadoor", sum := "f2ecabd1cf7b02c72eddc26226dd6b22621a6a50a91baf475333532a7462406f", func := "aerial/aeriallaw07.LabelRuns", spec := "labelRuns", named := ["aerial/label.sizes"], apart := false, laid := [("aerial/label.sizes", laid_aerial_label_sizes)] }
def LabelRunsSaid : Prop := labelRunsRow.holds Tryd.pinned (OpenSpec.ofChange labelRunsSpec)

/-- ITS FALSE NEIGHBOUR: 'it returns false'. Refute it at one input. -/
def labelRunsWrong : ChangeSpec := { name := "labelRuns", fn := fun _ => fun
  | [d] => { results := [.lit (.bool false)], args := [d] }
  | _ => none }
def LabelRunsWrongFalsely : Prop := labelRunsRow.holds Tryd.pinned (OpenSpec.ofChange labelRunsWrong)

/- THE SECOND FORM. 'bulk': how many values and letters a reading holds, each counted each time it is reached (what is shared counts as often as it is met; a slice's spare places count too). A statement '..UptoSaid' is the law's where the arguments, and the package variables that the reading takes, are together of bulk at most 1048576: NARROWER than '..Said'. Prove '..Said' where nothing that the law and all that it calls make is longer than what came in: it says more and counts as full. Else prove '..UptoSaid'. A law counts once. -/
mutual
def uptoBulk {H : Type} : DataW H → Nat
  | .lit (.string bytes) => bytes.length + 1
  | .lit _ => 1
  | .nil => 1
  | .ptr d => uptoBulk d + 1
  | .slice elems spare => uptoBulkAll elems + uptoBulkAll spare + 1
  | .agg parts => uptoBulkAll parts + 1
  | .iface _ d => uptoBulk d + 1
  | .map entries => uptoBulkEntries entries + 1
  | .held _ => 1
def uptoBulkAll {H : Type} : List (DataW H) → Nat
  | [] => 0
  | d :: r => uptoBulk d + uptoBulkAll r
def uptoBulkEntries {H : Type} : List (Lit × DataW H) → Nat
  | [] => 0
  | x :: r => uptoBulkEntry x + uptoBulkEntries r
def uptoBulkEntry {H : Type} : Lit × DataW H → Nat
  | (.string bytes, d) => bytes.length + uptoBulk d + 1
  | (_, d) => uptoBulk d + 1
 end
def uptoSmall : (H : Type) → List (DataW H) → Bool := fun _ ds => decide (uptoBulkAll ds ≤ 1048576)
def OpenSpec.upto (s : _root_.Go.ChangeSpec) : _root_.Go.OpenSpec := { _root_.Go.OpenSpec.ofChange s with cond := some uptoSmall }

/-- 'aeriallaw07.LabelTells', WHERE WHAT IT READS IS OF BULK AT MOST 1048576: true; the input reads as it did. -/
def labelTellsUptoRow : OpenClaim := { program := "ythipmgbaiifoiaadoor", sum := "f2ecabd1cf7b02c72eddc26226dd6b22621a6a50a91baf475333532a7462406f", func := "aerial/aeriallaw07.LabelTells", spec := "labelTells", named := ["aerial/label.sizes"], apart := false, laid := [("aerial/label.sizes", laid_aerial_label_sizes)], narrowed := true }
def LabelTellsUptoSaid : Prop := labelTellsUptoRow.holds Tryd.pinned (OpenSpec.upto labelTellsSpec)

/-- 'aeriallaw07.LabelPlays', WHERE WHAT IT READS IS OF BULK AT MOST 1048576: true; the input reads as it did. -/
def labelPlaysUptoRow : OpenClaim := { program := "ythipmgbaiifoiaadoor", sum := "f2ecabd1cf7b02c72eddc26226dd6b22621a6a50a91baf475333532a7462406f", func := "aerial/aeriallaw07.LabelPlays", spec := "labelPlays", named := ["aerial/label.sizes"], apart := false, laid := [("aerial/label.sizes", laid_aerial_label_sizes)], narrowed := true }
def LabelPlaysUptoSaid : Prop := labelPlaysUptoRow.holds Tryd.pinned (OpenSpec.upto labelPlaysSpec)

/-- 'aeriallaw07.LabelBack', WHERE WHAT IT READS IS OF BULK AT MOST 1048576: true; the input reads as it did. -/
def labelBackUptoRow : OpenClaim := { program := "ythipmgbaiifoiaadoor", sum := "f2ecabd1cf7b02c72eddc26226dd6b22621a6a50a91baf475333532a7462406f", func := "aerial/aeriallaw07.LabelBack", spec := "labelBack", named := ["aerial/label.sizes"], apart := false, laid := [("aerial/label.sizes", laid_aerial_label_sizes)], narrowed := true }
def LabelBackUptoSaid : Prop := labelBackUptoRow.holds Tryd.pinned (OpenSpec.upto labelBackSpec)

/-- 'aeriallaw07.LabelKnown', WHERE WHAT IT READS IS OF BULK AT MOST 1048576: true; the input reads as it did. -/
def labelKnownUptoRow : OpenClaim := { program := "ythipmgbaiifoiaadoor", sum := "f2ecabd1cf7b02c72eddc26226dd6b22621a6a50a91baf475333532a7462406f", func := "aerial/aeriallaw07.LabelKnown", spec := "labelKnown", named := ["aerial/label.sizes"], apart := false, laid := [("aerial/label.sizes", laid_aerial_label_sizes)], narrowed := true }
def LabelKnownUptoSaid : Prop := labelKnownUptoRow.holds Tryd.pinned (OpenSpec.upto labelKnownSpec)

/-- 'aeriallaw07.LabelRuns', WHERE WHAT IT READS IS OF BULK AT MOST 1048576: true; the input reads as it did. -/
def labelRunsUptoRow : OpenClaim := { program := "ythipmgbaiifoiaadoor", sum := "f2ecabd1cf7b02c72eddc26226dd6b22621a6a50a91baf475333532a7462406f", func := "aerial/aeriallaw07.LabelRuns", spec := "labelRuns", named := ["aerial/label.sizes"], apart := false, laid := [("aerial/label.sizes", laid_aerial_label_sizes)], narrowed := true }
def LabelRunsUptoSaid : Prop := labelRunsUptoRow.holds Tryd.pinned (OpenSpec.upto labelRunsSpec)

end Rows
end Go.Proofs.YthipmgbaiifoiaaDoor
