/-
  NARROWER THAN 'FOR EVERY INPUT', by the rows' own cells (each row's printed sentence says how): GseLays: laid · GseReads: laid · GseBack: laid · GseAgain: laid · GseKnown: laid.
  DERIVED. THE GIVEN ROWS OF THIS SEAT. 5 by the template 'for every input the law returns true; each argument reads behind the call as it read before'; 0 by the template 'total and deterministic' (their statements: YtecogmgbblikcaaDoorTotals.lean).
  GIVEN WITH THE SEED: the statements are not yours to turn. If you find one false, say at which input.
  Laid BY PROGRAM, IN A SANDBOX (cutbox-rows.mjs): the forced cells as the released guide's own fill.sh prints them over the translation 3744dfae649792f4… (all of the seat's roots in one cut). By AI agents, Wed Nov 11 2026. No macro, syntax, notation, axiom, sorry.
-/
import Derived.Test.YtecogmgbblikcaaDoorChecked
import GoSem.Claim
import GoSem.ClaimJoined
import GoSem.ClaimMapViews
import Derived.JoinedTies
import Derived.KernelRfl
namespace Go.Proofs.YtecogmgbblikcaaDoor
/- THE CELL 'sum', in the pinned program and in every row, IS THE sha256 OF THE DUMP (.gsa) THAT YtecogmgbblikcaaDoorProg.lean LOADS. Nothing in Lean hashes anything: it is a label: what it is worth is what the hold of that sum in a sandbox is worth. -/
noncomputable def Tryd.pinned : Pinned := { name := "ytecogmgbblikcaadoor", sum := "3744dfae649792f4a3274d277890f88b69fac2faedc0cf8373b2dca15d8a497b", checked := Tryd.checked }
namespace Rows
def none {H : Type} : Left H := { results := [], args := [] }

/- WHAT THE LISTED PACKAGE-LEVEL VARIABLES READ AS WHEN THE CALL BEGINS. Each datum BY PROGRAM (the guide's laid-datum.mjs) off the statement by which the dump's own 'gosem.cut.vars' lays the variable. In a bare row this is a premise. The card (YtecogmgbblikcaaDoorCards.lean) ties it to the program's text. -/
def laid_aerial_label_sizes {H : Type} : DataW H := .agg [.lit (.int .i64 6), .lit (.int .i64 3), .lit (.int .i64 0), .lit (.int .i64 0)]

/-- 'aeriallaw08.GseLays': WHATEVER THE INPUT: true; the input reads as it did. -/
def gseLaysSpec : ChangeSpec := { name := "gseLays", fn := fun _ => fun
  | [d1, d2] => { results := [.lit (.bool true)], args := [d1, d2] }
  | _ => none }
def gseLaysRow : OpenClaim := { program := "ytecogmgbblikcaadoor", sum := "3744dfae649792f4a3274d277890f88b69fac2faedc0cf8373b2dca15d8a497b", func := "aerial/aeriallaw08.GseLays", spec := "gseLays", inPlace := ["internal/abi.NoEscape", "internal/bytealg.MakeNoZero"], unfollowed := true, recurses := true, named := ["aerial/label.sizes"], apart := false, laid := [("aerial/label.sizes", laid_aerial_label_sizes)] }
def GseLaysSaid : Prop := gseLaysRow.holds Tryd.pinned (OpenSpec.ofChange gseLaysSpec)

/-- ITS FALSE NEIGHBOUR: 'it returns false'. Refute it at one input. -/
def gseLaysWrong : ChangeSpec := { name := "gseLays", fn := fun _ => fun
  | [d1, d2] => { results := [.lit (.bool false)], args := [d1, d2] }
  | _ => none }
def GseLaysWrongFalsely : Prop := gseLaysRow.holds Tryd.pinned (OpenSpec.ofChange gseLaysWrong)

/-- 'aeriallaw08.GseReads': WHATEVER THE INPUT: true; the input reads as it did. -/
def gseReadsSpec : ChangeSpec := { name := "gseReads", fn := fun _ => fun
  | [d] => { results := [.lit (.bool true)], args := [d] }
  | _ => none }
def gseReadsRow : OpenClaim := { program := "ytecogmgbblikcaadoor", sum := "3744dfae649792f4a3274d277890f88b69fac2faedc0cf8373b2dca15d8a497b", func := "aerial/aeriallaw08.GseReads", spec := "gseReads", inPlace := ["internal/abi.NoEscape", "internal/bytealg.MakeNoZero"], unfollowed := true, recurses := true, named := ["aerial/label.sizes"], apart := false, laid := [("aerial/label.sizes", laid_aerial_label_sizes)] }
def GseReadsSaid : Prop := gseReadsRow.holds Tryd.pinned (OpenSpec.ofChange gseReadsSpec)

/-- ITS FALSE NEIGHBOUR: 'it returns false'. Refute it at one input. -/
def gseReadsWrong : ChangeSpec := { name := "gseReads", fn := fun _ => fun
  | [d] => { results := [.lit (.bool false)], args := [d] }
  | _ => none }
def GseReadsWrongFalsely : Prop := gseReadsRow.holds Tryd.pinned (OpenSpec.ofChange gseReadsWrong)

/-- 'aeriallaw08.GseBack': WHATEVER THE INPUT: true; the input reads as it did. -/
def gseBackSpec : ChangeSpec := { name := "gseBack", fn := fun _ => fun
  | [d1, d2] => { results := [.lit (.bool true)], args := [d1, d2] }
  | _ => none }
def gseBackRow : OpenClaim := { program := "ytecogmgbblikcaadoor", sum := "3744dfae649792f4a3274d277890f88b69fac2faedc0cf8373b2dca15d8a497b", func := "aerial/aeriallaw08.GseBack", spec := "gseBack", inPlace := ["internal/abi.NoEscape", "internal/bytealg.MakeNoZero"], unfollowed := true, recurses := true, named := ["aerial/label.sizes"], apart := false, laid := [("aerial/label.sizes", laid_aerial_label_sizes)] }
def GseBackSaid : Prop := gseBackRow.holds Tryd.pinned (OpenSpec.ofChange gseBackSpec)

/-- ITS FALSE NEIGHBOUR: 'it returns false'. Refute it at one input. -/
def gseBackWrong : ChangeSpec := { name := "gseBack", fn := fun _ => fun
  | [d1, d2] => { results := [.lit (.bool false)], args := [d1, d2] }
  | _ => none }
def GseBackWrongFalsely : Prop := gseBackRow.holds Tryd.pinned (OpenSpec.ofChange gseBackWrong)

/-- 'aeriallaw08.GseAgain': WHATEVER THE INPUT: true; the input reads as it did. -/
def gseAgainSpec : ChangeSpec := { name := "gseAgain", fn := fun _ => fun
  | [d1, d2] => { results := [.lit (.bool true)], args := [d1, d2] }
  | _ => none }
def gseAgainRow : OpenClaim := { program := "ytecogmgbblikcaadoor", sum := "3744dfae649792f4a3274d277890f88b69fac2faedc0cf8373b2dca15d8a497b", func := "aerial/aeriallaw08.GseAgain", spec := "gseAgain", inPlace := ["internal/abi.NoEscape", "internal/bytealg.MakeNoZero"], unfollowed := true, recurses := true, named := ["aerial/label.sizes"], apart := false, laid := [("aerial/label.sizes", laid_aerial_label_sizes)] }
def GseAgainSaid : Prop := gseAgainRow.holds Tryd.pinned (OpenSpec.ofChange gseAgainSpec)

/-- ITS FALSE NEIGHBOUR: 'it returns false'. Refute it at one input. -/
def gseAgainWrong : ChangeSpec := { name := "gseAgain", fn := fun _ => fun
  | [d1, d2] => { results := [.lit (.bool false)], args := [d1, d2] }
  | _ => none }
def GseAgainWrongFalsely : Prop := gseAgainRow.holds Tryd.pinned (OpenSpec.ofChange gseAgainWrong)

/-- 'aeriallaw08.GseKnown': WHATEVER THE INPUT: true; the input reads as it did. -/
def gseKnownSpec : ChangeSpec := { name := "gseKnown", fn := fun _ => fun
  | [] => { results := [.lit (.bool true)], args := [] }
  | _ => none }
def gseKnownRow : OpenClaim := { program := "ytecogmgbblikcaadoor", sum := "3744dfae649792f4a3274d277890f88b69fac2faedc0cf8373b2dca15d8a497b", func := "aerial/aeriallaw08.GseKnown", spec := "gseKnown", inPlace := ["internal/abi.NoEscape", "internal/bytealg.MakeNoZero"], unfollowed := true, recurses := true, named := ["aerial/label.sizes"], apart := false, laid := [("aerial/label.sizes", laid_aerial_label_sizes)] }
def GseKnownSaid : Prop := gseKnownRow.holds Tryd.pinned (OpenSpec.ofChange gseKnownSpec)

/-- ITS FALSE NEIGHBOUR: 'it returns false'. Refute it at one input. -/
def gseKnownWrong : ChangeSpec := { name := "gseKnown", fn := fun _ => fun
  | [] => { results := [.lit (.bool false)], args := [] }
  | _ => none }
def GseKnownWrongFalsely : Prop := gseKnownRow.holds Tryd.pinned (OpenSpec.ofChange gseKnownWrong)

/- THE SECOND FORM. 'bulk': how many values and letters a reading holds, each counted each time it is reached (what is shared counts as often as it is met; a slice's spare places count too). A statement '..UptoSaid' is the law's where the arguments, and the package variables that the reading takes, are together of bulk at most 1048576: NARROWER than '..Said'. Prove '..Said' where nothing that the law and all that it calls make is longer than what came in: it says more and counts as full. Else prove '..UptoSaid'. A law counts once. -/
mutual
def uptoBulk {H : Type} : DataW H → Nat
  | .lit (.string bytes) => bytes.length + 1
  | .lit _ => 1
  | .nil => 1
  | .ptr d => uptoBulk d + 1
  | .slice elems spare => uptoBulkAll elems + uptoBulkAll spare + 1
  | .agg parts => uptoBulkAll parts + 1
  | .iface _ d => uptoBulk d + 1
  | .map entries => uptoBulkEntries entries + 1
  | .held _ => 1
def uptoBulkAll {H : Type} : List (DataW H) → Nat
  | [] => 0
  | d :: r => uptoBulk d + uptoBulkAll r
def uptoBulkEntries {H : Type} : List (Lit × DataW H) → Nat
  | [] => 0
  | x :: r => uptoBulkEntry x + uptoBulkEntries r
def uptoBulkEntry {H : Type} : Lit × DataW H → Nat
  | (.string bytes, d) => bytes.length + uptoBulk d + 1
  | (_, d) => uptoBulk d + 1
 end
def uptoSmall : (H : Type) → List (DataW H) → Bool := fun _ ds => decide (uptoBulkAll ds ≤ 1048576)
def OpenSpec.upto (s : _root_.Go.ChangeSpec) : _root_.Go.OpenSpec := { _root_.Go.OpenSpec.ofChange s with cond := some uptoSmall }

/-- 'aeriallaw08.GseLays', WHERE WHAT IT READS IS OF BULK AT MOST 1048576: true; the input reads as it did. -/
def gseLaysUptoRow : OpenClaim := { program := "ytecogmgbblikcaadoor", sum := "3744dfae649792f4a3274d277890f88b69fac2faedc0cf8373b2dca15d8a497b", func := "aerial/aeriallaw08.GseLays", spec := "gseLays", inPlace := ["internal/abi.NoEscape", "internal/bytealg.MakeNoZero"], unfollowed := true, recurses := true, named := ["aerial/label.sizes"], apart := false, laid := [("aerial/label.sizes", laid_aerial_label_sizes)], narrowed := true }
def GseLaysUptoSaid : Prop := gseLaysUptoRow.holds Tryd.pinned (OpenSpec.upto gseLaysSpec)

/-- 'aeriallaw08.GseReads', WHERE WHAT IT READS IS OF BULK AT MOST 1048576: true; the input reads as it did. -/
def gseReadsUptoRow : OpenClaim := { program := "ytecogmgbblikcaadoor", sum := "3744dfae649792f4a3274d277890f88b69fac2faedc0cf8373b2dca15d8a497b", func := "aerial/aeriallaw08.GseReads", spec := "gseReads", inPlace := ["internal/abi.NoEscape", "internal/bytealg.MakeNoZero"], unfollowed := true, recurses := true, named := ["aerial/label.sizes"], apart := false, laid := [("aerial/label.sizes", laid_aerial_label_sizes)], narrowed := true }
def GseReadsUptoSaid : Prop := gseReadsUptoRow.holds Tryd.pinned (OpenSpec.upto gseReadsSpec)

/-- 'aeriallaw08.GseBack', WHERE WHAT IT READS IS OF BULK AT MOST 1048576: true; the input reads as it did. -/
def gseBackUptoRow : OpenClaim := { program := "ytecogmgbblikcaadoor", sum := "3744dfae649792f4a3274d277890f88b69fac2faedc0cf8373b2dca15d8a497b", func := "aerial/aeriallaw08.GseBack", spec := "gseBack", inPlace := ["internal/abi.NoEscape", "internal/bytealg.MakeNoZero"], unfollowed := true, recurses := true, named := ["aerial/label.sizes"], apart := false, laid := [("aerial/label.sizes", laid_aerial_label_sizes)], narrowed := true }
def GseBackUptoSaid : Prop := gseBackUptoRow.holds Tryd.pinned (OpenSpec.upto gseBackSpec)

/-- 'aeriallaw08.GseAgain', WHERE WHAT IT READS IS OF BULK AT MOST 1048576: true; the input reads as it did. -/
def gseAgainUptoRow : OpenClaim := { program := "ytecogmgbblikcaadoor", sum := "3744dfae649792f4a3274d277890f88b69fac2faedc0cf8373b2dca15d8a497b", func := "aerial/aeriallaw08.GseAgain", spec := "gseAgain", inPlace := ["internal/abi.NoEscape", "internal/bytealg.MakeNoZero"], unfollowed := true, recurses := true, named := ["aerial/label.sizes"], apart := false, laid := [("aerial/label.sizes", laid_aerial_label_sizes)], narrowed := true }
def GseAgainUptoSaid : Prop := gseAgainUptoRow.holds Tryd.pinned (OpenSpec.upto gseAgainSpec)

/-- 'aeriallaw08.GseKnown', WHERE WHAT IT READS IS OF BULK AT MOST 1048576: true; the input reads as it did. -/
def gseKnownUptoRow : OpenClaim := { program := "ytecogmgbblikcaadoor", sum := "3744dfae649792f4a3274d277890f88b69fac2faedc0cf8373b2dca15d8a497b", func := "aerial/aeriallaw08.GseKnown", spec := "gseKnown", inPlace := ["internal/abi.NoEscape", "internal/bytealg.MakeNoZero"], unfollowed := true, recurses := true, named := ["aerial/label.sizes"], apart := false, laid := [("aerial/label.sizes", laid_aerial_label_sizes)], narrowed := true }
def GseKnownUptoSaid : Prop := gseKnownUptoRow.holds Tryd.pinned (OpenSpec.upto gseKnownSpec)

end Rows
end Go.Proofs.YtecogmgbblikcaaDoor
