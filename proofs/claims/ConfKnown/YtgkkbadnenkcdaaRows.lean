/-
  No cell of these rows narrows 'for every input' (looked for: loops, veiled, ifaces, maps, wideKeys, modest, calm, conditions, laid).
  DERIVED. THE GIVEN ROWS OF THIS SEAT. 5 by the template 'for every input the law returns true; each argument reads behind the call as it read before'; 0 by the template 'total and deterministic' (their statements: YtgkkbadnenkcdaaTotals.lean).
  GIVEN WITH THE SEED: the statements are not yours to turn. If you find one false, say at which input.
  Laid BY PROGRAM, IN A SANDBOX (cutbox-rows.mjs): the forced cells as the released guide's own fill.sh prints them over the translation 6e552b28bfcf8894… (all of the seat's roots in one cut). By AI agents, Wed Nov 11 2026. No macro, syntax, notation, axiom, sorry.
-/
import Derived.Test.YtgkkbadnenkcdaaChecked
import GoSem.Claim
import GoSem.ClaimJoined
import GoSem.ClaimMapViews
import Derived.JoinedTies
import Derived.KernelRfl
namespace Go.Proofs.Ytgkkbadnenkcdaa
/- THE CELL 'sum', in the pinned program and in every row, IS THE sha256 OF THE DUMP (.gsa) THAT YtgkkbadnenkcdaaProg.lean LOADS. Nothing in Lean hashes anything: it is a label: what it is worth is what the hold of that sum in a sandbox is worth. -/
noncomputable def Try.pinned : Pinned := { name := "ytgkkbadnenkcdaa", sum := "6e552b28bfcf8894d3ca8cd90d30ad1950678c7c288714c856c24bf71fb9251b", checked := Try.checked }
namespace Rows
def none {H : Type} : Left H := { results := [], args := [] }

/-- 'aeriallaw06.ConfOf': WHATEVER THE INPUT: true; the input reads as it did. -/
def confOfSpec : ChangeSpec := { name := "confOf", fn := fun _ => fun
  | [d] => { results := [.lit (.bool true)], args := [d] }
  | _ => none }
def confOfRow : OpenClaim := { program := "ytgkkbadnenkcdaa", sum := "6e552b28bfcf8894d3ca8cd90d30ad1950678c7c288714c856c24bf71fb9251b", func := "aerial/aeriallaw06.ConfOf", spec := "confOf", unfollowed := true, recurses := true, plainKeys := false, apart := false }
def ConfOfSaid : Prop := confOfRow.holds Try.pinned (OpenSpec.ofChange confOfSpec)

/-- ITS FALSE NEIGHBOUR: 'it returns false'. Refute it at one input. -/
def confOfWrong : ChangeSpec := { name := "confOf", fn := fun _ => fun
  | [d] => { results := [.lit (.bool false)], args := [d] }
  | _ => none }
def ConfOfWrongFalsely : Prop := confOfRow.holds Try.pinned (OpenSpec.ofChange confOfWrong)

/-- 'aeriallaw06.ConfLess': WHATEVER THE INPUT: true; the input reads as it did. -/
def confLessSpec : ChangeSpec := { name := "confLess", fn := fun _ => fun
  | [d1, d2] => { results := [.lit (.bool true)], args := [d1, d2] }
  | _ => none }
def confLessRow : OpenClaim := { program := "ytgkkbadnenkcdaa", sum := "6e552b28bfcf8894d3ca8cd90d30ad1950678c7c288714c856c24bf71fb9251b", func := "aerial/aeriallaw06.ConfLess", spec := "confLess", unfollowed := true, recurses := true, plainKeys := false, apart := false }
def ConfLessSaid : Prop := confLessRow.holds Try.pinned (OpenSpec.ofChange confLessSpec)

/-- ITS FALSE NEIGHBOUR: 'it returns false'. Refute it at one input. -/
def confLessWrong : ChangeSpec := { name := "confLess", fn := fun _ => fun
  | [d1, d2] => { results := [.lit (.bool false)], args := [d1, d2] }
  | _ => none }
def ConfLessWrongFalsely : Prop := confLessRow.holds Try.pinned (OpenSpec.ofChange confLessWrong)

/-- 'aeriallaw06.ConfAge': WHATEVER THE INPUT: true; the input reads as it did. -/
def confAgeSpec : ChangeSpec := { name := "confAge", fn := fun _ => fun
  | [d] => { results := [.lit (.bool true)], args := [d] }
  | _ => none }
def confAgeRow : OpenClaim := { program := "ytgkkbadnenkcdaa", sum := "6e552b28bfcf8894d3ca8cd90d30ad1950678c7c288714c856c24bf71fb9251b", func := "aerial/aeriallaw06.ConfAge", spec := "confAge", unfollowed := true, recurses := true, plainKeys := false, apart := false }
def ConfAgeSaid : Prop := confAgeRow.holds Try.pinned (OpenSpec.ofChange confAgeSpec)

/-- ITS FALSE NEIGHBOUR: 'it returns false'. Refute it at one input. -/
def confAgeWrong : ChangeSpec := { name := "confAge", fn := fun _ => fun
  | [d] => { results := [.lit (.bool false)], args := [d] }
  | _ => none }
def ConfAgeWrongFalsely : Prop := confAgeRow.holds Try.pinned (OpenSpec.ofChange confAgeWrong)

/-- 'aeriallaw06.ConfLabels': WHATEVER THE INPUT: true; the input reads as it did. -/
def confLabelsSpec : ChangeSpec := { name := "confLabels", fn := fun _ => fun
  | [d1, d2, d3] => { results := [.lit (.bool true)], args := [d1, d2, d3] }
  | _ => none }
def confLabelsRow : OpenClaim := { program := "ytgkkbadnenkcdaa", sum := "6e552b28bfcf8894d3ca8cd90d30ad1950678c7c288714c856c24bf71fb9251b", func := "aerial/aeriallaw06.ConfLabels", spec := "confLabels", unfollowed := true, recurses := true, plainKeys := false, apart := false }
def ConfLabelsSaid : Prop := confLabelsRow.holds Try.pinned (OpenSpec.ofChange confLabelsSpec)

/-- ITS FALSE NEIGHBOUR: 'it returns false'. Refute it at one input. -/
def confLabelsWrong : ChangeSpec := { name := "confLabels", fn := fun _ => fun
  | [d1, d2, d3] => { results := [.lit (.bool false)], args := [d1, d2, d3] }
  | _ => none }
def ConfLabelsWrongFalsely : Prop := confLabelsRow.holds Try.pinned (OpenSpec.ofChange confLabelsWrong)

/-- 'aeriallaw06.ConfKnown': WHATEVER THE INPUT: true; the input reads as it did. -/
def confKnownSpec : ChangeSpec := { name := "confKnown", fn := fun _ => fun
  | [] => { results := [.lit (.bool true)], args := [] }
  | _ => none }
def confKnownRow : OpenClaim := { program := "ytgkkbadnenkcdaa", sum := "6e552b28bfcf8894d3ca8cd90d30ad1950678c7c288714c856c24bf71fb9251b", func := "aerial/aeriallaw06.ConfKnown", spec := "confKnown", unfollowed := true, recurses := true, plainKeys := false, apart := false }
def ConfKnownSaid : Prop := confKnownRow.holds Try.pinned (OpenSpec.ofChange confKnownSpec)

/-- ITS FALSE NEIGHBOUR: 'it returns false'. Refute it at one input. -/
def confKnownWrong : ChangeSpec := { name := "confKnown", fn := fun _ => fun
  | [] => { results := [.lit (.bool false)], args := [] }
  | _ => none }
def ConfKnownWrongFalsely : Prop := confKnownRow.holds Try.pinned (OpenSpec.ofChange confKnownWrong)

/- THE SECOND FORM. 'bulk': how many values and letters a reading holds, each counted each time it is reached (what is shared counts as often as it is met; a slice's spare places count too). A statement '..UptoSaid' is the law's where the arguments, and the package variables that the reading takes, are together of bulk at most 1048576: NARROWER than '..Said'. Prove '..Said' where nothing that the law and all that it calls make is longer than what came in: it says more and counts as full. Else prove '..UptoSaid'. A law counts once. -/
mutual
def uptoBulk {H : Type} : DataW H → Nat
  | .lit (.string bytes) => bytes.length + 1
  | .lit _ => 1
  | .nil => 1
  | .ptr d => uptoBulk d + 1
  | .slice elems spare => uptoBulkAll elems + uptoBulkAll spare + 1
  | .agg parts => uptoBulkAll parts + 1
  | .iface _ d => uptoBulk d + 1
  | .map entries => uptoBulkEntries entries + 1
  | .held _ => 1
def uptoBulkAll {H : Type} : List (DataW H) → Nat
  | [] => 0
  | d :: r => uptoBulk d + uptoBulkAll r
def uptoBulkEntries {H : Type} : List (Lit × DataW H) → Nat
  | [] => 0
  | x :: r => uptoBulkEntry x + uptoBulkEntries r
def uptoBulkEntry {H : Type} : Lit × DataW H → Nat
  | (.string bytes, d) => bytes.length + uptoBulk d + 1
  | (_, d) => uptoBulk d + 1
 end
def uptoSmall : (H : Type) → List (DataW H) → Bool := fun _ ds => decide (uptoBulkAll ds ≤ 1048576)
def OpenSpec.upto (s : _root_.Go.ChangeSpec) : _root_.Go.OpenSpec := { _root_.Go.OpenSpec.ofChange s with cond := some uptoSmall }

/-- 'aeriallaw06.ConfOf', WHERE WHAT IT READS IS OF BULK AT MOST 1048576: true; the input reads as it did. -/
def confOfUptoRow : OpenClaim := { program := "ytgkkbadnenkcdaa", sum := "6e552b28bfcf8894d3ca8cd90d30ad1950678c7c288714c856c24bf71fb9251b", func := "aerial/aeriallaw06.ConfOf", spec := "confOf", unfollowed := true, recurses := true, plainKeys := false, apart := false, narrowed := true }
def ConfOfUptoSaid : Prop := confOfUptoRow.holds Try.pinned (OpenSpec.upto confOfSpec)

/-- 'aeriallaw06.ConfLess', WHERE WHAT IT READS IS OF BULK AT MOST 1048576: true; the input reads as it did. -/
def confLessUptoRow : OpenClaim := { program := "ytgkkbadnenkcdaa", sum := "6e552b28bfcf8894d3ca8cd90d30ad1950678c7c288714c856c24bf71fb9251b", func := "aerial/aeriallaw06.ConfLess", spec := "confLess", unfollowed := true, recurses := true, plainKeys := false, apart := false, narrowed := true }
def ConfLessUptoSaid : Prop := confLessUptoRow.holds Try.pinned (OpenSpec.upto confLessSpec)

/-- 'aeriallaw06.ConfAge', WHERE WHAT IT READS IS OF BULK AT MOST 1048576: true; the input reads as it did. -/
def confAgeUptoRow : OpenClaim := { program := "ytgkkbadnenkcdaa", sum := "6e552b28bfcf8894d3ca8cd90d30ad1950678c7c288714c856c24bf71fb9251b", func := "aerial/aeriallaw06.ConfAge", spec := "confAge", unfollowed := true, recurses := true, plainKeys := false, apart := false, narrowed := true }
def ConfAgeUptoSaid : Prop := confAgeUptoRow.holds Try.pinned (OpenSpec.upto confAgeSpec)

/-- 'aeriallaw06.ConfLabels', WHERE WHAT IT READS IS OF BULK AT MOST 1048576: true; the input reads as it did. -/
def confLabelsUptoRow : OpenClaim := { program := "ytgkkbadnenkcdaa", sum := "6e552b28bfcf8894d3ca8cd90d30ad1950678c7c288714c856c24bf71fb9251b", func := "aerial/aeriallaw06.ConfLabels", spec := "confLabels", unfollowed := true, recurses := true, plainKeys := false, apart := false, narrowed := true }
def ConfLabelsUptoSaid : Prop := confLabelsUptoRow.holds Try.pinned (OpenSpec.upto confLabelsSpec)

/-- 'aeriallaw06.ConfKnown', WHERE WHAT IT READS IS OF BULK AT MOST 1048576: true; the input reads as it did. -/
def confKnownUptoRow : OpenClaim := { program := "ytgkkbadnenkcdaa", sum := "6e552b28bfcf8894d3ca8cd90d30ad1950678c7c288714c856c24bf71fb9251b", func := "aerial/aeriallaw06.ConfKnown", spec := "confKnown", unfollowed := true, recurses := true, plainKeys := false, apart := false, narrowed := true }
def ConfKnownUptoSaid : Prop := confKnownUptoRow.holds Try.pinned (OpenSpec.upto confKnownSpec)

end Rows
end Go.Proofs.Ytgkkbadnenkcdaa
