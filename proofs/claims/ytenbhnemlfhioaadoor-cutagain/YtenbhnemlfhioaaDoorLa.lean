/- Labels as plain data; the table of their sizes, as it was laid. -/
import Derived.Test.YtenbhnemlfhioaaDoorProg
import Derived.Test.YtenbhnemlfhioaaDoorNu
import Derived.Test.YtenbhnemlfhioaaDoorQw
import Derived.Laws.ResultCell
namespace Go.Proofs.YtenbhnemlfhioaaDoor
open Go.RowKit Go.PlainAid Go.Shelf

/-! ### Labels -/
structure Lb where
  kind : Int
  bytes : ByteArray
abbrev Lb.v (l : Lb) : Value := .agg #[.int .i64 l.kind, .string l.bytes]
/-- How many bytes a label of a kind has. -/
def szI (k : Int) : Int := if k = 0 then 6 else if k = 1 then 3 else 0
def kindI (k : Int) : Bool := decide (0 ≤ k) && decide (k < 4)
/-- May a label be? -/
def okL (l : Lb) : Bool := kindI l.kind && decide ((l.bytes.size : Int) = szI l.kind)
def errL (l : Lb) : Int := if okL l then 0 else 2

/-- The table of sizes, as it was laid. -/
structure Sz (w : World) : Prop where
  c0 : w.cell? ⟨0, 0, none⟩ = some (.int .i64 6)
  c1 : w.cell? ⟨0, 1, none⟩ = some (.int .i64 3)
  c2 : w.cell? ⟨0, 2, none⟩ = some (.int .i64 0)
  c3 : w.cell? ⟨0, 3, none⟩ = some (.int .i64 0)
theorem Sz.keep {S : Nat → Prop} {w w' : World} (h : Sz w) (f : Fr S w w') (h0 : ¬ S 0) : Sz w' :=
  ⟨f.cell h.c0 h0, f.cell h.c1 h0, f.cell h.c2 h0, f.cell h.c3 h0⟩
theorem Sz.pos {w : World} (h : Sz w) : 0 < w.heap.size := World.block_lt_of_cell? w _ h.c0
theorem Sz.drewN {w : World} (h : Sz w) (n : Nat) : Sz (w.drewN n) := ⟨h.c0, h.c1, h.c2, h.c3⟩

end Go.Proofs.YtenbhnemlfhioaaDoor
