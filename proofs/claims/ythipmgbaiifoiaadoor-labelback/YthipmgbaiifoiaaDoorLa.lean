/- Labels and a memory of one, as plain data; the table of sizes in memory. -/
import Derived.Test.YthipmgbaiifoiaaDoorProg
import Derived.Test.YthipmgbaiifoiaaDoorBase
import Derived.Test.YthipmgbaiifoiaaDoorQw
import Derived.Laws.ResultCell
namespace Go.Proofs.YthipmgbaiifoiaaDoor
open Go.RowKit Go.PlainAid Go.Shelf

structure Lb where
  kind : Int
  bytes : ByteArray
  deriving DecidableEq
abbrev Lb.v (l : Lb) : Value := .agg #[.int .i64 l.kind, .string l.bytes]

/-- How many bytes a label of a kind has. -/
def szI (k : Int) : Int := if k = 0 then 6 else if k = 1 then 3 else 0
def kindI (k : Int) : Bool := decide (0 ≤ k) && decide (k < 4)
/-- May a label be? -/
def okL (l : Lb) : Bool := kindI l.kind && decide ((l.bytes.size : Int) = szI l.kind)
/-- Does it name a terminal? -/
def nmL (l : Lb) : Bool := okL l && decide (0 < szI l.kind)
def noL : Lb := ⟨0, ⟨#[]⟩⟩
def allL : Lb := ⟨2, ⟨#[]⟩⟩
def sameL : Lb := ⟨3, ⟨#[]⟩⟩
def errL (l : Lb) : Int := if okL l then 0 else 2

/-- The table of sizes, as it was laid. -/
structure Sz (w : World) : Prop where
  c0 : w.cell? ⟨0, 0, none⟩ = some (.int .i64 6)
  c1 : w.cell? ⟨0, 1, none⟩ = some (.int .i64 3)
  c2 : w.cell? ⟨0, 2, none⟩ = some (.int .i64 0)
  c3 : w.cell? ⟨0, 3, none⟩ = some (.int .i64 0)
theorem Sz.keep {S : Nat → Prop} {w w' : World} (h : Sz w) (f : Fr S w w') (h0 : ¬ S 0) : Sz w' :=
  ⟨f.cell h.c0 h0, f.cell h.c1 h0, f.cell h.c2 h0, f.cell h.c3 h0⟩
theorem Sz.pos {w : World} (h : Sz w) : 0 < w.heap.size := World.block_lt_of_cell? w _ h.c0

/-- A memory, or any variable of a label's shape, at block g. -/
structure At (w : World) (g : Nat) (l : Lb) : Prop where
  c0 : w.cell? ⟨g, 0, none⟩ = some (.int .i64 l.kind)
  c1 : w.cell? ⟨g, 1, none⟩ = some (.string l.bytes)
  f0 : w.frozen? ⟨g, 0, none⟩ = false
  f1 : w.frozen? ⟨g, 1, none⟩ = false
theorem At.keep {S : Nat → Prop} {w w' : World} {g : Nat} {l : Lb} (h : At w g l) (f : Fr S w w') (h0 : ¬ S g) : At w' g l :=
  ⟨f.cell h.c0 h0, f.cell h.c1 h0, (f.frozen h.c0 h0).trans h.f0, (f.frozen h.c1 h0).trans h.f1⟩
theorem At.lt {w : World} {g : Nat} {l : Lb} (h : At w g l) : g < w.heap.size := World.block_lt_of_cell? w _ h.c0

theorem at_alloc (w : World) (k : Int) (s : ByteArray) (t : TypeId) : At (w.alloc (.cells #[.int .i64 k, .string s] t)) w.heap.size ⟨k, s⟩ :=
  ⟨by simp [go_sem], by simp [go_sem], by simp [go_sem], by simp [go_sem]⟩
theorem At.store {w : World} {g : Nat} {m : Lb} (h : At w g m) (k : Int) (s : ByteArray) : At ((w.setCell ⟨g, 0, none⟩ (.int .i64 k)).setCell ⟨g, 1, none⟩ (.string s)) g ⟨k, s⟩ := by
  refine ⟨?_, ?_, ?_, ?_⟩
  · rw [cell_set_ne _ _ _ _ (by simp), cell_set_eq _ _ _ _ h.c0]
  · rw [cell_set_eq _ _ (.string m.bytes) _ (by rw [cell_set_ne _ _ _ _ (by simp)]; exact h.c1)]
  · rw [World.frozen?_setCell, World.frozen?_setCell]; exact h.f0
  · rw [World.frozen?_setCell, World.frozen?_setCell]; exact h.f1
theorem Fr.store {S : Nat → Prop} {a w : World} (h : Fr S a w) {g : Nat} (hp : S g ∨ a.heap.size ≤ g) (x y : Value) : Fr S a ((w.setCell ⟨g, 0, none⟩ x).setCell ⟨g, 1, none⟩ y) :=
  (h.setCell (p := ⟨g, 0, none⟩) hp x).setCell (p := ⟨g, 1, none⟩) hp y
theorem At.aside {w : World} {g h : Nat} {m : Lb} (a : At w g m) (hn : ¬ g = h) (x y : Value) : At ((w.setCell ⟨h, 0, none⟩ x).setCell ⟨h, 1, none⟩ y) g m :=
  a.keep (S := fun k => k = h) (Fr.store (S := fun k => k = h) (Fr.refl _ w) (.inl rfl) x y) hn
theorem At.drewN {w : World} {g : Nat} {m : Lb} (h : At w g m) (n : Nat) : At (w.drewN n) g m := ⟨h.c0, h.c1, h.f0, h.f1⟩
theorem Sz.drewN {w : World} (h : Sz w) (n : Nat) : Sz (w.drewN n) := ⟨h.c0, h.c1, h.c2, h.c3⟩

/-- What Next makes of a memory and a label: the memory, and how it is laid. -/
def nextM (m l : Lb) : Lb := if nmL l then l else m
def nextR (m l : Lb) : Lb := if nmL l && decide (m = l) then sameL else l
def readM (m l : Lb) : Lb := if nmL l then l else m
def readR (m l : Lb) : Lb := if okL l then (if l.kind = 3 then (if nmL m then m else noL) else l) else noL
def readE (m l : Lb) : Int := if okL l then (if l.kind = 3 then (if nmL m then 0 else 17) else 0) else 2

/-! ### A result that stands in a variable of a label's shape -/
theorem results_cell1 {fn : Func} {p : Tmp} {ty : TypeId} (h : fn.results = #[.cell p ty]) (tmps : Array Value) (P : Program) (w : World) :
    (results fn tmps).run P w = ((asAddr (tmps.getD p undef)).run P w).andThen fun a w₁ => (loadVar ty a).run P w₁ := by
  simp only [results, h]
  simp [Sem.run_bind, Result.andThen]
theorem load23 {w : World} {g : Nat} {l : Lb} (c0 : w.cell? ⟨g, 0, none⟩ = some (.int .i64 l.kind)) (c1 : w.cell? ⟨g, 1, none⟩ = some (.string l.bytes)) : (loadVar 23 ⟨g, 0, none⟩).run Tryd.prog w = .ok l.v w := by
  simp [loadVar, go_sem, c0, c1]
theorem ret_lab {fn : Func} {p : Tmp} (h : fn.results = #[.cell p 23]) {tmps : Array Value} {w : World} {g : Nat} {l : Lb} (ha : tmps.getD p undef = .pointer (some ⟨g, 0, none⟩)) (c0 : w.cell? ⟨g, 0, none⟩ = some (.int .i64 l.kind)) (c1 : w.cell? ⟨g, 1, none⟩ = some (.string l.bytes)) :
    (results fn tmps).run Tryd.prog w = .ok l.v w := by
  rw [results_cell1 h, ha]
  simp [asAddr, Result.andThen, loadVar, go_sem, c0, c1]
theorem ret_lab2 {fn : Func} {p u : Tmp} (h : fn.results = #[.cell p 23, .tmp u]) {tmps : Array Value} {w : World} {g : Nat} {l : Lb} {v : Value} (ha : tmps.getD p undef = .pointer (some ⟨g, 0, none⟩)) (hv : tmps.getD u undef = v) (c0 : w.cell? ⟨g, 0, none⟩ = some (.int .i64 l.kind)) (c1 : w.cell? ⟨g, 1, none⟩ = some (.string l.bytes)) :
    (results fn tmps).run Tryd.prog w = .ok (.tuple #[l.v, v]) w := by
  rw [results_cell_tmp h, ha, hv]
  simp [asAddr, Result.andThen, loadVar, go_sem, c0, c1]
end Go.Proofs.YthipmgbaiifoiaaDoor
