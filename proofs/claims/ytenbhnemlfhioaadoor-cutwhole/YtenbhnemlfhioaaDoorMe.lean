/- Pieces that are cut one behind the other: what holds between rounds. -/
import Derived.Test.YtenbhnemlfhioaaDoorMc
import Derived.Test.YtenbhnemlfhioaaDoorGg
import Derived.Test.YtenbhnemlfhioaaDoorPe
import Derived.Test.YtenbhnemlfhioaaDoorAr
import Derived.Deep.CutRange
import Derived.Deep.DeepCutAuto
import Derived.Deep.LoopGhost
namespace Go.Proofs.YtenbhnemlfhioaaDoor
open Go.RowKit Go.PlainAid Go.Shelf

/-- A label lies at block g. -/
structure LAt (w : World) (g : Nat) (l : Lb) : Prop where
  c0 : w.cell? ⟨g, 0, none⟩ = some (.int .i64 l.kind)
  c1 : w.cell? ⟨g, 1, none⟩ = some (.string l.bytes)
  z0 : w.frozen? ⟨g, 0, none⟩ = false
  z1 : w.frozen? ⟨g, 1, none⟩ = false
theorem LAt.lt {w : World} {g : Nat} {l : Lb} (h : LAt w g l) : g < w.heap.size := World.block_lt_of_cell? w _ h.c0
theorem LAt.keep {S : Nat → Prop} {w w' : World} {g : Nat} {l : Lb} (h : LAt w g l) (f : Fr S w w') (h0 : ¬ S g) : LAt w' g l :=
  ⟨f.cell h.c0 h0, f.cell h.c1 h0, (f.frozen h.c0 h0).trans h.z0, (f.frozen h.c1 h0).trans h.z1⟩
theorem lat_alloc (w : World) (l : Lb) (t : TypeId) : LAt (w.alloc (.cells #[.int .i64 l.kind, .string l.bytes] t)) w.heap.size l := by
  constructor <;> simp [go_sem]
def lab3 (i : Nat) : Lb := if i = 0 then ⟨0, ⟨#[97, 98, 99, 100, 101, 102]⟩⟩ else if i = 1 then ⟨1, ⟨#[120, 121, 122]⟩⟩ else ⟨2, ⟨#[]⟩⟩
theorem lab3_ok (i : Nat) : okL (lab3 i) = true := by
  unfold lab3
  split
  · kernel_rfl
  · split <;> kernel_rfl
theorem ne_bytes {a b : ByteArray} (h : ¬ a = b) : (a.toList == b.toList) = false := by
  rw [← beq_toListBytes]
  obtain ⟨x⟩ := a
  obtain ⟨y⟩ := b
  show (x == y) = false
  exact beq_eq_false_iff_ne.2 (fun e => h (by rw [e]))
/-- Behind the row in which the label is chosen. -/
def LabR (w : World) (v : Value) (wx : World) : Prop :=
  ∃ (g i : Nat), v = .pointer (some ⟨g, 0, none⟩) ∧ w.heap.size ≤ g ∧ LAt wx g (lab3 i) ∧ Fr (fun _ => False) w wx
/-- Behind the row in which it is chosen how the label is laid. -/
def LaidR (w : World) (g h : Nat) (l : Lb) (wx : World) : Prop :=
  ∃ ld : Lb, okL ld = true ∧ (ld = l ∨ ld.kind = 3) ∧ LAt wx g l ∧ LAt wx h ld ∧ Fr (fun _ => False) w wx
/-- Between two rounds. -/
def WholeR (w : World) (T : ByteArray) (k n g h u : Nat) (l ld : Lb) (gm : Nat) (v10 v12 : Value) (wx : World) : Prop :=
  ∃ pos i : Nat, v10 = .string (T.extract 0 pos) ∧ v12 = .int .i64 i ∧ pos ≤ T.size ∧ i ≤ n + pos ∧ gm = (T.size - pos) + (n - i) ∧ LAt wx g l ∧ LAt wx h ld ∧
    (∃ cl : Lb, (pos = 0 ∧ cl = l ∨ 1 ≤ pos ∧ cl = ld ∨ pos = T.size) ∧ CAt wx u ⟨2049, cl.kind, cl.bytes, T, pos, k⟩) ∧ (∃ p, PAt wx (u + 1) p ∧ (pos = T.size → p.st = true ∨ p.st = false ∧ p.su = pdS 2049 ld T)) ∧ Fr (fun _ => False) w wx
/-- A space is chosen. -/
def SpR (n i : Nat) (wr : World) (v : Value) (wx : World) : Prop := ∃ s : Nat, v = .int .i64 s ∧ s < 5000 ∧ (s < 20 → i < n) ∧ wr = wx
theorem ne_empty {t : ByteArray} (h : 1 ≤ t.size) : t.toList.isEmpty = false := by
  rw [List.isEmpty_eq_false_iff]
  intro e
  have := ne_bytes (a := t) (b := ByteArray.empty) (fun e => by rw [e] at h; simp at h)
  rw [e] at this
  exact absurd this (by simp)
/-- What stands behind the row in which a space is chosen, to the round's end. -/
def cSnd : Code → Code | .seq _ b => b | c => c
def cFst : Code → Code | .seq a _ => a | c => c
def cIn : Code → Code | .block _ b => b | .loop b => b | c => c
def cBody : Option Code → Code | some c => c | none => .skip
theorem whole_end (W : World) (Pn : Pc) (Dn : Ct) (q1 i : Nat) {w : World} {T al2 : ByteArray} {k n g h u : Nat} {l ld : Lb} {c0 : Ct} {p0 : Pc} (hL : LAt W g l) (hM : LAt W h ld) (hC : CAt W u c0) (hP : PAt W (u + 1) p0) (hF : Fr (fun _ => False) w W) (hg : g < u) (hh : h < u) (hu : w.heap.size ≤ u)
    (hq : q1 ≤ T.size) (hi : i + 1 ≤ n + q1) (hal : al2 = T.extract 0 q1) (hcl : ∃ cl : Lb, (q1 = 0 ∧ cl = l ∨ 1 ≤ q1 ∧ cl = ld ∨ q1 = T.size) ∧ Dn = ⟨2049, cl.kind, cl.bytes, T, q1, k⟩) (hpe : q1 = T.size → Pn.st = true ∨ Pn.st = false ∧ Pn.su = pdS 2049 ld T) :
    WholeR w T k n g h u l ld ((T.size - q1) + (n - (i + 1))) (.string al2) (.int .i64 ((i : Int) + 1)) (putC (putP W (u + 1) Pn) u Dn) := by
  obtain ⟨cl, h1, h2⟩ := hcl
  have f1 : Fr (· = u + 1) W (putP W (u + 1) Pn) := Fr.putP (S := (· = u + 1)) (Fr.refl _ _) (u + 1) (.inl rfl) Pn
  have f2 : Fr (· = u) (putP W (u + 1) Pn) (putC (putP W (u + 1) Pn) u Dn) := Fr.putC (S := (· = u)) (Fr.refl _ _) u (.inl rfl) Dn
  have hP1 := (hP.put Pn).keep f2 (by omega)
  have hC1 := (hC.keep f1 (by omega)).put Dn
  refine ⟨q1, i + 1, by rw [hal], by rw [show ((i + 1 : Nat) : Int) = (i : Int) + 1 by omega], hq, hi, rfl, (hL.keep f1 (by omega)).keep f2 (by omega), (hM.keep f1 (by omega)).keep f2 (by omega), ⟨cl, h1, ?_⟩, ⟨Pn, hP1, hpe⟩, Fr.putC (Fr.putP hF (u + 1) (.inr (by omega)) Pn) u (.inr hu) Dn⟩
  rw [← h2]
  exact hC1
end Go.Proofs.YtenbhnemlfhioaaDoor
