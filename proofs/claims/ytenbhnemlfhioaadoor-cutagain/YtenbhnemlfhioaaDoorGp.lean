/- Pieces as plain data; what may be, and its bytes, as plain functions. -/
import Derived.Test.YtenbhnemlfhioaaDoorLa
import Derived.Test.YtenbhnemlfhioaaDoorBase
import Derived.Test.YtenbhnemlfhioaaDoorQw
import Derived.Laws.ResultCell
namespace Go.Proofs.YtenbhnemlfhioaaDoor
open Go.RowKit Go.PlainAid Go.Shelf

/-! ### Pieces -/
structure Pc where
  st : Bool
  en : Bool
  id : Int
  tot : Int
  ty : Int
  kd : Int
  lb : ByteArray
  da : ByteArray
  su : ByteArray
abbrev Pc.cs (p : Pc) : Array Value := #[.bool p.st, .bool p.en, .int .i64 p.id, .int .i64 p.tot, .int .i64 p.ty, .int .i64 p.kd, .string p.lb, .string p.da, .string p.su]
abbrev Pc.v (p : Pc) : Value := .agg p.cs
def noP : Pc := ⟨false, false, 0, 0, 0, 0, noB, noB, noB⟩

/-- A piece lies at block g. -/
structure PAt (w : World) (g : Nat) (p : Pc) : Prop where
  c0 : w.cell? ⟨g, 0, none⟩ = some (.bool p.st)
  c1 : w.cell? ⟨g, 1, none⟩ = some (.bool p.en)
  c2 : w.cell? ⟨g, 2, none⟩ = some (.int .i64 p.id)
  c3 : w.cell? ⟨g, 3, none⟩ = some (.int .i64 p.tot)
  c4 : w.cell? ⟨g, 4, none⟩ = some (.int .i64 p.ty)
  c5 : w.cell? ⟨g, 5, none⟩ = some (.int .i64 p.kd)
  c6 : w.cell? ⟨g, 6, none⟩ = some (.string p.lb)
  c7 : w.cell? ⟨g, 7, none⟩ = some (.string p.da)
  c8 : w.cell? ⟨g, 8, none⟩ = some (.string p.su)
  fz : ∀ j, j < 9 → w.frozen? ⟨g, j, none⟩ = false
theorem PAt.lt {w : World} {g : Nat} {p : Pc} (h : PAt w g p) : g < w.heap.size := World.block_lt_of_cell? w _ h.c0
theorem PAt.keep {S : Nat → Prop} {w w' : World} {g : Nat} {p : Pc} (h : PAt w g p) (f : Fr S w w') (h0 : ¬ S g) : PAt w' g p :=
  ⟨f.cell h.c0 h0, f.cell h.c1 h0, f.cell h.c2 h0, f.cell h.c3 h0, f.cell h.c4 h0, f.cell h.c5 h0, f.cell h.c6 h0, f.cell h.c7 h0, f.cell h.c8 h0, fun j hj => (World.frozen?_of_block (f.block g h.lt h0)).trans (h.fz j hj)⟩
theorem PAt.drewN {w : World} {g : Nat} {p : Pc} (h : PAt w g p) (n : Nat) : PAt (w.drewN n) g p := ⟨h.c0, h.c1, h.c2, h.c3, h.c4, h.c5, h.c6, h.c7, h.c8, h.fz⟩
theorem pat_alloc (w : World) (p : Pc) (t : TypeId) : PAt (w.alloc (.cells p.cs t)) w.heap.size p := by
  refine ⟨by simp [go_sem], by simp [go_sem], by simp [go_sem], by simp [go_sem], by simp [go_sem], by simp [go_sem], by simp [go_sem], by simp [go_sem], by simp [go_sem], ?_⟩
  intro j _
  simp [go_sem]

/-! ### Numbers in bytes -/
def mayN (n : Int) (m : Int) : Bool := decide (0 ≤ n) && decide (n < m)

/-! ### The fields -/
def hasF (p : Pc) : Nat → Bool
  | 0 => !p.st || !p.en
  | 1 => p.st && !p.en
  | 2 => p.st
  | 3 => p.st
  | 4 => true
  | _ => p.en && !p.st
def setF (p : Pc) : Nat → Bool
  | 0 => p.id != 0
  | 1 => p.tot != 0
  | 2 => p.ty != 0
  | 3 => !(p.kd == 0 && p.lb == noB)
  | 4 => p.da != noB
  | _ => p.su != noB
def layF (p : Pc) : Nat → Option ByteArray
  | 0 => if mayN p.id 256 then some (on p.id.toNat) else none
  | 1 => if mayN p.tot 65536 then some (tw p.tot.toNat) else none
  | 2 => if mayN p.ty 65536 then some (tw p.ty.toNat) else none
  | 3 => if okL ⟨p.kd, p.lb⟩ then some p.lb else none
  | 4 => some p.da
  | _ => if p.su.size = 4 then some p.su else none
def fld (p : Pc) (k : Nat) : Option ByteArray := if hasF p k then layF p k else if setF p k then none else some noB
def fx (p : Pc) (k : Nat) : ByteArray := (fld p k).getD noB

/-! ### What is told of a piece -/
def mayP (p : Pc) : Bool := (fld p 0).isSome && (fld p 1).isSome && (fld p 2).isSome && (fld p 3).isSome && (fld p 4).isSome && (fld p 5).isSome
def bodyP (p : Pc) : ByteArray := fx p 0 ++ fx p 1 ++ fx p 2 ++ fx p 3 ++ fx p 4 ++ fx p 5
def lenP (p : Pc) : Nat := (fx p 0).size + (fx p 1).size + (fx p 2).size + (fx p 3).size + (fx p 4).size + (fx p 5).size
theorem size_bodyP (p : Pc) : (bodyP p).size = lenP p := by simp [bodyP, lenP, ByteArray.size_append]
def errP (p : Pc) : Int := if mayP p then (if 4095 < lenP p then 3 else 0) else 2
def headP (p : Pc) : Nat := lenP p + (if p.st then 32768 + p.kd.toNat * 4096 else 12288) + (if p.en then 16384 else 0)
def encP (p : Pc) : ByteArray := if errP p = 0 then tw (headP p) ++ bodyP p else noB
def sizeP (p : Pc) : Int := if errP p = 0 then 2 + (lenP p : Int) else 0
/-- No field is longer than any text that is made here. -/
structure Fits (p : Pc) : Prop where
  lb : p.lb.size ≤ 100000
  da : p.da.size ≤ 100000
  su : p.su.size ≤ 100000
theorem size_fx (p : Pc) (h : Fits p) (k : Nat) : (fx p k).size ≤ 100000 := by
  have := h.lb; have := h.da; have := h.su
  have hon : ∀ n, (on n).size = 1 := fun _ => rfl
  have htw : ∀ n, (tw n).size = 2 := fun _ => rfl
  have hno : noB.size = 0 := rfl
  unfold fx fld
  rcases k with _ | _ | _ | _ | _ | k <;> simp only [layF] <;> (repeat' split) <;> simp_all
end Go.Proofs.YtenbhnemlfhioaaDoor
