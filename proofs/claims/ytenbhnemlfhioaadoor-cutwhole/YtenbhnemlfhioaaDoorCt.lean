/- What is cut, as plain data; what is cut off next, as a plain function. -/
import Derived.Test.YtenbhnemlfhioaaDoorGp
import Derived.Test.YtenbhnemlfhioaaDoorPp
namespace Go.Proofs.YtenbhnemlfhioaaDoor
open Go.RowKit Go.PlainAid Go.Shelf

/-- A packet that is cut. -/
structure Ct where
  ty : Int
  kd : Int
  lb : ByteArray
  da : ByteArray
  pos : Int
  num : Int
abbrev Ct.cs (c : Ct) : Array Value := #[.int .i64 c.ty, .int .i64 c.kd, .string c.lb, .string c.da, .int .i64 c.pos, .int .i64 c.num]
abbrev Ct.v (c : Ct) : Value := .agg c.cs
/-- One lies at block g. -/
structure CAt (w : World) (g : Nat) (c : Ct) : Prop where
  c0 : w.cell? ⟨g, 0, none⟩ = some (.int .i64 c.ty)
  c1 : w.cell? ⟨g, 1, none⟩ = some (.int .i64 c.kd)
  c2 : w.cell? ⟨g, 2, none⟩ = some (.string c.lb)
  c3 : w.cell? ⟨g, 3, none⟩ = some (.string c.da)
  c4 : w.cell? ⟨g, 4, none⟩ = some (.int .i64 c.pos)
  c5 : w.cell? ⟨g, 5, none⟩ = some (.int .i64 c.num)
  fz : ∀ j, j < 6 → w.frozen? ⟨g, j, none⟩ = false
theorem CAt.lt {w : World} {g : Nat} {c : Ct} (h : CAt w g c) : g < w.heap.size := World.block_lt_of_cell? w _ h.c0
theorem CAt.keep {S : Nat → Prop} {w w' : World} {g : Nat} {c : Ct} (h : CAt w g c) (f : Fr S w w') (h0 : ¬ S g) : CAt w' g c := by
  obtain ⟨c0, c1, c2, c3, c4, c5, fz⟩ := h
  refine ⟨f.cell c0 h0, f.cell c1 h0, f.cell c2 h0, f.cell c3 h0, f.cell c4 h0, f.cell c5 h0, fun j hj => ?_⟩
  have : j = 0 ∨ j = 1 ∨ j = 2 ∨ j = 3 ∨ j = 4 ∨ j = 5 := by omega
  rcases this with rfl | rfl | rfl | rfl | rfl | rfl
  · exact (f.frozen c0 h0).trans (fz _ hj)
  · exact (f.frozen c1 h0).trans (fz _ hj)
  · exact (f.frozen c2 h0).trans (fz _ hj)
  · exact (f.frozen c3 h0).trans (fz _ hj)
  · exact (f.frozen c4 h0).trans (fz _ hj)
  · exact (f.frozen c5 h0).trans (fz _ hj)
theorem cat_alloc (w : World) (c : Ct) (t : TypeId) : CAt (w.alloc (.cells c.cs t)) w.heap.size c := by
  refine ⟨by simp [go_sem], by simp [go_sem], by simp [go_sem], by simp [go_sem], by simp [go_sem], by simp [go_sem], fun j _ => by simp [go_sem]⟩

/-- One is stored over another one. -/
abbrev putC (w : World) (g : Nat) (d : Ct) : World := (((((w.setCell ⟨g, 0, none⟩ (.int .i64 d.ty)).setCell ⟨g, 1, none⟩ (.int .i64 d.kd)).setCell ⟨g, 2, none⟩ (.string d.lb)).setCell ⟨g, 3, none⟩ (.string d.da)).setCell ⟨g, 4, none⟩ (.int .i64 d.pos)).setCell ⟨g, 5, none⟩ (.int .i64 d.num)
theorem CAt.put {w : World} {g : Nat} {c : Ct} (h : CAt w g c) (d : Ct) : CAt (putC w g d) g d := by
  obtain ⟨c0, c1, c2, c3, c4, c5, fz⟩ := h
  have key : ∀ (W : World) (i j : Nat) (v : Value), i ≠ j → (W.setCell ⟨g, i, none⟩ v).cell? ⟨g, j, none⟩ = W.cell? ⟨g, j, none⟩ := fun W i j v e => cell_set_ne W _ _ _ (fun h => e (by injection h))
  refine ⟨?_, ?_, ?_, ?_, ?_, ?_, fun j hj => by simp only [putC, World.frozen?_setCell]; exact fz j hj⟩
  · rw [putC, key _ _ _ _ (by decide), key _ _ _ _ (by decide), key _ _ _ _ (by decide), key _ _ _ _ (by decide), key _ _ _ _ (by decide)]
    exact cell_set_eq _ _ _ _ c0
  · rw [putC, key _ _ _ _ (by decide), key _ _ _ _ (by decide), key _ _ _ _ (by decide), key _ _ _ _ (by decide)]
    exact cell_set_eq _ _ _ _ (by rw [key _ _ _ _ (by decide)]; exact c1)
  · rw [putC, key _ _ _ _ (by decide), key _ _ _ _ (by decide), key _ _ _ _ (by decide)]
    exact cell_set_eq _ _ _ _ (by rw [key _ _ _ _ (by decide), key _ _ _ _ (by decide)]; exact c2)
  · rw [putC, key _ _ _ _ (by decide), key _ _ _ _ (by decide)]
    exact cell_set_eq _ _ _ _ (by rw [key _ _ _ _ (by decide), key _ _ _ _ (by decide), key _ _ _ _ (by decide)]; exact c3)
  · rw [putC, key _ _ _ _ (by decide)]
    exact cell_set_eq _ _ _ _ (by rw [key _ _ _ _ (by decide), key _ _ _ _ (by decide), key _ _ _ _ (by decide), key _ _ _ _ (by decide)]; exact c4)
  · exact cell_set_eq _ _ _ _ (by rw [key _ _ _ _ (by decide), key _ _ _ _ (by decide), key _ _ _ _ (by decide), key _ _ _ _ (by decide), key _ _ _ _ (by decide)]; exact c5)
theorem Fr.putC {S : Nat → Prop} {a w : World} (h : Fr S a w) (g : Nat) (hg : S g ∨ a.heap.size ≤ g) (d : Ct) : Fr S a (putC w g d) :=
  Fr.setCell (Fr.setCell (Fr.setCell (Fr.setCell (Fr.setCell (Fr.setCell h (p := ⟨g, 0, none⟩) hg _) (p := ⟨g, 1, none⟩) hg _) (p := ⟨g, 2, none⟩) hg _) (p := ⟨g, 3, none⟩) hg _) (p := ⟨g, 4, none⟩) hg _) (p := ⟨g, 5, none⟩) hg _

/-- May it be? -/
def mayC (c : Ct) : Bool := decide (0 ≤ c.ty) && decide (c.ty ≤ 65535) && okL ⟨c.kd, c.lb⟩ && decide (1 ≤ c.da.size) && decide (c.da.size ≤ 65519) && decide (0 ≤ c.pos) && decide (c.pos < c.da.size) && decide (0 ≤ c.num) && decide (c.num < 256)
def badN (c : Ct) (l : Lb) : Bool := !mayC c || !okL l || (decide (c.pos = 0) && !(decide (l.kind = c.kd) && decide (l.bytes = c.lb)) && !decide (l.kind = 3))
/-- What is cut off at the start. -/
def nxS (c : Ct) (l : Lb) (s : Int) (wh : Bool) : Pc × Ct × Int :=
  if 4 + szI l.kind + (c.da.size : Int) ≤ s then (⟨true, true, 0, 0, c.ty, l.kind, l.bytes, c.da, noB⟩, { c with pos := c.da.size }, 0)
  else if wh = true ∨ s - 7 - szI l.kind < 1 ∨ c.da.size = 1 then (noP, c, 12)
  else (⟨true, false, c.num, pdT l c.da.size, c.ty, l.kind, l.bytes, c.da.extract 0 (min (s - 7 - szI l.kind) ((c.da.size : Int) - 1)).toNat, noB⟩, { c with pos := min (s - 7 - szI l.kind) ((c.da.size : Int) - 1), kd := l.kind, lb := l.bytes }, 0)
/-- What is cut off behind that. -/
def nxB (c : Ct) (s : Int) : Pc × Ct × Int :=
  if 7 + ((c.da.size : Int) - c.pos) ≤ s then (⟨false, true, c.num, 0, 0, 0, noB, c.da.extract c.pos.toNat c.da.size, pdS c.ty ⟨c.kd, c.lb⟩ c.da⟩, { c with pos := c.da.size }, 0)
  else if s - 3 < 1 ∨ (c.da.size : Int) - c.pos = 1 then (noP, c, 12)
  else (⟨false, false, c.num, 0, 0, 0, noB, c.da.extract c.pos.toNat (c.pos + min (s - 3) ((c.da.size : Int) - c.pos - 1)).toNat, noB⟩, { c with pos := c.pos + min (s - 3) ((c.da.size : Int) - c.pos - 1) }, 0)
def nx (c : Ct) (l : Lb) (s : Int) (wh : Bool) : Pc × Ct × Int :=
  if badN c l = true then (noP, c, 2) else if c.pos = 0 then nxS c l (min s 4097) wh else nxB c (min s 4097)
/-- What cut.Next tells: the contract that the laws' walks stand on. -/
structure NextP : Prop where
  next : ∀ (c : Ct) (l : Lb) (s : Int) (wh : Bool) (w : World), Sz w → -1000 ≤ s → s ≤ 4611686018427387904 → c.da.size ≤ 1000000 →
    Calls Tryd.prog 7 #[c.v, l.v, .int .i64 s, .bool wh] w fun e w' => e = .returned (.tuple #[(nx c l s wh).1.v, (nx c l s wh).2.1.v, .int .i64 (nx c l s wh).2.2]) ∧ Fr (fun _ => False) w w'
theorem NextP.is (P : NextP) {c : Ct} {l : Lb} {s : Int} {wh : Bool} {p : Pc} {d : Ct} {e : Int} (h : nx c l s wh = (p, d, e)) (h0 : -1000 ≤ s) (h1 : s ≤ 4611686018427387904) (h2 : c.da.size ≤ 1000000) (w : World) (hS : Sz w) :
    Calls Tryd.prog 7 #[c.v, l.v, .int .i64 s, .bool wh] w fun e' w' => e' = .returned (.tuple #[p.v, d.v, .int .i64 e]) ∧ Fr (fun _ => False) w w' := by
  have := P.next c l s wh w hS h0 h1 h2
  rw [h] at this
  exact this
end Go.Proofs.YtenbhnemlfhioaaDoor
