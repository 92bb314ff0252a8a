/- Headers in memory. -/
import Derived.Test.YtepglkimkchpiaaHp
namespace Go.Proofs.Ytepglkimkchpiaa
open Go.RowKit Go.PlainAid Go.Lib

/-- A header lies at block g. -/
structure HAt (w : World) (g : Nat) (h : Hd) : Prop where
  c0 : w.cell? ⟨g, 0, none⟩ = some (.int .i64 h.mt)
  c1 : w.cell? ⟨g, 1, none⟩ = some (.int .i64 h.up)
  c2 : w.cell? ⟨g, 2, none⟩ = some (.int .i64 h.df)
  c3 : w.cell? ⟨g, 3, none⟩ = some (.int .i64 h.sy)
  c4 : w.cell? ⟨g, 4, none⟩ = some (.int .i64 h.sd)
  fz : ∀ j, j < 5 → w.frozen? ⟨g, j, none⟩ = false
theorem HAt.lt {w : World} {g : Nat} {h : Hd} (a : HAt w g h) : g < w.heap.size := World.block_lt_of_cell? w _ a.c0
theorem HAt.keep {S : Nat → Prop} {w w' : World} {g : Nat} {h : Hd} (a : HAt w g h) (f : Fr S w w') (h0 : ¬ S g) : HAt w' g h :=
  ⟨f.cell a.c0 h0, f.cell a.c1 h0, f.cell a.c2 h0, f.cell a.c3 h0, f.cell a.c4 h0, fun j hj => (World.frozen?_of_block (f.block g a.lt h0)).trans (a.fz j hj)⟩
theorem hat_alloc (w : World) (h : Hd) (t : TypeId) : HAt (w.alloc (.cells h.cs t)) w.heap.size h := by
  refine ⟨by simp [go_sem], by simp [go_sem], by simp [go_sem], by simp [go_sem], by simp [go_sem], fun j _ => by simp [go_sem]⟩
abbrev putH (w : World) (g : Nat) (h : Hd) : World := ((((w.setCell ⟨g, 0, none⟩ (.int .i64 h.mt)).setCell ⟨g, 1, none⟩ (.int .i64 h.up)).setCell ⟨g, 2, none⟩ (.int .i64 h.df)).setCell ⟨g, 3, none⟩ (.int .i64 h.sy)).setCell ⟨g, 4, none⟩ (.int .i64 h.sd)
theorem HAt.put {w : World} {g : Nat} {h : Hd} (a : HAt w g h) (d : Hd) : HAt (putH w g d) g d := by
  obtain ⟨c0, c1, c2, c3, c4, fz⟩ := a
  have key : ∀ (W : World) (i j : Nat) (v : Value), i ≠ j → (W.setCell ⟨g, i, none⟩ v).cell? ⟨g, j, none⟩ = W.cell? ⟨g, j, none⟩ := fun W i j v e => cell_set_ne W _ _ _ (fun h => e (by injection h))
  refine ⟨?_, ?_, ?_, ?_, ?_, fun j hj => by simp only [putH, World.frozen?_setCell]; exact fz j hj⟩
  · rw [putH, key _ _ _ _ (by decide), key _ _ _ _ (by decide), key _ _ _ _ (by decide), key _ _ _ _ (by decide)]
    exact cell_set_eq _ _ _ _ c0
  · rw [putH, key _ _ _ _ (by decide), key _ _ _ _ (by decide), key _ _ _ _ (by decide)]
    exact cell_set_eq _ _ _ _ (by rw [key _ _ _ _ (by decide)]; exact c1)
  · rw [putH, key _ _ _ _ (by decide), key _ _ _ _ (by decide)]
    exact cell_set_eq _ _ _ _ (by rw [key _ _ _ _ (by decide), key _ _ _ _ (by decide)]; exact c2)
  · rw [putH, key _ _ _ _ (by decide)]
    exact cell_set_eq _ _ _ _ (by rw [key _ _ _ _ (by decide), key _ _ _ _ (by decide), key _ _ _ _ (by decide)]; exact c3)
  · exact cell_set_eq _ _ _ _ (by rw [key _ _ _ _ (by decide), key _ _ _ _ (by decide), key _ _ _ _ (by decide), key _ _ _ _ (by decide)]; exact c4)
theorem Fr.putH {S : Nat → Prop} {a w : World} (h : Fr S a w) (g : Nat) (hg : S g ∨ a.heap.size ≤ g) (d : Hd) : Fr S a (putH w g d) :=
  Fr.setCell (Fr.setCell (Fr.setCell (Fr.setCell (Fr.setCell h (p := ⟨g, 0, none⟩) hg _) (p := ⟨g, 1, none⟩) hg _) (p := ⟨g, 2, none⟩) hg _) (p := ⟨g, 3, none⟩) hg _) (p := ⟨g, 4, none⟩) hg _
theorem ret_he {fn : Func} {p t : Tmp} (h : fn.results = #[.cell p 40, .tmp t]) {tmps : Array Value} {w : World} {g : Nat} {q : Hd} {e : Int} (ha : tmps.getD p undef = .pointer (some ⟨g, 0, none⟩)) (ht : tmps.getD t undef = .int .i64 e) (a : HAt w g q) :
    (results fn tmps).run Try.prog w = .ok (.tuple #[q.v, .int .i64 e]) w := by
  have c0 := a.c0; have c1 := a.c1; have c2 := a.c2; have c3 := a.c3; have c4 := a.c4
  simp only [Array.getD_eq_getD_getElem?] at ha ht
  simp [results, h, ha, ht, asAddr, Result.andThen, loadVar, go_sem, c0, c1, c2, c3, c4]
theorem ret_h {fn : Func} {p : Tmp} (h : fn.results = #[.cell p 40]) {tmps : Array Value} {w : World} {g : Nat} {q : Hd} (ha : tmps.getD p undef = .pointer (some ⟨g, 0, none⟩)) (a : HAt w g q) :
    (results fn tmps).run Try.prog w = .ok q.v w := by
  have c0 := a.c0; have c1 := a.c1; have c2 := a.c2; have c3 := a.c3; have c4 := a.c4
  simp only [Array.getD_eq_getD_getElem?] at ha
  simp [results, h, ha, asAddr, Result.andThen, loadVar, go_sem, c0, c1, c2, c3, c4]
abbrev zH : Obj := .cells #[.int .i64 0, .int .i64 0, .int .i64 0, .int .i64 0, .int .i64 0] 40
theorem zh_alloc (w : World) : HAt (w.alloc zH) w.heap.size hd0 := hat_alloc w hd0 40
end Go.Proofs.Ytepglkimkchpiaa
