/- An array of 256 truths of one's own. -/
import Derived.Test.YtmfdbfbfipbdmaaFw
namespace Go.Proofs.Ytmfdbfbfipbdmaa
open Go.RowKit Go.PlainAid

structure BArr (w : World) (g : Nat) (f : Nat → Bool) : Prop where
  c : ∀ j, j < 256 → w.cell? ⟨g, j, none⟩ = some (.bool (f j))
  fz : ∀ j, j < 256 → w.frozen? ⟨g, j, none⟩ = false
theorem BArr.lt {w : World} {g : Nat} {f : Nat → Bool} (h : BArr w g f) : g < w.heap.size := World.block_lt_of_cell? w _ (h.c 0 (by omega))
theorem BArr.keep {S : Nat → Prop} {w w' : World} {g : Nat} {f : Nat → Bool} (h : BArr w g f) (k : Fr S w w') (h0 : ¬ S g) : BArr w' g f :=
  ⟨fun j hj => k.cell (h.c j hj) h0, fun j hj => (k.frozen (h.c j hj) h0).trans (h.fz j hj)⟩
theorem BArr.set {w : World} {g : Nat} {f : Nat → Bool} (h : BArr w g f) {i : Nat} (hi : i < 256) (b : Bool) : BArr (w.setCell ⟨g, i, none⟩ (.bool b)) g (upd f i b) := by
  refine ⟨fun j hj => ?_, fun j hj => by simpa using h.fz j hj⟩
  by_cases e : j = i
  · subst e
    rw [upd_same]
    exact cell_set_eq _ _ _ _ (h.c _ hj)
  · rw [upd_ne _ _ e, cell_set_ne _ _ _ _ (fun h => e (by injection h with _ h2; exact h2.symm))]
    exact h.c j hj
theorem barr_alloc (w : World) (cs : Array Value) (t : TypeId) (hs : cs = Array.replicate 256 (.bool false)) : BArr (w.alloc (.cells cs t)) w.heap.size (fun _ => false) := by
  subst hs
  refine ⟨fun j hj => ?_, fun j hj => by simp [go_sem]⟩
  simp [go_sem, hj]
end Go.Proofs.Ytmfdbfbfipbdmaa
