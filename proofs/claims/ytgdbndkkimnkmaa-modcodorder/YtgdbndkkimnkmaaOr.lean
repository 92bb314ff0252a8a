/- The walk of ModcodOrder: who is sturdier is an order. -/
import Derived.Test.YtgdbndkkimnkmaaAl
import Derived.Test.YtgdbndkkimnkmaaWk
namespace Go.Proofs.Ytgdbndkkimnkmaa
open Go.RowKit Go.PlainAid Go.Shelf Go.Sort Go.Lib

theorem stM_in (x y : Int) (hx : 1 ≤ x ∧ x ≤ 28) (hy : 1 ≤ y ∧ y ≤ 28) : stM x y = decide ((rowOf x).need < (rowOf y).need) := by
  simp [stM, nerr, hx, hy]
theorem need_apart (x y : Int) (hx : 1 ≤ x ∧ x ≤ 28) (hy : 1 ≤ y ∧ y ≤ 28) (h : (rowOf x).need = (rowOf y).need) : x = y := by
  obtain ⟨i, hi, ei⟩ := rowOf_in x hx
  obtain ⟨j, hj, ej⟩ := rowOf_in y hy
  rw [ei, ej] at h
  have key : ∀ i j : Fin 28, (tbf i).need = (tbf j).need → i = j := by decide
  have := key i j h
  subst this
  omega
end Go.Proofs.Ytgdbndkkimnkmaa
