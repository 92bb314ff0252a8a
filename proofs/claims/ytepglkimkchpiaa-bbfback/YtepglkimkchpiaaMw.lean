/- Modes that were handed in. -/
import Derived.Test.YtepglkimkchpiaaOz
namespace Go.Proofs.Ytepglkimkchpiaa
open Go.RowKit Go.PlainAid Go.Shelf

theorem cellsM : Try.prog.cellsOf 23 = 3 := by kernel_rfl
theorem cells4 : Try.prog.cellsOf 4 = 1 := by kernel_rfl
theorem mode_of {H : Type} {enc : TypeId × Value → H} {w : World} {base : Nat} {spare : Nat → Bool} {held : Bool} {fuel : Nat} {cs : List Value} {x : DataW H × List MemPlace}
    (h : DataW.trod enc Try.prog w base spare held fuel 23 cs = some x) : ∃ (n : Int) (s p : Bool), cs = [.int .i64 n, .bool s, .bool p] := by
  obtain ⟨xs, k, _, _, hl, hxs, ha⟩ := DataW.trod_struct Try.underlying23 h
  rw [cellsM] at hl
  simp at hxs
  match cs, hl with
  | [x0, x1, x2], _ =>
    have g : ∀ i (hi : i < 3), ∃ y, xs[i]? = some y := fun i hi => ⟨xs[i], List.getElem?_eq_getElem (by omega)⟩
    obtain ⟨y0, z0⟩ := g 0 (by omega); obtain ⟨y1, z1⟩ := g 1 (by omega); obtain ⟨y2, z2⟩ := g 2 (by omega)
    have a0 := ha 0 _ rfl; have a1 := ha 1 _ rfl; have a2 := ha 2 _ rfl
    simp only [z0, z1, z2] at a0 a1 a2
    obtain ⟨w0, e0, _⟩ := DataW.trod_int Try.underlying3 a0
    obtain ⟨w1, e1, _⟩ := DataW.trod_bool Try.underlying4 a1
    obtain ⟨w2, e2, _⟩ := DataW.trod_bool Try.underlying4 a2
    simp [cells3, cells4] at e0 e1 e2
    subst e0 e1 e2
    exact ⟨w0, w1, w2, rfl⟩
end Go.Proofs.Ytepglkimkchpiaa
