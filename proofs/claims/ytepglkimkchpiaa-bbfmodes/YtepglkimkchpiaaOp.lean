/- Headers that were handed in; the contract of the landed package. -/
import Derived.Test.YtepglkimkchpiaaNc
import Derived.Test.YtepglkimkchpiaaNe
import Derived.Test.YtepglkimkchpiaaPj
import Derived.Deep.Slices
import Derived.Lib.SmallJoins
namespace Go.Proofs.Ytepglkimkchpiaa
open Go.RowKit Go.PlainAid Go.Shelf

/-- Package bbh keeps its contract. -/
theorem bbh_p : BbhP := ⟨check_any, encode_any, decode_any⟩
theorem cells23 : Try.prog.cellsOf 40 = 5 := by kernel_rfl
theorem cells3 : Try.prog.cellsOf 3 = 1 := by kernel_rfl
theorem head_of {H : Type} {enc : TypeId × Value → H} {w : World} {base : Nat} {spare : Nat → Bool} {held : Bool} {fuel : Nat} {cs : List Value} {x : DataW H × List MemPlace}
    (h : DataW.trod enc Try.prog w base spare held fuel 40 cs = some x) : ∃ q : Hd, cs = [.int .i64 q.mt, .int .i64 q.up, .int .i64 q.df, .int .i64 q.sy, .int .i64 q.sd] := by
  obtain ⟨xs, k, _, _, hl, hxs, ha⟩ := DataW.trod_struct Try.underlying40 h
  rw [cells23] at hl
  simp at hxs
  match cs, hl with
  | [x0, x1, x2, x3, x4], _ =>
    have g : ∀ i (hi : i < 5), ∃ y, xs[i]? = some y := fun i hi => ⟨xs[i], List.getElem?_eq_getElem (by omega)⟩
    obtain ⟨y0, z0⟩ := g 0 (by omega); obtain ⟨y1, z1⟩ := g 1 (by omega); obtain ⟨y2, z2⟩ := g 2 (by omega); obtain ⟨y3, z3⟩ := g 3 (by omega); obtain ⟨y4, z4⟩ := g 4 (by omega)
    have a0 := ha 0 _ rfl; have a1 := ha 1 _ rfl; have a2 := ha 2 _ rfl; have a3 := ha 3 _ rfl; have a4 := ha 4 _ rfl
    simp only [z0, z1, z2, z3, z4] at a0 a1 a2 a3 a4
    obtain ⟨w0, e0, _⟩ := DataW.trod_int Try.underlying3 a0
    obtain ⟨w1, e1, _⟩ := DataW.trod_int Try.underlying3 a1
    obtain ⟨w2, e2, _⟩ := DataW.trod_int Try.underlying3 a2
    obtain ⟨w3, e3, _⟩ := DataW.trod_int Try.underlying3 a3
    obtain ⟨w4, e4, _⟩ := DataW.trod_int Try.underlying3 a4
    simp [cells3] at e0 e1 e2 e3 e4
    subst e0 e1 e2 e3 e4
    exact ⟨⟨w0, w1, w2, w3, w4⟩, rfl⟩
end Go.Proofs.Ytepglkimkchpiaa
