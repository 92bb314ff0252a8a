/- What the table of sizes is when a call begins: the listed variable's cells; the door's own heap meets the condition. -/
import Derived.Test.YtenbhnemlfhioaaDoorRows
import Derived.Test.YtenbhnemlfhioaaDoorLa
import Derived.ProofKit
import Derived.LaidMore
import Derived.OpenShut
import Derived.Stop.Joined
namespace Go.Proofs.YtenbhnemlfhioaaDoor
open Go.ChangeShapes Go.WideShapes Go.ChangeAt Go.WideMaps Go.WideElems Go.RowKit

theorem own : ownKnob Tryd.prog.godebug = none := by kernel_rfl
theorem laidOut : laidOutB Tryd.prog = true := by kernel_rfl
theorem gSizes : Tryd.prog.globalNamed "aerial/label.sizes" = some 0 := by kernel_rfl
theorem tSizes : (Tryd.prog.globals[0]?).map (·.type) = some 79 := by kernel_rfl
abbrev laid1 : List (String × DataW Unit) := [("aerial/label.sizes", Rows.laid_aerial_label_sizes)]

/-- The door's own heap meets the condition. -/
theorem door_met (os : Os) (args : Array Value) : laidMetH Tryd.prog laid1 ((World.doorLaid Tryd.prog 14 os).forCall (fun _ _ => 0) ⟨#[], args, []⟩).memory :=
  laidMetH_of_parts3 (fuel := 8) (laidMet_of_run' 8 (by kernel_rfl) (by kernel_rfl)) (by kernel_rfl) (by kernel_rfl)

set_option maxRecDepth 100000 in
/-- What the condition gives the walks. -/
theorem of_laid {W : World} (h : laidMetH Tryd.prog laid1 W) : Sz W := by
  rw [MakeChecks.laidMetH_plain _ _ _ (by kernel_rfl)] at h
  obtain ⟨ps, ⟨g0, t0, cs0, f0, p0, q0, hg0, ht0, hv0, hd0, _, _⟩, _, _⟩ := h
  obtain rfl := Option.some.inj (gSizes.symm.trans hg0)
  obtain rfl := Option.some.inj (tSizes.symm.trans ht0)
  obtain ⟨xs, m1, rfl, hx1, hlen, hn3, hel⟩ := DataW.trod_array Tryd.underlying79 hd0
  have c3 : Tryd.prog.cellsOf 3 = 1 := by kernel_rfl
  have h0 := hel 0 (by decide)
  have h1 := hel 1 (by decide)
  have h2 := hel 2 (by decide)
  have h3 := hel 3 (by decide)
  simp only [Prod.mk.injEq, Rows.laid_aerial_label_sizes, DataW.agg.injEq] at hx1
  match xs, hn3, hx1, h0, h1, h2, h3 with
  | [x0, x1, x2, x3], _, hx1, h0, h1, h2, h3 =>
    simp only [List.map_cons, List.map_nil, List.cons.injEq] at hx1
    obtain ⟨k0, e0, f0, _⟩ := DataW.trod_int Tryd.underlying3 (show DataW.trod _ Tryd.prog W 0 _ false m1 3 _ = some x0 from h0)
    obtain ⟨k1, e1, f1, _⟩ := DataW.trod_int Tryd.underlying3 (show DataW.trod _ Tryd.prog W 0 _ false m1 3 _ = some x1 from h1)
    obtain ⟨k2, e2, f2, _⟩ := DataW.trod_int Tryd.underlying3 (show DataW.trod _ Tryd.prog W 0 _ false m1 3 _ = some x2 from h2)
    obtain ⟨k3, e3, f3, _⟩ := DataW.trod_int Tryd.underlying3 (show DataW.trod _ Tryd.prog W 0 _ false m1 3 _ = some x3 from h3)
    rw [f0, f1, f2, f3] at hx1
    simp at hx1
    obtain ⟨⟨rfl, rfl, rfl, rfl⟩, _⟩ := hx1
    rw [c3] at e0 e1 e2 e3
    have w0 := World.var?_cell hg0 hv0 0
    have w1 := World.var?_cell hg0 hv0 1
    have w2 := World.var?_cell hg0 hv0 2
    have w3 := World.var?_cell hg0 hv0 3
    obtain ⟨l1⟩ := cs0
    have tk : ∀ (i : Nat) (v : Value), (l1.drop i).take 1 = [v] → l1[i]? = some v := by
      intro i v h
      have := congrArg (fun l => l[0]?) h
      simpa using this
    have t0 := tk 0 _ (by simpa using e0)
    have t1 := tk 1 _ (by simpa using e1)
    have t2 := tk 2 _ (by simpa using e2)
    have t3 := tk 3 _ (by simpa using e3)
    simp at w0 w1 w2 w3
    exact ⟨w0.trans t0, w1.trans t1, w2.trans t2, w3.trans t3⟩
end Go.Proofs.YtenbhnemlfhioaaDoor
